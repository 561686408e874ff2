/-
  What the document's Out of layer 13 comes to.
-/
import Derived.Test.YtgnnliablgbgkaaDoorDrawRef2
import Derived.Test.YtgnnliablgbgkaaDoorZRef
namespace Go.Proofs.YtgnnliablgbgkaaDoor
open Go Go.RowKit
set_option linter.unusedVariables false

def OutRel (w : World) (g1 g2 g3 : Nat) (s : ByteArray) (p : Int → Drawn) (K M : Nat) (res : Drawn) (i : Value) (W : World) : Prop :=
  ∃ (k : Nat) (c : Int), k ≤ 16 ∧ i = .int .i64 k ∧ (-9223372036854775808 ≤ c ∧ c ≤ 9223372036854775807) ∧ Below w.heap.size w W ∧ Duo W g1 (.string s) (.int .i64 c) ∧ Duo W g2 (.string ⟨#[]⟩) (.int .i64 0) ∧ Duo W g3 (.int .u64 0) (.int .u64 0) ∧ outD p K M (16 - k) c = res
theorem outD_zero {p : Int → Drawn} {K M : Nat} {c : Int} {res : Drawn} (h : outD p K M (16 - 16) c = res) : (c, (0, 0), false) = res := h
set_option maxRecDepth 100000 in
set_option maxHeartbeats 4000000 in
theorem rout_is (s : ByteArray) (c : Int) (K M : Nat) (r x y : Int) (ok : Bool) (w : World) (hs : s.size ≤ 10000) (hc : -9223372036854775808 ≤ c ∧ c ≤ 9223372036854775807) (hK : K ≤ 32) (hM : M ≤ 32) (hr : outD (pairD (sqB s) 16) K M 16 c = (r, (x, y), ok)) :
    Calls Tryd.prog 16 #[spong s c, .int .i64 K, .int .i64 M] w fun e w' => e = .returned (.tuple #[spong s r, .agg #[.int .u64 x, .int .u64 y], .bool ok]) ∧ Below w.heap.size w w' := by
  have HR := Lib.hid hr
  have HE : Hid (∀ a : Drawn, a = (r, (x, y), ok) → a.1 = r ∧ a.2.1.1 = x ∧ a.2.1.2 = y ∧ a.2.2 = ok) := Lib.hid fun a h => by subst h; exact ⟨rfl, rfl, rfl, rfl⟩
  clear hr
  go_enter Tryd.func16, Tryd.ntmps16
  go_upto_region 2 with fail
  refine wp_gen (fun W => Below w.heap.size w W ∧ Duo W w.heap.size (.string s) (.int .i64 c) ∧ Duo W (w.heap.size + 1) (.string ⟨#[]⟩) (.int .i64 0) ∧ Duo W (w.heap.size + 1 + 1) (.int .u64 0) (.int .u64 0)) ⟨((((Below.refl _ _).alloc (Nat.le_refl _) _).alloc (by simp) _).alloc (by simp; omega) _), by simp [Duo, go_sem], by simp [Duo, go_sem], by simp [Duo, go_sem]⟩ ?_
  obtain ⟨g1, hg1⟩ : ∃ g, w.heap.size = g := ⟨_, rfl⟩
  obtain ⟨g2, hg2⟩ : ∃ h, g1 + 1 = h := ⟨_, rfl⟩
  obtain ⟨g3, hg3⟩ : ∃ h, g2 + 1 = h := ⟨_, rfl⟩
  rintro W1 ⟨hB, hD1, hD2, hD3⟩
  simp only [hg1] at hD1 hD2 hD3 ⊢
  simp only [hg2] at hD2 hD3 ⊢
  simp only [hg3] at hD3 ⊢
  have n12 : g1 ≠ g2 := by omega
  have n13 : g1 ≠ g3 := by omega
  have n23 : g2 ≠ g3 := by omega
  have l1 : w.heap.size ≤ g1 := by omega
  have l2 : w.heap.size ≤ g2 := by omega
  have l3 : w.heap.size ≤ g3 := by omega
  clear hg1 hg2 hg3
  go_loopw [9] (OutRel w g1 g2 g3 s (pairD (sqB s) 16) K M (r, (x, y), ok)) (fun i _ => 16 - (intOf i).toNat)
  case atStart => exact ⟨0, c, Nat.zero_le _, rfl, hc, hB, hD1, hD2, hD3, HR.out⟩
  case round =>
    clear hB hD1 hD2 hD3 HR
    obtain ⟨k, c', hk, rfl, hc', hB, hD1, hD2, hD3, hres⟩ := hrel
    by_cases hlt : k < 16
    · have hlt' : (k : Int) < 16 := by omega
      obtain ⟨c1, a, b, okp, hp⟩ := drawn_eta (pairD (sqB s) 16 c')
      have HRES := Lib.hid (outD_step (k := 16 - (k + 1)) ((congrArg (fun j => outD (pairD (sqB s) 16) K M j c') (show 16 - (k + 1) + 1 = 16 - k by omega)).trans hres) hp)
      have hub := pairD_bd (sqB s) 16 c' hc'
      have hft := pairD_fit (sqB s) 16 c'
      rw [hp] at hub hft
      have hub : -9223372036854775808 ≤ c1 ∧ c1 ≤ 9223372036854775807 := hub
      have hft : (0 ≤ a ∧ a < 18446744069414584321) ∧ (0 ≤ b ∧ b < 18446744069414584321) := hft
      have q1 := fun W => rpair_is s c' c1 a b okp W hs hc' hp
      obtain ⟨bo, hbo⟩ : ∃ bo, outv (q2 a b) K M = bo := ⟨_, rfl⟩
      have z1 := fun W => rzout_is K M a b (q2 a b) bo hK hM (rep_raw (by unfold U; omega) (by unfold U; omega)) hbo W
      rw [hbo] at HRES
      have HB := Lib.hid hB; have HD1 := Lib.hid hD1; have HD2 := Lib.hid hD2; have HD3 := Lib.hid hD3
      obtain ⟨x0, x1, _, _⟩ := hD1
      clear hB hD2 hD3 hp hres hft hbo
      go_upto_region 5 with (go_at_call 9; (with_reducible refine (q1 _).mono ?_); rintro e w1 ⟨rfl, hb⟩)
      have hb' := bthen HB.out hb
      have hd1 := HD1.out.keep hb; have hd2 := HD2.out.keep hb; have hd3 := HD3.out.keep hb
      have hl1 := hd1.lt
      have hb2 := ((Below.refl w1.heap.size w1).alloc (Nat.le_refl _) (.cells #[.string s, .int .i64 c1] 23)).alloc (by simp) (.cells #[.int .u64 a, .int .u64 b] 27)
      refine wp_gen (fun W => Below w.heap.size w W ∧ (Duo W g1 (.string s) (.int .i64 c') ∧ Duo W g2 (.string ⟨#[]⟩) (.int .i64 0) ∧ Duo W g3 (.int .u64 0) (.int .u64 0)) ∧ Duo W w1.heap.size (.string s) (.int .i64 c1) ∧ Duo W (w1.heap.size + 1) (.int .u64 a) (.int .u64 b)) ⟨bthen hb' hb2, ⟨hd1.keep hb2, hd2.keep hb2, hd3.keep hb2⟩, by simp [Duo, go_sem], by simp [Duo, go_sem]⟩ ?_
      obtain ⟨g9, hg9⟩ : ∃ g, w1.heap.size = g := ⟨_, rfl⟩
      obtain ⟨g10, hg10⟩ : ∃ h, g9 + 1 = h := ⟨_, rfl⟩
      rintro W2 ⟨hB, ⟨hD1, hD2, hD3⟩, hD9, hD10⟩
      simp only [hg9] at hD9 hD10 ⊢
      simp only [hg10] at hD10 ⊢
      have n91 : g9 ≠ g1 := by omega
      have n101 : g1 ≠ g10 := by omega
      have n102 : g2 ≠ g10 := by have := hd2.lt; omega
      have n103 : g3 ≠ g10 := by have := hd3.lt; omega
      have n201 := n102.symm; have n301 := n103.symm; have n21 := n12.symm; have n31 := n13.symm; have n32 := n23.symm
      clear HB HD1 HD2 HD3 x0 x1 hb hb' hd1 hd2 hd3 hl1 q1 hb2 hg9 hg10
      have HB := Lib.hid hB; have HD1 := Lib.hid hD1; have HD2 := Lib.hid hD2; have HD3 := Lib.hid hD3; have HD10 := Lib.hid hD10
      obtain ⟨x0, x1, x2, x3⟩ := hD1
      obtain ⟨y0, y1, _, _⟩ := hD9
      clear hB hD2 hD3 hD10
      go_upto_region 6 with fail
      refine wp_gen (fun W => Below w.heap.size w W ∧ Duo W g1 (.string s) (.int .i64 c1) ∧ Duo W g2 (.string ⟨#[]⟩) (.int .i64 0) ∧ Duo W g3 (.int .u64 0) (.int .u64 0) ∧ Duo W g10 (.int .u64 a) (.int .u64 b)) ⟨(HB.out.setCell l1 _).setCell l1 _, HD1.out.set _ _, (HD2.out.far n12 _ _).far n12 _ _, (HD3.out.far n13 _ _).far n13 _ _, (HD10.out.far n101 _ _).far n101 _ _⟩ ?_
      clear HB HD1 HD2 HD3 HD10 x0 x1 x2 x3 y0 y1
      rintro W3 ⟨hB, hD1, hD2, hD3, hD10⟩
      have HB := Lib.hid hB; have HD1 := Lib.hid hD1; have HD2 := Lib.hid hD2; have HD3 := Lib.hid hD3
      obtain ⟨x0, x1, _, _⟩ := hD1
      obtain ⟨y0, y1, y2, y3⟩ := hD2
      obtain ⟨z0, z1', z2, z3⟩ := hD3
      clear hB
      cases okp with
      | false =>
        obtain ⟨e1, e2, e3, e4⟩ := HE.out _ (HRES.out.1 rfl)
        have e1 : c1 = r := e1
        have e2 : (0 : Int) = x := e2
        have e3 : (0 : Int) = y := e3
        have e4 : false = ok := e4
        subst e1 e2 e3 e4
        clear HE HRES hD10
        go_wp2_with fail
        exact bodyPost_ret (v := .tuple #[.agg #[.string s, .int .i64 c1], .agg #[.int .u64 0, .int .u64 0], .bool false]) (by simp [results, Tryd.results16, go_sem, y0, y1, z0, z1']) rfl ⟨rfl, (((HB.out.setCell l2 _).setCell l2 _).setCell l3 _).setCell l3 _⟩
      | true =>
        have HDT := Lib.hid hD10
        obtain ⟨t0, t1, _, _⟩ := hD10
        cases bo with
        | true =>
          obtain ⟨e1, e2, e3, e4⟩ := HE.out _ (HRES.out.2.1 rfl rfl)
          have e1 : c1 = r := e1
          have e2 : a = x := e2
          have e3 : b = y := e3
          have e4 : true = ok := e4
          subst e1 e2 e3 e4
          clear HE HRES
          go_upto_region 9 with (go_at_call 17; (with_reducible refine (z1 _).mono ?_); rintro e w2 ⟨rfl, hb⟩; replace y2 := bfree hb y0 y2; replace y3 := bfree hb y1 y3; replace y0 := bkeep hb y0; replace y1 := bkeep hb y1; replace z2 := bfree hb z0 z2; replace z3 := bfree hb z1' z3; replace z0 := bkeep hb z0; replace z1' := bkeep hb z1'; replace x0 := bkeep hb x0; replace x1 := bkeep hb x1; replace t0 := bkeep hb t0; replace t1 := bkeep hb t1; replace HB := Lib.hid (bthen HB.out hb); clear hb)
          go_region
          all_goals
            go_wp2_with fail
            exact bodyPost_ret (v := .tuple #[.agg #[.string s, .int .i64 c1], .agg #[.int .u64 a, .int .u64 b], .bool true]) (by simp [results, Tryd.results16, go_sem, y0, y1, z0, z1']) rfl ⟨rfl, by first | exact ((((HB.out.setCell l2 _).setCell l2 _).setCell l3 _).setCell l3 _).drew | exact ((((HB.out.setCell l3 _).setCell l3 _).setCell l2 _).setCell l2 _).drew⟩
        | false =>
          have H := Lib.hid (HRES.out.2.2 rfl rfl)
          clear HE HRES y0 y1 y2 y3 z0 z1' z2 z3 x0 x1
          go_wp2_with (go_at_call 17; (with_reducible refine (z1 _).mono ?_); rintro e w2 ⟨rfl, hb⟩)
          go_roundw
          case rel => exact ⟨k + 1, c1, by omega, by go_num, hub, bthen HB.out hb, HD1.out.keep hb, HD2.out.keep hb, HD3.out.keep hb, H.out⟩
          case measure => simp [intOf]; omega
    · obtain rfl : k = 16 := by omega
      obtain ⟨e1, e2, e3, e4⟩ := HE.out _ (outD_zero hres)
      have e1 : c' = r := e1
      have e2 : (0 : Int) = x := e2
      have e3 : (0 : Int) = y := e3
      have e4 : false = ok := e4
      subst e1 e2 e3 e4
      clear HE hres
      have HB := Lib.hid hB
      obtain ⟨x0, x1, _, _⟩ := hD1
      obtain ⟨y0, y1, y2, y3⟩ := hD2
      obtain ⟨z0, z1, z2, z3⟩ := hD3
      clear hB
      go_wp2_with fail
      exact bodyPost_ret (v := .tuple #[.agg #[.string s, .int .i64 c'], .agg #[.int .u64 0, .int .u64 0], .bool false]) (by simp [results, Tryd.results16, go_sem, y0, y1, z0, z1]) rfl ⟨rfl, (((HB.out.setCell l2 _).setCell l2 _).setCell l3 _).setCell l3 _⟩
end Go.Proofs.YtgnnliablgbgkaaDoor
