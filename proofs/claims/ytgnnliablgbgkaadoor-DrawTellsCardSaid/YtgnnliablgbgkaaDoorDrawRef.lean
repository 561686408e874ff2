/-
  What the document's Pair of layer 13 comes to.
-/
import Derived.Test.YtgnnliablgbgkaaDoorDrawM
import Derived.Test.YtgnnliablgbgkaaDoorSpongeRef
import Derived.Test.YtgnnliablgbgkaaDoorGOct
namespace Go.Proofs.YtgnnliablgbgkaaDoor
open Go Go.RowKit
set_option linter.unusedVariables false

def DPairRel (w : World) (g1 g2 g3 : Nat) (s : ByteArray) (res : Drawn) (i : Value) (W : World) : Prop :=
  ∃ (k : Nat) (c : Int), k ≤ 16 ∧ i = .int .i64 k ∧ (-9223372036854775808 ≤ c ∧ c ≤ 9223372036854775807) ∧ Below w.heap.size w W ∧ Duo W g1 (.string s) (.int .i64 c) ∧ Duo W g2 (.string ⟨#[]⟩) (.int .i64 0) ∧ Duo W g3 (.int .u64 0) (.int .u64 0) ∧ pairD (sqB s) (16 - k) c = res
theorem numB_eight (X : ByteArray) (h : X.size = 32) : numB (X.extract 8 X.size) 0 = numB X 8 := numB_part X 1 (by omega)
set_option maxRecDepth 100000 in
set_option maxHeartbeats 4000000 in
theorem rpair_is (s : ByteArray) (c r x y : Int) (ok : Bool) (w : World) (hs : s.size ≤ 10000) (hc : -9223372036854775808 ≤ c ∧ c ≤ 9223372036854775807) (hr : pairD (sqB s) 16 c = (r, (x, y), ok)) :
    Calls Tryd.prog 9 #[spong s c] w fun e w' => e = .returned (.tuple #[spong s r, .agg #[.int .u64 x, .int .u64 y], .bool ok]) ∧ Below w.heap.size w w' := by
  have HR := Lib.hid hr
  have HE : Hid (∀ a : Drawn, a = (r, (x, y), ok) → a.1 = r ∧ a.2.1.1 = x ∧ a.2.1.2 = y ∧ a.2.2 = ok) := Lib.hid fun a h => by subst h; exact ⟨rfl, rfl, rfl, rfl⟩
  clear hr
  go_enter Tryd.func9, Tryd.ntmps9
  go_upto_region 2 with fail
  refine wp_gen (fun W => Below w.heap.size w W ∧ Duo W w.heap.size (.string s) (.int .i64 c) ∧ Duo W (w.heap.size + 1) (.string ⟨#[]⟩) (.int .i64 0) ∧ Duo W (w.heap.size + 1 + 1) (.int .u64 0) (.int .u64 0)) ⟨((((Below.refl _ _).alloc (Nat.le_refl _) _).alloc (by simp) _).alloc (by simp; omega) _), by simp [Duo, go_sem], by simp [Duo, go_sem], by simp [Duo, go_sem]⟩ ?_
  obtain ⟨g1, hg1⟩ : ∃ g, w.heap.size = g := ⟨_, rfl⟩
  obtain ⟨g2, hg2⟩ : ∃ h, g1 + 1 = h := ⟨_, rfl⟩
  obtain ⟨g3, hg3⟩ : ∃ h, g2 + 1 = h := ⟨_, rfl⟩
  rintro W1 ⟨hB, hD1, hD2, hD3⟩
  simp only [hg1] at hD1 hD2 hD3 ⊢
  simp only [hg2] at hD2 hD3 ⊢
  simp only [hg3] at hD3 ⊢
  have n12 : g1 ≠ g2 := by omega
  have n13 : g1 ≠ g3 := by omega
  have n23 : g2 ≠ g3 := by omega
  have l1 : w.heap.size ≤ g1 := by omega
  have l2 : w.heap.size ≤ g2 := by omega
  have l3 : w.heap.size ≤ g3 := by omega
  clear hg1 hg2 hg3
  go_loopw [5] (DPairRel w g1 g2 g3 s (r, (x, y), ok)) (fun i _ => 16 - (intOf i).toNat)
  case atStart => exact ⟨0, c, Nat.zero_le _, rfl, hc, hB, hD1, hD2, hD3, HR.out⟩
  case round =>
    clear hB hD1 hD2 hD3 HR
    obtain ⟨k, c', hk, rfl, hc', hB, hD1, hD2, hD3, hres⟩ := hrel
    by_cases hlt : k < 16
    · have hlt' : (k : Int) < 16 := by omega
      have HRES := Lib.hid (pairD_step (k := 16 - (k + 1)) ((congrArg (fun j => pairD (sqB s) j c') (show 16 - (k + 1) + 1 = 16 - k by omega)).trans hres))
      have q1 := fun W => rsqz_is s c' W hs
      have hup : IntKind.i64.wrap (c' + 1) = up c' := rfl
      rw [hup] at q1
      have hub := up_bd c'
      have hX := sqB_size s c'
      have hX8 := numB_eight _ hX
      have m1 := fun W => rnum_yes (sqB s c') (by omega) W
      have m2 := fun W => rnum_yes ((sqB s c').extract 8 (sqB s c').size) (by rw [ByteArray.size_extract]; omega) W
      rw [hX8] at m2
      have hXI : ((sqB s c').size : Int) = 32 := by omega
      have h8 : ¬ ((sqB s c').size : Int) < 8 := by omega
      generalize up c' = c1 at *
      generalize hXx : sqB s c' = X at *
      generalize numB X 0 = a at *
      generalize numB X 8 = b at *
      have HB := Lib.hid hB; have HD1 := Lib.hid hD1; have HD2 := Lib.hid hD2; have HD3 := Lib.hid hD3
      obtain ⟨x0, x1, _, _⟩ := hD1
      clear hB hD2 hD3 hX hX8 hup hXx
      go_upto_region 5 with (go_at_call 20; (with_reducible refine (q1 _).mono ?_); rintro e w1 ⟨rfl, hb⟩)
      have hb' := bthen HB.out hb
      have hd1 := HD1.out.keep hb; have hd2 := HD2.out.keep hb; have hd3 := HD3.out.keep hb
      have hl1 := hd1.lt
      refine wp_gen (fun W => Below w.heap.size w W ∧ (Duo W g1 (.string s) (.int .i64 c') ∧ Duo W g2 (.string ⟨#[]⟩) (.int .i64 0) ∧ Duo W g3 (.int .u64 0) (.int .u64 0)) ∧ Duo W w1.heap.size (.string s) (.int .i64 c1)) ⟨hb'.alloc hb'.size _, ⟨hd1.keep ((Below.refl _ _).alloc (Nat.le_refl _) _), hd2.keep ((Below.refl _ _).alloc (Nat.le_refl _) _), hd3.keep ((Below.refl _ _).alloc (Nat.le_refl _) _)⟩, by simp [Duo, go_sem]⟩ ?_
      have n16 : w1.heap.size ≠ g1 := by omega
      generalize w1.heap.size = g6 at *
      clear HB HD1 HD2 HD3 x0 x1 hb hb' hd1 hd2 hd3 hl1 q1
      rintro W2 ⟨hB, ⟨hD1, hD2, hD3⟩, hD6⟩
      have HB := Lib.hid hB; have HD1 := Lib.hid hD1; have HD2 := Lib.hid hD2; have HD3 := Lib.hid hD3
      obtain ⟨x0, x1, x2, x3⟩ := hD1
      obtain ⟨y0, y1, _, _⟩ := hD6
      clear hB hD2 hD3
      go_upto_region 6 with fail
      refine wp_gen (fun W => Below w.heap.size w W ∧ Duo W g1 (.string s) (.int .i64 c1) ∧ Duo W g2 (.string ⟨#[]⟩) (.int .i64 0) ∧ Duo W g3 (.int .u64 0) (.int .u64 0)) ⟨(HB.out.setCell l1 _).setCell l1 _, HD1.out.set _ _, (HD2.out.far n12 _ _).far n12 _ _, (HD3.out.far n13 _ _).far n13 _ _⟩ ?_
      clear HB HD1 HD2 HD3 x0 x1 x2 x3 y0 y1
      rintro W3 ⟨hB, hD1, hD2, hD3⟩
      have HB := Lib.hid hB; have HD1 := Lib.hid hD1; have HD2 := Lib.hid hD2; have HD3 := Lib.hid hD3
      obtain ⟨x0, x1, _, _⟩ := hD1
      obtain ⟨y0, y1, y2, y3⟩ := hD2
      obtain ⟨z0, z1, z2, z3⟩ := hD3
      clear hB
      go_upto_region 8 with (go_at_call 21; (first | with_reducible refine (m1 _).mono ?_ | with_reducible refine (m2 _).mono ?_); rintro e w2 ⟨rfl, rfl⟩)
      by_cases ha : a < 18446744069414584321
      · by_cases hb : b < 18446744069414584321
        · have h := HRES.out.1 ha hb
          obtain ⟨e1, e2, e3, e4⟩ := HE.out _ h
          have e1 : c1 = r := e1
          have e2 : a = x := e2
          have e3 : b = y := e3
          have e4 : true = ok := e4
          subst e1 e2 e3 e4
          clear HE HRES h
          go_wp2_with fail
          exact bodyPost_ret (v := .tuple #[.agg #[.string s, .int .i64 c1], .agg #[.int .u64 a, .int .u64 b], .bool true]) (by simp [results, Tryd.results9, go_sem, y0, y1, z0, z1]) rfl ⟨rfl, (((HB.out.setCell l2 _).setCell l2 _).setCell l3 _).setCell l3 _⟩
        · have h := HRES.out.2 (fun q => hb q.2)
          have H := Lib.hid h
          clear HE HRES h
          go_wp2_with fail
          go_roundw
          case rel => exact ⟨k + 1, c1, by omega, by go_num, hub, HB.out, HD1.out, HD2.out, HD3.out, H.out⟩
          case measure => simp [intOf]; omega
      · have h := HRES.out.2 (fun q => ha q.1)
        have H := Lib.hid h
        clear HE HRES h
        go_wp2_with fail
        go_roundw
        case rel => exact ⟨k + 1, c1, by omega, by go_num, hub, HB.out, HD1.out, HD2.out, HD3.out, H.out⟩
        case measure => simp [intOf]; omega
    · obtain rfl : k = 16 := by omega
      have h : ((c', (0, 0), false) : Drawn) = (r, (x, y), ok) := hres
      obtain ⟨e1, e2, e3, e4⟩ := HE.out _ h
      have e1 : c' = r := e1
      have e2 : (0 : Int) = x := e2
      have e3 : (0 : Int) = y := e3
      have e4 : false = ok := e4
      subst e1 e2 e3 e4
      clear HE h hres
      have HB := Lib.hid hB
      obtain ⟨x0, x1, _, _⟩ := hD1
      obtain ⟨y0, y1, y2, y3⟩ := hD2
      obtain ⟨z0, z1, z2, z3⟩ := hD3
      clear hB
      go_wp2_with fail
      exact bodyPost_ret (v := .tuple #[.agg #[.string s, .int .i64 c'], .agg #[.int .u64 0, .int .u64 0], .bool false]) (by simp [results, Tryd.results9, go_sem, y0, y1, z0, z1]) rfl ⟨rfl, (((HB.out.setCell l2 _).setCell l2 _).setCell l3 _).setCell l3 _⟩
end Go.Proofs.YtgnnliablgbgkaaDoor
