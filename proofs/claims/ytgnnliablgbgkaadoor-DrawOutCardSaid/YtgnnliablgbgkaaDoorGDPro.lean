/-
  DPro0: The program's ReadPairs, once more: where its row lies. (Written by gen_dpro.py.)
  DPro1: The program's Pair of layer 13. (Written by gen_dpro.py.)
  DPro2: The program's Pairs of layer 13. (Written by gen_dpro.py.)
  DPro3: The program's Out of layer 13. (Written by gen_dpro.py.)
  DPro4: The program's Places of layer 13. (Written by gen_dpro.py.)
  DProg: The program's calls of layer 13: what is asked of them is so.
-/
import Derived.Test.YtgnnliablgbgkaaDoorGOctPro
import Derived.Test.YtgnnliablgbgkaaDoorDrawRef
import Derived.Test.YtgnnliablgbgkaaDoorSProg
import Derived.Test.YtgnnliablgbgkaaDoorDrawRef2
import Derived.Test.YtgnnliablgbgkaaDoorDrawRef4
import Derived.Test.YtgnnliablgbgkaaDoorZOut
import Derived.Test.YtgnnliablgbgkaaDoorDrawRef3
import Derived.Laws.Bits64b
namespace Go.Proofs.YtgnnliablgbgkaaDoor
open Go Go.RowKit
set_option linter.unusedVariables false

def ReadPostF (s : ByteArray) (n : Int) (w : World) (e : Ending) (w' : World) : Prop :=
  Below w.heap.size w w' ∧ ((¬ OkR s (2 * n) ∧ e = .returned (.tuple #[.slice none 0 0, .bool false])) ∨
    (OkR s (2 * n) ∧ ∃ b : Nat, w.heap.size ≤ b ∧ e = .returned (.tuple #[.slice (some ⟨b, 0, none⟩) n.toNat n.toNat, .bool true]) ∧ QRow w' (.slice (some ⟨b, 0, none⟩) n.toNat n.toNat) (prs s n.toNat)))
set_option maxHeartbeats 4000000 in
theorem oreadq_fresh (s : ByteArray) (N : Nat) (hN : N ≤ 524288) (w : World) : Calls Tryd.prog 23 #[.string s, .int .i64 N] w (ReadPostF s N w) := by
  have hmk := fun W => run_make_pairs (P := Tryd.prog) 33 27 (.agg #[.int .u64 0, .int .u64 0]) Tryd.underlying33 info8Qr rfl N (by omega) W
  have h0' : ¬ (N : Int) < 0 := by omega
  have h1' : ¬ (N : Int) > 524288 := by omega
  have hw : IntKind.i64.wrap (2 * (N : Int)) = 2 * N := IntWalk.i64_in _ (by omega)
  have kr := fun W => oread_any s (2 * (N : Int)) W
  unfold ReadPost at kr
  go_enter Tryd.func23, Tryd.ntmps23
  go_upto_region 4 with (go_at_call 35; ((with_reducible refine (kr _).mono ?_); rintro e w1 ⟨hb, ⟨ho, rfl⟩ | ⟨ho, a, c, rfl, hrow⟩⟩))
  · have HO := Lib.hid ho
    clear ho kr
    go_wp2
    exact bodyPost_ret (v := .tuple #[.slice none 0 0, .bool false]) (by simp [results, Tryd.results23, go_sem]) rfl ⟨hb, Or.inl ⟨HO.out, rfl⟩⟩
  · have HO := Lib.hid ho
    have ht : (2 * (N : Int)).toNat = 2 * N := by omega
    simp only [ht] at hrow ⊢
    obtain ⟨hl, hm, hcell⟩ := hrow.at
    have HC := Lib.hid hcell
    clear ho kr hrow hcell hl hm h0' h1' hw ht
    go_upto_region 7 with fail
    refine wp_gen (fun W => Below w1.heap.size w1 W ∧ Arr W w1.heap.size (N * 2) (pc (rdQ' s 0))) ⟨(Below.refl _ _).alloc (Nat.le_refl _) _, (Arr.newq w1 N _).same (fun j hj => pc_same (n := N) (fun i _ => rfl) j hj)⟩ ?_
    clear hmk
    rintro W ⟨hB, hA⟩
    have HB0 := Lib.hid hB; have HA0 := Lib.hid hA
    clear hB hA
    go_upto_region 8 with fail
    go_loopw [29] (ReadRelQ w w1 s N) (fun i _ => N - (intOf i).toNat)
    case atStart => exact ⟨0, Nat.zero_le _, rfl, HB0.out, HA0.out⟩
    case round =>
      clear HB0 HA0
      obtain ⟨k, hk, rfl, hB, hA⟩ := hrel
      by_cases hlt : k < N
      · obtain ⟨b, off, rfl, g0⟩ := HC.out (2 * k) (by omega)
        obtain ⟨b', off', e, g1⟩ := HC.out (2 * k + 1) (by omega)
        cases e
        rw [nums_at _ _ _ (by omega)] at g0 g1
        have c0 := bkeep hB g0; have c1 := bkeep hB g1
        have hlt' : (k : Int) < (N : Int) := by omega
        have hw1 : IntKind.i64.wrap (2 * (k : Int)) = 2 * (k : Int) := IntWalk.i64_in _ (by omega)
        have hw2 : IntKind.i64.wrap (2 * (k : Int) + 1) = 2 * (k : Int) + 1 := IntWalk.i64_in _ (by omega)
        have hw3 : wrap64 (2 * (k : Int) + 1) = 2 * (k : Int) + 1 := IntWalk.wrap64_in _ (by omega)
        have hw4 : wrap64 (2 * (k : Int)) = 2 * (k : Int) := IntWalk.wrap64_in _ (by omega)
        have ht1 : (2 * (k : Int)).toNat = 2 * k := by omega
        have ht2 : (2 * (k : Int) + 1).toNat = 2 * k + 1 := by omega
        have hp1 : 0 ≤ 2 * (k : Int) := by omega
        have hp2 : 0 ≤ 2 * (k : Int) + 1 := by omega
        have hp3 : 2 * (k : Int) < 2 * (N : Int) := by omega
        have hp4 : 2 * (k : Int) + 1 < 2 * (N : Int) := by omega
        have hF := Lib.hid (rdQ'_set s k)
        obtain ⟨d0, d1, f0, f1⟩ := hA.cells k hlt
        have HA := Lib.hid hA; have HB := Lib.hid hB
        clear g0 g1 hA hB
        generalize numB s (8 * (2 * k)) = y at *
        generalize numB s (8 * (2 * k + 1)) = y' at *
        go_upto_region 10 with fail
        go_region
        have R1 := Lib.hid (show Below w1.heap.size w1 ((wr.setCell ⟨w1.heap.size, k * 2, none⟩ (.int .u64 y)).setCell ⟨w1.heap.size, k * 2 + 1, none⟩ (.int .u64 y')).drew from ((HB.out.setCell (Nat.le_refl _) _).setCell (Nat.le_refl _) _).drew)
        have R2 := Lib.hid (show Arr ((wr.setCell ⟨w1.heap.size, k * 2, none⟩ (.int .u64 y)).setCell ⟨w1.heap.size, k * 2 + 1, none⟩ (.int .u64 y')).drew w1.heap.size (N * 2) (pc (rdQ' s (k + 1))) from ((HA.out.setq k y y' hlt).same (fun j hj => pc_same (n := N) (fun i _ => hF.out i) j hj)))
        generalize ((wr.setCell ⟨w1.heap.size, k * 2, none⟩ (.int .u64 y)).setCell ⟨w1.heap.size, k * 2 + 1, none⟩ (.int .u64 y')).drew = W2 at *
        clear HA HB hF c0 c1 d0 d1 f0 f1
        go_wp2_with fail
        go_roundw
        case rel => exact ⟨k + 1, by omega, by go_num, R1.out, R2.out⟩
        case measure => simp [intOf]; omega
      · obtain rfl : k = N := by omega
        have hpq : ∀ j, j < k * 2 → pc (rdQ' s k) j = .int .u64 (if j % 2 = 0 then ((prs s k).getD (j / 2) (0, 0)).1 else ((prs s k).getD (j / 2) (0, 0)).2) := by
          intro j hj
          have hj2 : j / 2 < k := by omega
          have e : (prs s k).getD (j / 2) (0, 0) = rdQ' s k (j / 2) := by unfold rdQ'; rw [if_pos hj2]; simp [prs, List.getD, hj2]
          rw [e]
          rfl
        have HR := Lib.hid (Arr.qrow (zs := prs s k) (hA.same hpq) (prs_len s k) (by unfold maxLen; omega))
        have HB := Lib.hid (bthen hb hB); have HSZ := Lib.hid hb.size
        clear hA hB hlt hpq
        go_wp2
        exact bodyPost_ret (v := .tuple #[.slice (some ⟨w1.heap.size, 0, none⟩) k k, .bool true]) (by simp [results, Tryd.results23, go_sem]) rfl ⟨HB.out, Or.inr ⟨HO.out, w1.heap.size, HSZ.out, rfl, HR.out⟩⟩
end Go.Proofs.YtgnnliablgbgkaaDoor
namespace Go.Proofs.YtgnnliablgbgkaaDoor
open Go Go.RowKit
set_option linter.unusedVariables false

theorem extract_num (X : ByteArray) (h : X.size = 32) (o : Nat) (ho : o + 8 ≤ 16) : numB (X.extract 0 16) o = numB X o := by
  unfold numB
  simp only [numP]
  have e : ∀ j, j < 16 → byt (X.extract 0 16) j = byt X j := fun j hj => by rw [byt_extract _ _ _ _ (by omega) (by omega), Nat.zero_add]
  rw [e _ (by omega), e _ (by omega), e _ (by omega), e _ (by omega), e _ (by omega), e _ (by omega), e _ (by omega), e _ (by omega)]
theorem size_first (X : ByteArray) (h : X.size = 32) : (X.extract 0 16).size = 16 := by rw [ByteArray.size_extract]; omega
theorem first_ok (X : ByteArray) (h : X.size = 32) : OkR (X.extract 0 16) (2 * 1) ↔ numB X 0 < 18446744069414584321 ∧ numB X 8 < 18446744069414584321 := by
  unfold OkR
  rw [size_first X h]
  constructor
  · intro ⟨_, _, _, hk⟩
    have h0 := hk 0 (by decide)
    have h1 := hk 1 (by decide)
    rw [extract_num X h _ (by decide)] at h0 h1
    exact ⟨h0, h1⟩
  · intro ⟨h0, h1⟩
    refine ⟨by decide, by decide, by decide, fun k hk => ?_⟩
    have : k = 0 ∨ k = 1 := by omega
    rcases this with rfl | rfl
    · rw [extract_num X h _ (by decide)]; exact h0
    · rw [extract_num X h _ (by decide)]; exact h1
/-- What the first sixteen bytes are read as: no pair, or one, in memory of its own. -/
theorem gread_first (X : ByteArray) (h : X.size = 32) (W : World) : Calls Tryd.prog 23 #[.string (X.extract 0 16), .int .i64 1] W fun e w' => Below W.heap.size W w' ∧
    ((¬ (numB X 0 < 18446744069414584321 ∧ numB X 8 < 18446744069414584321) ∧ e = .returned (.tuple #[.slice none 0 0, .bool false])) ∨
     (numB X 0 < 18446744069414584321 ∧ numB X 8 < 18446744069414584321 ∧ ∃ b : Nat, e = .returned (.tuple #[.slice (some ⟨b, 0, none⟩) 1 1, .bool true]) ∧ w'.cell? ⟨b, 0, none⟩ = some (.int .u64 (numB X 0)) ∧ w'.cell? ⟨b, 1, none⟩ = some (.int .u64 (numB X 8)) ∧ W.heap.size ≤ b)) := by
  have hp : prs (X.extract 0 16) (1 : Int).toNat = [(numB X 0, numB X 8)] := by
    have : prs (X.extract 0 16) (1 : Int).toNat = [(numB (X.extract 0 16) 0, numB (X.extract 0 16) 8)] := rfl
    rw [this, extract_num X h 0 (by decide), extract_num X h 8 (by decide)]
  refine (oreadq_fresh (X.extract 0 16) 1 (by decide) W).mono ?_
  rintro e w' ⟨hb, ⟨hno, rfl⟩ | ⟨hok, b, hbs, rfl, hr⟩⟩
  · exact ⟨hb, Or.inl ⟨fun q => hno ((first_ok X h).2 q), rfl⟩⟩
  · replace hr : QRow w' (.slice (some ⟨b, 0, none⟩) 1 1) [(numB X 0, numB X 8)] := by rw [← hp]; exact hr
    obtain ⟨h0, h1⟩ := (first_ok X h).1 hok
    obtain ⟨_, _, hc⟩ := hr.at
    obtain ⟨b', o, e, c0, c1⟩ := hc 0 (by decide)
    cases e
    exact ⟨hb, Or.inr ⟨h0, h1, b, rfl, c0, c1, hbs⟩⟩
set_option maxRecDepth 100000 in
set_option maxHeartbeats 4000000 in
theorem gpair_is (s : ByteArray) (c r x y : Int) (ok : Bool) (w : World) (hs : s.size ≤ 10000) (hc : -9223372036854775808 ≤ c ∧ c ≤ 9223372036854775807) (hr : pairD (sqB s) 16 c = (r, (x, y), ok)) (hT : TabB w) :
    Calls Tryd.prog 8 #[spong s c] w fun e w' => e = .returned (.tuple #[spong s r, .agg #[.int .u64 x, .int .u64 y], .bool ok]) ∧ Below w.heap.size w w' := by
  have HR := Lib.hid hr; have HT := Lib.hid hT
  have HE : Hid (∀ a : Drawn, a = (r, (x, y), ok) → a.1 = r ∧ a.2.1.1 = x ∧ a.2.1.2 = y ∧ a.2.2 = ok) := Lib.hid fun a h => by subst h; exact ⟨rfl, rfl, rfl, rfl⟩
  clear hr hT
  go_enter Tryd.func8, Tryd.ntmps8
  go_upto_region 2 with fail
  refine wp_gen (fun W => Below w.heap.size w W ∧ Duo W w.heap.size (.string s) (.int .i64 c) ∧ Duo W (w.heap.size + 1) (.string ⟨#[]⟩) (.int .i64 0) ∧ Duo W (w.heap.size + 1 + 1) (.int .u64 0) (.int .u64 0)) ⟨((((Below.refl _ _).alloc (Nat.le_refl _) _).alloc (by simp) _).alloc (by simp; omega) _), by simp [Duo, go_sem], by simp [Duo, go_sem], by simp [Duo, go_sem]⟩ ?_
  obtain ⟨g1, hg1⟩ : ∃ g, w.heap.size = g := ⟨_, rfl⟩
  obtain ⟨g2, hg2⟩ : ∃ h, g1 + 1 = h := ⟨_, rfl⟩
  obtain ⟨g3, hg3⟩ : ∃ h, g2 + 1 = h := ⟨_, rfl⟩
  rintro W1 ⟨hB, hD1, hD2, hD3⟩
  simp only [hg1] at hD1 hD2 hD3 ⊢
  simp only [hg2] at hD2 hD3 ⊢
  simp only [hg3] at hD3 ⊢
  have n12 : g1 ≠ g2 := by omega
  have n13 : g1 ≠ g3 := by omega
  have n23 : g2 ≠ g3 := by omega
  have l1 : w.heap.size ≤ g1 := by omega
  have l2 : w.heap.size ≤ g2 := by omega
  have l3 : w.heap.size ≤ g3 := by omega
  clear hg1 hg2 hg3
  go_loopw [9] (DPairRel w g1 g2 g3 s (r, (x, y), ok)) (fun i _ => 16 - (intOf i).toNat)
  case atStart => exact ⟨0, c, Nat.zero_le _, rfl, hc, hB, hD1, hD2, hD3, HR.out⟩
  case round =>
    clear hB hD1 hD2 hD3 HR
    obtain ⟨k, c', hk, rfl, hc', hB, hD1, hD2, hD3, hres⟩ := hrel
    by_cases hlt : k < 16
    · have hlt' : (k : Int) < 16 := by omega
      have HRES := Lib.hid (pairD_step (k := 16 - (k + 1)) ((congrArg (fun j => pairD (sqB s) j c') (show 16 - (k + 1) + 1 = 16 - k by omega)).trans hres))
      have q1 := fun W (h : Below w.heap.size w W) => spsqueeze_is s c' W hs (HT.out.keep h)
      have hup : IntKind.i64.wrap (c' + 1) = up c' := rfl
      rw [hup] at q1
      have hub := up_bd c'
      have hX := sqB_size s c'
      have m1 := fun W => gread_first (sqB s c') hX W
      have hXI : ((sqB s c').size : Int) = 32 := by omega
      have hXe := size_first _ hX
      generalize up c' = c1 at *
      generalize hXx : sqB s c' = X at *
      generalize numB X 0 = a at *
      generalize numB X 8 = b at *
      have HB := Lib.hid hB; have HD1 := Lib.hid hD1; have HD2 := Lib.hid hD2; have HD3 := Lib.hid hD3
      obtain ⟨x0, x1, _, _⟩ := hD1
      clear hB hD2 hD3 hX hup hXx
      go_upto_region 4 with (go_at_call 22; (with_reducible refine (q1 _ HB.out).mono ?_); rintro e w1 ⟨rfl, hb⟩)
      have hb' := bthen HB.out hb
      have hd1 := HD1.out.keep hb; have hd2 := HD2.out.keep hb; have hd3 := HD3.out.keep hb
      have hl1 := hd1.lt
      refine wp_gen (fun W => Below w.heap.size w W ∧ (Duo W g1 (.string s) (.int .i64 c') ∧ Duo W g2 (.string ⟨#[]⟩) (.int .i64 0) ∧ Duo W g3 (.int .u64 0) (.int .u64 0)) ∧ Duo W w1.heap.size (.string s) (.int .i64 c1)) ⟨hb'.alloc hb'.size _, ⟨hd1.keep ((Below.refl _ _).alloc (Nat.le_refl _) _), hd2.keep ((Below.refl _ _).alloc (Nat.le_refl _) _), hd3.keep ((Below.refl _ _).alloc (Nat.le_refl _) _)⟩, by simp [Duo, go_sem]⟩ ?_
      have n16 : w1.heap.size ≠ g1 := by omega
      generalize w1.heap.size = g6 at *
      clear HB HD1 HD2 HD3 x0 x1 hb hb' hd1 hd2 hd3 hl1 q1
      rintro W2 ⟨hB, ⟨hD1, hD2, hD3⟩, hD6⟩
      have HB := Lib.hid hB; have HD1 := Lib.hid hD1; have HD2 := Lib.hid hD2; have HD3 := Lib.hid hD3
      obtain ⟨x0, x1, x2, x3⟩ := hD1
      obtain ⟨y0, y1, _, _⟩ := hD6
      clear hB hD2 hD3
      go_upto_region 5 with fail
      refine wp_gen (fun W => Below w.heap.size w W ∧ Duo W g1 (.string s) (.int .i64 c1) ∧ Duo W g2 (.string ⟨#[]⟩) (.int .i64 0) ∧ Duo W g3 (.int .u64 0) (.int .u64 0)) ⟨(HB.out.setCell l1 _).setCell l1 _, HD1.out.set _ _, (HD2.out.far n12 _ _).far n12 _ _, (HD3.out.far n13 _ _).far n13 _ _⟩ ?_
      clear HB HD1 HD2 HD3 x0 x1 x2 x3 y0 y1
      rintro W3 ⟨hB, hD1, hD2, hD3⟩
      have HB := Lib.hid hB; have HD1 := Lib.hid hD1; have HD2 := Lib.hid hD2; have HD3 := Lib.hid hD3
      obtain ⟨x0, x1, _, _⟩ := hD1
      obtain ⟨y0, y1, y2, y3⟩ := hD2
      obtain ⟨z0, z1, z2, z3⟩ := hD3
      clear hB
      go_upto_region 6 with (go_at_call 23; (with_reducible refine (m1 _).mono ?_); rintro e w2 ⟨hb, ⟨hno, rfl⟩ | ⟨ha, hb', b1, rfl, t0, t1, tf⟩⟩)
      · have H := Lib.hid (HRES.out.2 hno)
        clear HE HRES hno
        go_wp2_with fail
        go_roundw
        case rel => exact ⟨k + 1, c1, by omega, by go_num, hub, bthen HB.out hb, HD1.out.keep hb, HD2.out.keep hb, HD3.out.keep hb, H.out⟩
        case measure => simp [intOf]; omega
      · have h := HRES.out.1 ha hb'
        obtain ⟨e1, e2, e3, e4⟩ := HE.out _ h
        have e1 : c1 = r := e1
        have e2 : a = x := e2
        have e3 : b = y := e3
        have e4 : true = ok := e4
        subst e1 e2 e3 e4
        clear HE HRES h ha hb'
        obtain ⟨x0, x1, _, _⟩ := HD1.out.keep hb
        obtain ⟨y0, y1, y2, y3⟩ := HD2.out.keep hb
        obtain ⟨z0, z1, z2, z3⟩ := HD3.out.keep hb
        have hd2 := HD2.out.keep hb; have hd3 := HD3.out.keep hb
        have u2 : g2 ≠ b1 := fun h => absurd (HD2.out).lt (by omega)
        have u3 : g3 ≠ b1 := fun h => absurd (HD3.out).lt (by omega)
        have n21 := n12.symm; have n31 := n13.symm; have n32 := n23.symm; have u2' := u2.symm; have u3' := u3.symm
        have HB2 := Lib.hid (bthen HB.out hb)
        clear HB HD1 HD2 HD3 hb hd2 hd3 tf
        go_upto_region 7 with fail
        go_region
        all_goals
          go_wp2_with fail
          exact bodyPost_ret (v := .tuple #[.agg #[.string s, .int .i64 c1], .agg #[.int .u64 a, .int .u64 b], .bool true]) (by simp [results, Tryd.results8, go_sem, y0, y1, z0, z1]) rfl ⟨rfl, by first | exact ((((HB2.out.setCell l2 _).setCell l2 _).setCell l3 _).setCell l3 _).drew | exact ((((HB2.out.setCell l3 _).setCell l3 _).setCell l2 _).setCell l2 _).drew⟩
    · obtain rfl : k = 16 := by omega
      have h : ((c', (0, 0), false) : Drawn) = (r, (x, y), ok) := hres
      obtain ⟨e1, e2, e3, e4⟩ := HE.out _ h
      have e1 : c' = r := e1
      have e2 : (0 : Int) = x := e2
      have e3 : (0 : Int) = y := e3
      have e4 : false = ok := e4
      subst e1 e2 e3 e4
      clear HE h hres
      have HB := Lib.hid hB
      obtain ⟨x0, x1, _, _⟩ := hD1
      obtain ⟨y0, y1, y2, y3⟩ := hD2
      obtain ⟨z0, z1, z2, z3⟩ := hD3
      clear hB
      go_wp2_with fail
      exact bodyPost_ret (v := .tuple #[.agg #[.string s, .int .i64 c'], .agg #[.int .u64 0, .int .u64 0], .bool false]) (by simp [results, Tryd.results8, go_sem, y0, y1, z0, z1]) rfl ⟨rfl, (((HB.out.setCell l2 _).setCell l2 _).setCell l3 _).setCell l3 _⟩
end Go.Proofs.YtgnnliablgbgkaaDoor
namespace Go.Proofs.YtgnnliablgbgkaaDoor
open Go Go.RowKit
set_option linter.unusedVariables false

set_option maxRecDepth 100000 in
set_option maxHeartbeats 4000000 in
theorem gpairsD_is (s : ByteArray) (c0 n R : Int) (L : List (Int × Int)) (OK : Bool) (w : World) (hs : s.size ≤ 10000) (hc : -9223372036854775808 ≤ c0 ∧ c0 ≤ 9223372036854775807) (hn : -9223372036854775808 ≤ n ∧ n ≤ 1000) (hr : pairsD (pairD (sqB s) 16) c0 n.toNat = (R, L, OK)) (hT : TabB w) :
    Calls Tryd.prog 12 #[spong s c0, .int .i64 n] w (PairsPost w s R L OK) := by
  obtain ⟨i0, hi, hz0, hz1, hz2⟩ := info_parts infoPd
  have HR : Hid (∀ a : Int × List (Int × Int) × Bool, a = pairsD (pairD (sqB s) 16) c0 n.toNat → a.1 = R ∧ a.2.1 = L ∧ a.2.2 = OK) := Lib.hid fun a h => by rw [hr] at h; subst h; exact ⟨rfl, rfl, rfl⟩
  have HT := Lib.hid hT
  clear hr hT
  go_enter Tryd.func12, Tryd.ntmps12
  go_upto_region 3 with fail
  refine wp_gen (fun W => Below w.heap.size w W ∧ w.heap.size + 1 + 1 ≤ W.heap.size ∧ Duo W w.heap.size (.string s) (.int .i64 c0) ∧ Duo W (w.heap.size + 1) (.string ⟨#[]⟩) (.int .i64 0)) ⟨(((Below.refl _ _).alloc (Nat.le_refl _) _).alloc (by simp) _), by simp, by simp [Duo, go_sem], by simp [Duo, go_sem]⟩ ?_
  obtain ⟨g1, hg1⟩ : ∃ g, w.heap.size = g := ⟨_, rfl⟩
  obtain ⟨g4, hg4⟩ : ∃ h, g1 + 1 = h := ⟨_, rfl⟩
  obtain ⟨B, hgB⟩ : ∃ h, g4 + 1 = h := ⟨_, rfl⟩
  rintro W1 ⟨hB, hBs, hD1, hD4⟩
  simp only [hg1] at hBs hD1 hD4 ⊢
  simp only [hg4] at hBs hD4 ⊢
  rw [hgB] at hBs
  have n14 : g1 ≠ g4 := by omega
  have l1 : w.heap.size ≤ g1 := by omega
  have l4 : w.heap.size ≤ g4 := by omega
  have lB1 : g1 < B := by omega
  have lB4 : g4 < B := by omega
  have lB : w.heap.size ≤ B := by omega
  clear hg1 hg4 hgB
  go_loopw [7, 12] (PairsRel w B g1 g4 s (pairD (sqB s) 16) c0 n) (fun _ i _ => (n - intOf i).toNat)
  case atStart => exact ⟨0, c0, [], none, 0, Or.inl rfl, rfl, rfl, hc, hB, hBs, hD1, hD4, World.ownsRow_nil _ _ _ _, rfl⟩
  case round =>
    clear hB hBs hD1 hD4
    obtain ⟨k, c, l, a, cap, hk, rfl, rfl, hc', hB, hBs, hD1, hD4, hown, hres⟩ := hrel
    by_cases hlt : (k : Int) < n
    · obtain ⟨r, x, y, ok, hp⟩ := drawn_eta (pairD (sqB s) 16 c)
      have hrb := pairD_bd (sqB s) 16 c hc'
      rw [hp] at hrb
      have hrb : -9223372036854775808 ≤ r ∧ r ≤ 9223372036854775807 := hrb
      have q1 := fun W (h : Below w.heap.size w W) => gpair_is s c r x y ok W hs hc' hp (HT.out.keep h)
      have hlen : l.length = k := by
        have := pairsD_len (pairD (sqB s) 16) c0 k (by rw [hres])
        rw [hres] at this
        exact this
      have hll : l.length ≤ 1000 := by omega
      clear hlen
      have HP := Lib.hid hp; have HRES := Lib.hid hres
      have HB := Lib.hid hB; have HD1 := Lib.hid hD1; have HD4 := Lib.hid hD4; have HO := Lib.hid hown
      obtain ⟨x0, x1, _, _⟩ := hD1
      clear hB hD4 hown hp hres
      go_upto_region 5 with (go_at_call 8; (with_reducible refine (q1 _ HB.out).mono ?_); rintro e w1 ⟨rfl, hb⟩)
      have hb' := bthen HB.out hb
      have hd1 := HD1.out.keep hb; have hd4 := HD4.out.keep hb; have ho := own_keep HO.out hb
      have hl1 := hd1.lt
      have hsz := hb.size
      have hb2 := ((Below.refl w1.heap.size w1).alloc (Nat.le_refl _) (.cells #[.string s, .int .i64 r] 23)).alloc (by simp) (.cells #[.int .u64 x, .int .u64 y] 27)
      refine wp_gen (fun W => (Below w.heap.size w W ∧ B ≤ W.heap.size) ∧ (Duo W g1 (.string s) (.int .i64 c) ∧ Duo W g4 (.string ⟨#[]⟩) (.int .i64 0) ∧ W.ownsRow B 27 2 (.slice a l.length cap) l.length (flat l)) ∧ Duo W w1.heap.size (.string s) (.int .i64 r) ∧ Duo W (w1.heap.size + 1) (.int .u64 x) (.int .u64 y)) ⟨⟨bthen hb' hb2, by have := hb2.size; omega⟩, ⟨hd1.keep hb2, hd4.keep hb2, own_keep ho hb2⟩, by simp [Duo, go_sem], by simp [Duo, go_sem]⟩ ?_
      obtain ⟨g9, hg9⟩ : ∃ g, w1.heap.size = g := ⟨_, rfl⟩
      obtain ⟨g10, hg10⟩ : ∃ h, g9 + 1 = h := ⟨_, rfl⟩
      rintro W2 ⟨⟨hB, hBs2⟩, ⟨hD1, hD4, hown⟩, hD9, hD10⟩
      simp only [hg9] at hD9 hD10 ⊢
      simp only [hg10] at hD10 ⊢
      have n91 : g9 ≠ g1 := by omega
      have n101 : g10 ≠ g1 := by omega
      clear HB HD1 HD4 HO x0 x1 hb hb' hd1 hd4 ho hl1 q1 hb2 hg9 hg10 hsz
      have HB := Lib.hid hB; have HD1 := Lib.hid hD1; have HD4 := Lib.hid hD4; have HO := Lib.hid hown; have HD10 := Lib.hid hD10
      obtain ⟨x0, x1, x2, x3⟩ := hD1
      obtain ⟨y0, y1, _, _⟩ := hD9
      clear hB hD4 hown hD10
      go_upto_region 6 with fail
      refine wp_gen (fun W => (Below w.heap.size w W ∧ B ≤ W.heap.size) ∧ Duo W g1 (.string s) (.int .i64 r) ∧ Duo W g4 (.string ⟨#[]⟩) (.int .i64 0) ∧ W.ownsRow B 27 2 (.slice a l.length cap) l.length (flat l) ∧ Duo W g10 (.int .u64 x) (.int .u64 y)) ⟨⟨(HB.out.setCell l1 _).setCell l1 _, by simp [World.setCell]; omega⟩, HD1.out.set _ _, (HD4.out.far n14 _ _).far n14 _ _, own_set (own_set HO.out lB1) lB1, (HD10.out.far n101.symm _ _).far n101.symm _ _⟩ ?_
      clear HB HD1 HD4 HO HD10 x0 x1 x2 x3 y0 y1 hBs hBs2
      rintro W3 ⟨⟨hB, hBs⟩, hD1, hD4, hown, hD10⟩
      have HB := Lib.hid hB; have HD1 := Lib.hid hD1; have HD4 := Lib.hid hD4
      obtain ⟨x0, x1, _, _⟩ := hD1
      clear hB
      cases ok with
      | false =>
        have H := HR.out (r, [], false) (pairsD_none HRES.out HP.out (by omega)).symm
        obtain ⟨e1, e2, e3⟩ := H
        have e1 : r = R := e1
        have e2 : ([] : List (Int × Int)) = L := e2
        have e3 : false = OK := e3
        subst e1 e2 e3
        obtain ⟨z0, z1, z2, z3⟩ := hD4
        clear HR HRES HP hown hD10
        go_wp2_with fail
        exact bodyPost_ret (v := .tuple #[.agg #[.string s, .int .i64 r], .slice none 0 0, .bool false]) (by simp [results, Tryd.results12, go_sem, z0, z1]) rfl ⟨(HB.out.setCell l4 _).setCell l4 _, none, 0, rfl, rfl, by unfold maxLen; simp, fun k hk => by simp at hk⟩
      | true =>
        have HY := Lib.hid (pairsD_yes HRES.out HP.out)
        have hfl : flat (l ++ [(x, y)]) = flat l ++ [.int .u64 x, .int .u64 y] := by rw [flat_append]; rfl
        have HFL := Lib.hid hfl
        have hle : B ≤ W3.heap.size := hBs
        obtain ⟨y0, y1, _, _⟩ := hD10
        have HNE := Lib.hid (own_ne hown lB1); have HNE4 := Lib.hid (own_ne hown lB4)
        have HOW := Lib.hid hown
        generalize hfx : flat l = fl at *
        clear HR HRES HP hD4 hfx hfl
        go_upto_region 9 with (at_builtin; refine wpList_append_own _ rfl _ _ 33 rfl B 27 i0 (.agg #[.int .u64 0, .int .u64 0]) 2 16 Tryd.underlying33 hi hz0 hz1 hz2 rfl (by decide) _ _ _ rfl (hown.alloc _) ⟨W3.heap.size, 0, none⟩ 1 1 [.int .u64 x, .int .u64 y] rfl rfl ?c1 ?c2 ?c3 ?c4 ?c5 ?_)
        case c1 => exact two_src (by simp [go_sem]) (by simp [go_sem])
        case c2 => first | rfl | (intro u hu; simp at hu; rcases hu with rfl | rfl <;> rfl)
        case c3 => unfold maxLen; omega
        case c4 => omega
        case c5 => first | omega | (simp; omega)
        · intro v' w4 hown' hgrow _
          have hb4 := own_row_below (hown.alloc (.cells #[.int .u64 x, .int .u64 y] 27)) (HB.out.alloc HB.out.size _) hgrow lB (by have := HB.out.size; simp; omega)
          have hd1 := ((HD1.out.keep ((Below.refl _ _).alloc (Nat.le_refl _) (.cells #[.int .u64 x, .int .u64 y] 27))).grown hgrow HNE.out)
          have hd4 := ((HD4.out.keep ((Below.refl _ _).alloc (Nat.le_refl _) (.cells #[.int .u64 x, .int .u64 y] 27))).grown hgrow HNE4.out)
          have hsz := hgrow.size
          have HB4 := Lib.hid hb4; have HD1 := Lib.hid hd1; have HD4 := Lib.hid hd4
          have HO := Lib.hid hown'
          clear hb4 hd1 hd4 hgrow hown hown' HB HOW HNE HNE4 x0 x1 y0 y1
          have hle2 : B ≤ w4.heap.size := by have : (W3.alloc (.cells #[.int .u64 x, .int .u64 y] 27)).heap.size = W3.heap.size + 1 := by simp
                                             omega
          clear hsz
          go_wp2
          go_roundw
          case rel =>
            obtain ⟨a', cap', rfl⟩ := own_form HO.out
            refine ⟨k + 1, r, l ++ [(x, y)], a', cap', Or.inr (by omega), by simp, by go_num, hrb, HB4.out, hle2, HD1.out, HD4.out, ?_, HY.out⟩
            rw [HFL.out]
            have := HO.out
            simpa using this
          case measure => simp [intOf]; omega
    · have hkn : n.toNat = k := by omega
      obtain ⟨e1, e2, e3⟩ := HR.out (c, l, true) (by rw [hkn]; exact hres.symm)
      have e1 : c = R := e1
      have e2 : l = L := e2
      have e3 : true = OK := e3
      subst e1 e2 e3
      have HB := Lib.hid hB
      obtain ⟨x0, x1, _, _⟩ := hD1
      obtain ⟨z0, z1, z2, z3⟩ := hD4
      have ho2 := own_set (own_set (x := .int .i64 c) (o := 1) (own_set (x := .string s) (o := 0) hown lB4) lB4) (x := .int .i64 c) (o := 1) lB4
      have HQ := Lib.hid (own_qrow (own_set (x := .int .i64 c) (o := 1) (own_set (x := .string s) (o := 0) hown lB4) lB4))
      have HA : Hid (∀ (a' : Option Addr) (c' : Nat), Value.slice a l.length cap = .slice a' l.length c' → a' = a) := Lib.hid fun a' c' h => by cases h; rfl
      clear hB hown HR hres ho2
      go_wp2_with fail
      exact bodyPost_ret (v := .tuple #[.agg #[.string s, .int .i64 c], .slice a l.length cap, .bool true]) (by simp [results, Tryd.results12, go_sem, z0, z1]) rfl ⟨(HB.out.setCell l4 _).setCell l4 _, a, cap, rfl, by
        obtain ⟨a', c', h1, h2⟩ := HQ.out
        obtain rfl := HA.out _ _ h1
        exact h2⟩
end Go.Proofs.YtgnnliablgbgkaaDoor
namespace Go.Proofs.YtgnnliablgbgkaaDoor
open Go Go.RowKit
set_option linter.unusedVariables false

set_option maxRecDepth 100000 in
set_option maxHeartbeats 4000000 in
theorem gout_is (s : ByteArray) (c : Int) (K M : Nat) (r x y : Int) (ok : Bool) (w : World) (hs : s.size ≤ 10000) (hc : -9223372036854775808 ≤ c ∧ c ≤ 9223372036854775807) (hK : K ≤ 32) (hM : M ≤ 32) (hr : outD (pairD (sqB s) 16) K M 16 c = (r, (x, y), ok)) (hT : TabB w) :
    Calls Tryd.prog 15 #[spong s c, .int .i64 K, .int .i64 M] w fun e w' => e = .returned (.tuple #[spong s r, .agg #[.int .u64 x, .int .u64 y], .bool ok]) ∧ Below w.heap.size w w' := by
  have HR := Lib.hid hr; have HT := Lib.hid hT
  have HE : Hid (∀ a : Drawn, a = (r, (x, y), ok) → a.1 = r ∧ a.2.1.1 = x ∧ a.2.1.2 = y ∧ a.2.2 = ok) := Lib.hid fun a h => by subst h; exact ⟨rfl, rfl, rfl, rfl⟩
  clear hr hT
  go_enter Tryd.func15, Tryd.ntmps15
  go_upto_region 2 with fail
  refine wp_gen (fun W => Below w.heap.size w W ∧ Duo W w.heap.size (.string s) (.int .i64 c) ∧ Duo W (w.heap.size + 1) (.string ⟨#[]⟩) (.int .i64 0) ∧ Duo W (w.heap.size + 1 + 1) (.int .u64 0) (.int .u64 0)) ⟨((((Below.refl _ _).alloc (Nat.le_refl _) _).alloc (by simp) _).alloc (by simp; omega) _), by simp [Duo, go_sem], by simp [Duo, go_sem], by simp [Duo, go_sem]⟩ ?_
  obtain ⟨g1, hg1⟩ : ∃ g, w.heap.size = g := ⟨_, rfl⟩
  obtain ⟨g2, hg2⟩ : ∃ h, g1 + 1 = h := ⟨_, rfl⟩
  obtain ⟨g3, hg3⟩ : ∃ h, g2 + 1 = h := ⟨_, rfl⟩
  rintro W1 ⟨hB, hD1, hD2, hD3⟩
  simp only [hg1] at hD1 hD2 hD3 ⊢
  simp only [hg2] at hD2 hD3 ⊢
  simp only [hg3] at hD3 ⊢
  have n12 : g1 ≠ g2 := by omega
  have n13 : g1 ≠ g3 := by omega
  have n23 : g2 ≠ g3 := by omega
  have l1 : w.heap.size ≤ g1 := by omega
  have l2 : w.heap.size ≤ g2 := by omega
  have l3 : w.heap.size ≤ g3 := by omega
  clear hg1 hg2 hg3
  go_loopw [12] (OutRel w g1 g2 g3 s (pairD (sqB s) 16) K M (r, (x, y), ok)) (fun i _ => 16 - (intOf i).toNat)
  case atStart => exact ⟨0, c, Nat.zero_le _, rfl, hc, hB, hD1, hD2, hD3, HR.out⟩
  case round =>
    clear hB hD1 hD2 hD3 HR
    obtain ⟨k, c', hk, rfl, hc', hB, hD1, hD2, hD3, hres⟩ := hrel
    by_cases hlt : k < 16
    · have hlt' : (k : Int) < 16 := by omega
      obtain ⟨c1, a, b, okp, hp⟩ := drawn_eta (pairD (sqB s) 16 c')
      have HRES := Lib.hid (outD_step (k := 16 - (k + 1)) ((congrArg (fun j => outD (pairD (sqB s) 16) K M j c') (show 16 - (k + 1) + 1 = 16 - k by omega)).trans hres) hp)
      have hub := pairD_bd (sqB s) 16 c' hc'
      have hft := pairD_fit (sqB s) 16 c'
      rw [hp] at hub hft
      have hub : -9223372036854775808 ≤ c1 ∧ c1 ≤ 9223372036854775807 := hub
      have hft : (0 ≤ a ∧ a < 18446744069414584321) ∧ (0 ≤ b ∧ b < 18446744069414584321) := hft
      have q1 := fun W (h : Below w.heap.size w W) => gpair_is s c' c1 a b okp W hs hc' hp (HT.out.keep h)
      obtain ⟨bo, hbo⟩ : ∃ bo, outv (q2 a b) K M = bo := ⟨_, rfl⟩
      have z1 := fun W => zout_is K M a b (q2 a b) bo hK hM (rep_raw (by unfold U; omega) (by unfold U; omega)) hbo W
      rw [hbo] at HRES
      have HB := Lib.hid hB; have HD1 := Lib.hid hD1; have HD2 := Lib.hid hD2; have HD3 := Lib.hid hD3
      obtain ⟨x0, x1, _, _⟩ := hD1
      clear hB hD2 hD3 hp hres hft hbo
      go_upto_region 4 with (go_at_call 8; (with_reducible refine (q1 _ HB.out).mono ?_); rintro e w1 ⟨rfl, hb⟩)
      have hb' := bthen HB.out hb
      have hd1 := HD1.out.keep hb; have hd2 := HD2.out.keep hb; have hd3 := HD3.out.keep hb
      have hl1 := hd1.lt
      have hb2 := ((Below.refl w1.heap.size w1).alloc (Nat.le_refl _) (.cells #[.string s, .int .i64 c1] 23)).alloc (by simp) (.cells #[.int .u64 a, .int .u64 b] 27)
      refine wp_gen (fun W => Below w.heap.size w W ∧ (Duo W g1 (.string s) (.int .i64 c') ∧ Duo W g2 (.string ⟨#[]⟩) (.int .i64 0) ∧ Duo W g3 (.int .u64 0) (.int .u64 0)) ∧ Duo W w1.heap.size (.string s) (.int .i64 c1) ∧ Duo W (w1.heap.size + 1) (.int .u64 a) (.int .u64 b)) ⟨bthen hb' hb2, ⟨hd1.keep hb2, hd2.keep hb2, hd3.keep hb2⟩, by simp [Duo, go_sem], by simp [Duo, go_sem]⟩ ?_
      obtain ⟨g9, hg9⟩ : ∃ g, w1.heap.size = g := ⟨_, rfl⟩
      obtain ⟨g10, hg10⟩ : ∃ h, g9 + 1 = h := ⟨_, rfl⟩
      rintro W2 ⟨hB, ⟨hD1, hD2, hD3⟩, hD9, hD10⟩
      simp only [hg9] at hD9 hD10 ⊢
      simp only [hg10] at hD10 ⊢
      have n91 : g9 ≠ g1 := by omega
      have n101 : g1 ≠ g10 := by omega
      have n102 : g2 ≠ g10 := by have := hd2.lt; omega
      have n103 : g3 ≠ g10 := by have := hd3.lt; omega
      have n201 := n102.symm; have n301 := n103.symm; have n21 := n12.symm; have n31 := n13.symm; have n32 := n23.symm
      clear HB HD1 HD2 HD3 x0 x1 hb hb' hd1 hd2 hd3 hl1 q1 hb2 hg9 hg10
      have HB := Lib.hid hB; have HD1 := Lib.hid hD1; have HD2 := Lib.hid hD2; have HD3 := Lib.hid hD3; have HD10 := Lib.hid hD10
      obtain ⟨x0, x1, x2, x3⟩ := hD1
      obtain ⟨y0, y1, _, _⟩ := hD9
      clear hB hD2 hD3 hD10
      go_upto_region 5 with fail
      refine wp_gen (fun W => Below w.heap.size w W ∧ Duo W g1 (.string s) (.int .i64 c1) ∧ Duo W g2 (.string ⟨#[]⟩) (.int .i64 0) ∧ Duo W g3 (.int .u64 0) (.int .u64 0) ∧ Duo W g10 (.int .u64 a) (.int .u64 b)) ⟨(HB.out.setCell l1 _).setCell l1 _, HD1.out.set _ _, (HD2.out.far n12 _ _).far n12 _ _, (HD3.out.far n13 _ _).far n13 _ _, (HD10.out.far n101 _ _).far n101 _ _⟩ ?_
      clear HB HD1 HD2 HD3 HD10 x0 x1 x2 x3 y0 y1
      rintro W3 ⟨hB, hD1, hD2, hD3, hD10⟩
      have HB := Lib.hid hB; have HD1 := Lib.hid hD1; have HD2 := Lib.hid hD2; have HD3 := Lib.hid hD3
      obtain ⟨x0, x1, _, _⟩ := hD1
      obtain ⟨y0, y1, y2, y3⟩ := hD2
      obtain ⟨z0, z1', z2, z3⟩ := hD3
      clear hB
      cases okp with
      | false =>
        obtain ⟨e1, e2, e3, e4⟩ := HE.out _ (HRES.out.1 rfl)
        have e1 : c1 = r := e1
        have e2 : (0 : Int) = x := e2
        have e3 : (0 : Int) = y := e3
        have e4 : false = ok := e4
        subst e1 e2 e3 e4
        clear HE HRES hD10
        go_wp2_with fail
        exact bodyPost_ret (v := .tuple #[.agg #[.string s, .int .i64 c1], .agg #[.int .u64 0, .int .u64 0], .bool false]) (by simp [results, Tryd.results15, go_sem, y0, y1, z0, z1']) rfl ⟨rfl, (((HB.out.setCell l2 _).setCell l2 _).setCell l3 _).setCell l3 _⟩
      | true =>
        have HDT := Lib.hid hD10
        obtain ⟨t0, t1, _, _⟩ := hD10
        cases bo with
        | true =>
          obtain ⟨e1, e2, e3, e4⟩ := HE.out _ (HRES.out.2.1 rfl rfl)
          have e1 : c1 = r := e1
          have e2 : a = x := e2
          have e3 : b = y := e3
          have e4 : true = ok := e4
          subst e1 e2 e3 e4
          clear HE HRES
          go_upto_region 8 with (go_at_call 26; (with_reducible refine (z1 _).mono ?_); rintro e w2 ⟨rfl, hb⟩; replace y2 := bfree hb y0 y2; replace y3 := bfree hb y1 y3; replace y0 := bkeep hb y0; replace y1 := bkeep hb y1; replace z2 := bfree hb z0 z2; replace z3 := bfree hb z1' z3; replace z0 := bkeep hb z0; replace z1' := bkeep hb z1'; replace x0 := bkeep hb x0; replace x1 := bkeep hb x1; replace t0 := bkeep hb t0; replace t1 := bkeep hb t1; replace HB := Lib.hid (bthen HB.out hb); clear hb)
          go_region
          all_goals
            go_wp2_with fail
            exact bodyPost_ret (v := .tuple #[.agg #[.string s, .int .i64 c1], .agg #[.int .u64 a, .int .u64 b], .bool true]) (by simp [results, Tryd.results15, go_sem, y0, y1, z0, z1']) rfl ⟨rfl, by first | exact ((((HB.out.setCell l2 _).setCell l2 _).setCell l3 _).setCell l3 _).drew | exact ((((HB.out.setCell l3 _).setCell l3 _).setCell l2 _).setCell l2 _).drew⟩
        | false =>
          have H := Lib.hid (HRES.out.2.2 rfl rfl)
          clear HE HRES y0 y1 y2 y3 z0 z1' z2 z3 x0 x1
          go_wp2_with (go_at_call 26; (with_reducible refine (z1 _).mono ?_); rintro e w2 ⟨rfl, hb⟩)
          go_roundw
          case rel => exact ⟨k + 1, c1, by omega, by go_num, hub, bthen HB.out hb, HD1.out.keep hb, HD2.out.keep hb, HD3.out.keep hb, H.out⟩
          case measure => simp [intOf]; omega
    · obtain rfl : k = 16 := by omega
      obtain ⟨e1, e2, e3, e4⟩ := HE.out _ (outD_zero hres)
      have e1 : c' = r := e1
      have e2 : (0 : Int) = x := e2
      have e3 : (0 : Int) = y := e3
      have e4 : false = ok := e4
      subst e1 e2 e3 e4
      clear HE hres
      have HB := Lib.hid hB
      obtain ⟨x0, x1, _, _⟩ := hD1
      obtain ⟨y0, y1, y2, y3⟩ := hD2
      obtain ⟨z0, z1, z2, z3⟩ := hD3
      clear hB
      go_wp2_with fail
      exact bodyPost_ret (v := .tuple #[.agg #[.string s, .int .i64 c'], .agg #[.int .u64 0, .int .u64 0], .bool false]) (by simp [results, Tryd.results15, go_sem, y0, y1, z0, z1]) rfl ⟨rfl, (((HB.out.setCell l2 _).setCell l2 _).setCell l3 _).setCell l3 _⟩
end Go.Proofs.YtgnnliablgbgkaaDoor
namespace Go.Proofs.YtgnnliablgbgkaaDoor
open Go Go.RowKit
set_option linter.unusedVariables false

theorem low_and (K : Nat) (hK : K ≤ 62) (x : Int) (hx : U x) : bits .and .u64 x (((2 ^ K : Nat) : Int) - 1) = x % ((2 ^ K : Nat) : Int) := by
  obtain ⟨n, rfl⟩ := Int.eq_ofNat_of_zero_le hx.1
  have hn : n < 18446744073709551616 := by have := hx.2; omega
  have h1 : 2 ^ K ≤ 2 ^ 62 := Nat.pow_le_pow_right (by decide) hK
  have h0 : 0 < 2 ^ K := Nat.pow_pos (by decide)
  have e := bits_and_u64_nat n (2 ^ K - 1) hn (by simp only [show (2 : Nat) ^ 62 = 4611686018427387904 by decide] at h1; omega)
  rw [Nat.and_two_pow_sub_one_eq_mod] at e
  rw [show ((2 ^ K - 1 : Nat) : Int) = ((2 ^ K : Nat) : Int) - 1 by omega] at e
  rw [e]
  omega
theorem low_is (K : Nat) (hK : K ≤ 62) (W : World) : Calls Tryd.prog 25 #[.int .i64 (K : Int)] W fun e w' => e = .returned (.int .u64 (((2 ^ K : Nat) : Int) - 1)) ∧ w' = W := by
  have e1 := wrapu_62 hK
  have h1 : 2 ^ K ≤ 2 ^ 62 := Nat.pow_le_pow_right (by decide) hK
  have h0 : 0 < 2 ^ K := Nat.pow_pos (by decide)
  simp only [show (2 : Nat) ^ 62 = 4611686018427387904 by decide] at h1
  have hk : IntKind.u64.wrap (K : Int) = (K : Int) := by rw [IntKind.wrap_u64]; omega
  have hM : ((2 ^ K : Nat) : Int) ≤ 4611686018427387904 := by omega
  have hM0 : 0 < ((2 ^ K : Nat) : Int) := by omega
  have hw : IntKind.u64.wrap (((2 ^ K : Nat) : Int) - 1) = ((2 ^ K : Nat) : Int) - 1 := by rw [IntKind.wrap_u64]; omega
  clear h1 h0
  generalize ((2 ^ K : Nat) : Int) = M at *
  go_enter Tryd.func25, Tryd.ntmps25
  go_wp2
  go_ret
  exact ⟨rfl, rfl⟩
set_option maxRecDepth 100000 in
set_option maxHeartbeats 4000000 in
theorem gplaces_is (s : ByteArray) (c0 n R : Int) (K : Nat) (L : List Int) (w : World) (hs : s.size ≤ 10000) (hc : -9223372036854775808 ≤ c0 ∧ c0 ≤ 9223372036854775807) (hn : -9223372036854775808 ≤ n ∧ n ≤ 1000) (hK : K ≤ 62) (hr : placesD s c0 K n.toNat = (R, L)) (hT : TabB w) :
    Calls Tryd.prog 10 #[spong s c0, .int .i64 n, .int .i64 K] w (PlacesPost w s R L) := by
  obtain ⟨i0, hi, hz0, hz1, hz2⟩ := info_parts infoInt
  have HR : Hid (∀ a : Int × List Int, a = placesD s c0 K n.toNat → a.1 = R ∧ a.2 = L) := Lib.hid fun a h => by rw [hr] at h; subst h; exact ⟨rfl, rfl⟩
  have HT := Lib.hid hT
  have lw := fun W => low_is K hK W
  clear hr hT
  have e1 := wrapu_62 hK
  have hMp : (0 : Int) < ((2 ^ K : Nat) : Int) := by have := Nat.pow_pos (n := K) (show 0 < 2 by decide); omega
  have hML : ((2 ^ K : Nat) : Int) ≤ 4611686018427387904 := by have := Nat.pow_le_pow_right (show 0 < 2 by decide) hK; simp only [show (2 : Nat) ^ 62 = 4611686018427387904 by decide] at this; omega
  have HPL := Lib.hid (fun c k l => @placesD_step s c0 c K k l)
  obtain ⟨M, hM⟩ : ∃ M, ((2 ^ K : Nat) : Int) = M := ⟨_, rfl⟩
  simp only [hM] at e1 hMp hML HPL lw
  go_enter Tryd.func10, Tryd.ntmps10
  go_upto_region 3 with fail
  refine wp_gen (fun W => Below w.heap.size w W ∧ w.heap.size + 1 + 1 ≤ W.heap.size ∧ Duo W w.heap.size (.string s) (.int .i64 c0) ∧ Duo W (w.heap.size + 1) (.string ⟨#[]⟩) (.int .i64 0)) ⟨(((Below.refl _ _).alloc (Nat.le_refl _) _).alloc (by simp) _), by simp, by simp [Duo, go_sem], by simp [Duo, go_sem]⟩ ?_
  obtain ⟨g1, hg1⟩ : ∃ g, w.heap.size = g := ⟨_, rfl⟩
  obtain ⟨g4, hg4⟩ : ∃ h, g1 + 1 = h := ⟨_, rfl⟩
  obtain ⟨B, hgB⟩ : ∃ h, g4 + 1 = h := ⟨_, rfl⟩
  rintro W1 ⟨hB, hBs, hD1, hD4⟩
  simp only [hg1] at hBs hD1 hD4 ⊢
  simp only [hg4] at hBs hD4 ⊢
  rw [hgB] at hBs
  have n14 : g1 ≠ g4 := by omega
  have l1 : w.heap.size ≤ g1 := by omega
  have l4 : w.heap.size ≤ g4 := by omega
  have lB1 : g1 < B := by omega
  have lB4 : g4 < B := by omega
  have lB : w.heap.size ≤ B := by omega
  clear hg1 hg4 hgB
  go_loopw [8, 14] (PlacesRel w B g1 g4 s c0 n K) (fun _ i _ => (n - intOf i).toNat)
  case atStart => exact ⟨0, c0, [], none, 0, Or.inl rfl, rfl, rfl, hc, hB, hBs, hD1, hD4, World.ownsRow_nil _ _ _ _, rfl⟩
  case round =>
    clear hB hBs hD1 hD4
    obtain ⟨k, c, l, a, cap, hk, rfl, rfl, hc', hB, hBs, hD1, hD4, hown, hres⟩ := hrel
    by_cases hlt : (k : Int) < n
    · have q1 := fun W (h : Below w.heap.size w W) => spsqueeze_is s c W hs (HT.out.keep h)
      have hup : IntKind.i64.wrap (c + 1) = up c := rfl
      rw [hup] at q1
      have hrb := up_bd c
      have hll : l.length ≤ 1000 := by
        have := placesD_len s c0 K k
        rw [hres] at this
        have : l.length = k := this
        omega
      have HY := Lib.hid (HPL.out _ _ _ hres)
      have hX := sqB_size s c
      have m1 := fun W => onum_yes (sqB s c) (by omega) W
      have hu := numB_U (sqB s c) 0
      have hXI : ((sqB s c).size : Int) = 32 := by omega
      have h8 : ¬ ((sqB s c).size : Int) < 8 := by omega
      generalize hnx : numB (sqB s c) 0 = x at *
      have hand := low_and K hK x hu
      rw [hM] at hand
      have hz0' := Int.emod_nonneg x (show M ≠ 0 by omega)
      have hz1' := Int.emod_lt_of_pos x hMp
      have hwz : IntKind.i64.wrap (x % M) = x % M := IntWalk.i64_in _ (by omega)
      have hwz' : wrap64 (x % M) = x % M := IntWalk.wrap64_in _ (by omega)
      have hMne : ¬ M = 0 := by omega
      generalize x % M = z at *
      generalize up c = r at *
      generalize sqB s c = X at *
      have HB := Lib.hid hB; have HD1 := Lib.hid hD1; have HD4 := Lib.hid hD4; have HO := Lib.hid hown
      obtain ⟨x0, x1, _, _⟩ := hD1
      clear hB hD4 hown hres hup hX hnx
      go_upto_region 5 with (go_at_call 22; (with_reducible refine (q1 _ HB.out).mono ?_); rintro e w1 ⟨rfl, hb⟩)
      have hb' := bthen HB.out hb
      have hd1 := HD1.out.keep hb; have hd4 := HD4.out.keep hb; have ho := own_keep HO.out hb
      have hl1 := hd1.lt
      have hsz := hb.size
      have hb2 := ((Below.refl w1.heap.size w1).alloc (Nat.le_refl _) (.cells #[.string s, .int .i64 r] 23))
      refine wp_gen (fun W => (Below w.heap.size w W ∧ B ≤ W.heap.size) ∧ (Duo W g1 (.string s) (.int .i64 c) ∧ Duo W g4 (.string ⟨#[]⟩) (.int .i64 0) ∧ W.ownsRow B 3 1 (.slice a l.length cap) l.length (ints l)) ∧ Duo W w1.heap.size (.string s) (.int .i64 r)) ⟨⟨bthen hb' hb2, by have := hb2.size; omega⟩, ⟨hd1.keep hb2, hd4.keep hb2, own_keep ho hb2⟩, by simp [Duo, go_sem]⟩ ?_
      obtain ⟨g9, hg9⟩ : ∃ g, w1.heap.size = g := ⟨_, rfl⟩
      rintro W2 ⟨⟨hB, hBs2⟩, ⟨hD1, hD4, hown⟩, hD9⟩
      simp only [hg9] at hD9 ⊢
      have n91 : g9 ≠ g1 := by omega
      clear HB HD1 HD4 HO x0 x1 hb hb' hd1 hd4 ho hl1 q1 hb2 hg9 hsz
      have HB := Lib.hid hB; have HD1 := Lib.hid hD1; have HD4 := Lib.hid hD4; have HO := Lib.hid hown
      obtain ⟨x0, x1, x2, x3⟩ := hD1
      obtain ⟨y0, y1, _, _⟩ := hD9
      clear hB hD4 hown
      go_upto_region 6 with fail
      refine wp_gen (fun W => (Below w.heap.size w W ∧ B ≤ W.heap.size) ∧ Duo W g1 (.string s) (.int .i64 r) ∧ Duo W g4 (.string ⟨#[]⟩) (.int .i64 0) ∧ W.ownsRow B 3 1 (.slice a l.length cap) l.length (ints l)) ⟨⟨(HB.out.setCell l1 _).setCell l1 _, by simp [World.setCell]; omega⟩, HD1.out.set _ _, (HD4.out.far n14 _ _).far n14 _ _, own_set (own_set HO.out lB1) lB1⟩ ?_
      clear HB HD1 HD4 HO x0 x1 x2 x3 y0 y1 hBs hBs2
      rintro W3 ⟨⟨hB, hBs⟩, hD1, hD4, hown⟩
      have HB := Lib.hid hB; have HD1 := Lib.hid hD1; have HD4 := Lib.hid hD4
      clear hB hD1 hD4
      go_upto_region 7 with (go_at_call 24; (with_reducible refine (m1 _).mono ?_); rintro e w2 ⟨rfl, rfl⟩)
      have hfl : ints (l ++ [z]) = ints l ++ [.int .i64 z] := by simp [ints]
      have HFL := Lib.hid hfl
      have hle : B ≤ w2.heap.size := hBs
      have HNE := Lib.hid (own_ne hown lB1); have HNE4 := Lib.hid (own_ne hown lB4)
      generalize hfx : ints l = fl at *
      clear HR hfx hfl
      go_upto_region 8 with (first | (go_at_call 25; (with_reducible refine (lw _).mono ?_); rintro e w5 ⟨rfl, he5⟩; obtain rfl := he5.symm) | (at_builtin; refine wpList_append_own _ rfl _ _ 30 rfl B 3 i0 (.int .i64 0) 1 8 Tryd.underlying30 hi hz0 hz1 hz2 rfl (by decide) _ _ _ rfl (hown.alloc _) ⟨w2.heap.size, 0, none⟩ 1 1 [.int .i64 z] rfl rfl ?c1 ?c2 ?c3 ?c4 ?c5 ?_))
      case c1 => exact one_src (by simp [go_sem])
      case c2 => first | rfl | (intro u hu; simp at hu; subst hu; rfl)
      case c3 => unfold maxLen; omega
      case c4 => omega
      case c5 => first | omega | (simp; omega)
      · intro v' w4 hown' hgrow _
        have hb4 := own_row_below (hown.alloc (.cells #[.int .i64 z] 3)) (HB.out.alloc HB.out.size _) hgrow lB (by have := HB.out.size; simp; omega)
        have hd1 := ((HD1.out.keep ((Below.refl _ _).alloc (Nat.le_refl _) (.cells #[.int .i64 z] 3))).grown hgrow HNE.out)
        have hd4 := ((HD4.out.keep ((Below.refl _ _).alloc (Nat.le_refl _) (.cells #[.int .i64 z] 3))).grown hgrow HNE4.out)
        have hsz := hgrow.size
        have HB4 := Lib.hid hb4; have HD1 := Lib.hid hd1; have HD4 := Lib.hid hd4
        have HO := Lib.hid hown'
        clear hb4 hd1 hd4 hgrow hown hown' HB HNE HNE4
        have hle2 : B ≤ w4.heap.size := by have : (w2.alloc (.cells #[.int .i64 z] 3)).heap.size = w2.heap.size + 1 := by simp
                                           omega
        clear hsz
        go_wp2
        go_roundw
        case rel =>
          obtain ⟨a', cap', rfl⟩ := own_form HO.out
          refine ⟨k + 1, r, l ++ [z], a', cap', Or.inr (by omega), by simp, by go_num, hrb, HB4.out, hle2, HD1.out, HD4.out, ?_, HY.out⟩
          rw [HFL.out]
          have := HO.out
          simpa using this
        case measure => simp [intOf]; omega
    · have hkn : n.toNat = k := by omega
      obtain ⟨e1, e2⟩ := HR.out (c, l) (by rw [hkn]; exact hres.symm)
      have e1 : c = R := e1
      have e2 : l = L := e2
      subst e1 e2
      have HB := Lib.hid hB
      obtain ⟨x0, x1, _, _⟩ := hD1
      obtain ⟨z0, z1, z2, z3⟩ := hD4
      have HQ := Lib.hid (own_irow (own_set (x := .int .i64 c) (o := 1) (own_set (x := .string s) (o := 0) hown lB4) lB4))
      have HA : Hid (∀ (a' : Option Addr) (c' : Nat), Value.slice a l.length cap = .slice a' l.length c' → a' = a) := Lib.hid fun a' c' h => by cases h; rfl
      clear hB hown HR hres
      go_wp2_with fail
      exact bodyPost_ret (v := .tuple #[.agg #[.string s, .int .i64 c], .slice a l.length cap]) (by simp [results, Tryd.results10, go_sem, z0, z1]) rfl ⟨(HB.out.setCell l4 _).setCell l4 _, a, cap, rfl, by
        obtain ⟨a', c', h1, h2⟩ := HQ.out
        obtain rfl := HA.out _ _ h1
        exact h2⟩
end Go.Proofs.YtgnnliablgbgkaaDoor
namespace Go.Proofs.YtgnnliablgbgkaaDoor
open Go Go.RowKit
set_option linter.unusedVariables false

theorem ask13 : AskDraw TabB where
  keep := fun h hb => h.keep hb
  pair := fun s c r x y ok W hs hc hr hT => gpair_is s c r x y ok W hs hc hr hT
  pairs := fun s c n r l ok W hs hc hn hr hT => gpairsD_is s c n r l ok W hs hc hn hr hT
  out := fun s c K M r x y ok W hs hc hK hM hr hT => gout_is s c K M r x y ok W hs hc hK hM hr hT
  places := fun s c n r k l W hs hc hn hk hr hT => gplaces_is s c n r k l W hs hc hn hk hr hT
end Go.Proofs.YtgnnliablgbgkaaDoor
