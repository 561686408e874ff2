/-
  The statements of layer 18: short; the walks' common words.
-/
import Derived.Test.YtckipfcjgmiacaaAirSame
import Derived.Test.YtckipfcjgmiacaaAirRefA
namespace Go.Proofs.Ytckipfcjgmiacaa
open Go Go.RowKit
set_option linter.unusedVariables false

def shortB (A : AirP) : Bool := decide (A.steps.length ≤ 20 ∧ A.rules.length ≤ 20 ∧ A.bounds.length ≤ 20 ∧ (∀ i, i < A.steps.length → (tx A.steps i).size ≤ 500) ∧ (∀ i, i < A.rules.length → (tx A.rules i).size ≤ 500))
theorem parse_few {s : ByteArray} {Z : AirP} {r : Int} (h : parseA s = (Z, r)) : FewAir Z := by
  unfold parseA at h
  split at h
  · obtain ⟨rfl, _⟩ := Prod.mk.inj h
    exact ⟨Nat.zero_le _, Nat.zero_le _, Nat.zero_le _⟩
  · next c =>
    split at h
    · obtain ⟨rfl, _⟩ := Prod.mk.inj h
      exact ⟨Nat.zero_le _, Nat.zero_le _, Nat.zero_le _⟩
    · next d =>
      obtain ⟨rfl, _⟩ := Prod.mk.inj h
      obtain ⟨h1, h2, _⟩ := AirP.check_ok (A := (readA s).1) (by simpa using d)
      have := h1.2.2; have := h2.2.2.1; have := h2.2.2.2; have := h2.2.1
      exact ⟨by omega, by omega, by omega⟩
theorem check_okair {A : AirP} (h : A.check = 0) : OkAir A := by
  obtain ⟨h1, h2, h3, h4, _⟩ := AirP.check_ok h
  obtain ⟨t1, t2⟩ := AirP.text_size (A := A) (by rw [h3]; exact h4)
  have hp := AirP.place_bd h
  exact ⟨by have := h2.1; have := h2.2.1; omega, by have := h1.1; have := h1.2.1; omega, fun t ht => by have := t1 t ht; omega, fun t ht => by have := t2 t ht; omega, fun b hb => by have := hp b hb; omega⟩
theorem check_few {A : AirP} (h : A.check = 0) : FewAir A := by
  obtain ⟨h1, h2, _⟩ := AirP.check_ok h
  have := h1.2.2; have := h2.2.2.1; have := h2.2.2.2; have := h2.2.1
  exact ⟨by omega, by omega, by omega⟩
theorem print_size {A : AirP} (h : A.check = 0) : A.print.size ≤ 100000 := by
  obtain ⟨h1, h2, h3, h4, _⟩ := AirP.check_ok h
  obtain ⟨t1, t2⟩ := AirP.text_size (A := A) (by rw [h3]; exact h4)
  have f := check_few h
  have s1 := addB_size textB 2312 (rowB A.head) A.steps (fun x hx => by rw [textB_size]; have := t1 x hx; omega)
  have s2 := addB_size textB 2312 (addB textB (rowB A.head) A.steps) A.rules (fun x hx => by rw [textB_size]; have := t2 x hx; omega)
  have s3 := addB_size placeB 16 (addB textB (addB textB (rowB A.head) A.steps) A.rules) A.bounds (fun x hx => by rw [placeB_size]; exact Nat.le_refl _)
  have s0 : (rowB A.head).size = 40 := by rw [rowB_size]; rfl
  have e1 : A.steps.length ≤ 8 := by have := h2.2.2.1; have := h2.2.1; omega
  have e2 := h2.2.2.2
  have e3 := h1.2.2
  show (addB placeB _ A.bounds).size ≤ _
  omega
def ShortRel (w0 : World) (l : List ByteArray) (i : Value) (W : World) : Prop := ∃ k : Nat, k ≤ l.length ∧ i = .int .i64 k ∧ Below w0.heap.size w0 W ∧ ∀ j, j < k → (tx l j).size ≤ 500
theorem short_few {A : AirP} (h : shortB A = true) : FewAir A := by
  have := of_decide_eq_true h
  exact ⟨by omega, by omega, by omega⟩
set_option maxRecDepth 100000 in
set_option maxHeartbeats 8000000 in
theorem rashort_is (A : AirP) (p : AirAt) (r : Bool) (w : World) (hA : AirA w A p) (hr : shortB A = r) : Calls Try.prog 8 #[A.val p] w fun e w' => e = .returned (.bool r) ∧ Below w.heap.size w w' := by
  by_cases c1 : (20 : Int) < (A.steps.length : Int)
  · obtain rfl : r = false := by
      rw [← hr]
      unfold shortB
      exact decide_eq_false fun h => by
        have := h.1; have := h.2.1; have := h.2.2.1
        omega
    clear hr hA
    go_enter Try.func8, Try.ntmps8
    go_wp2
    go_ret
    exact ⟨rfl, (Below.refl _ _).alloc (Nat.le_refl _) _⟩
  by_cases c2 : (20 : Int) < (A.rules.length : Int)
  · obtain rfl : r = false := by
      rw [← hr]
      unfold shortB
      exact decide_eq_false fun h => by
        have := h.1; have := h.2.1; have := h.2.2.1
        omega
    clear hr hA
    go_enter Try.func8, Try.ntmps8
    go_wp2
    go_ret
    exact ⟨rfl, (Below.refl _ _).alloc (Nat.le_refl _) _⟩
  by_cases c3 : (20 : Int) < (A.bounds.length : Int)
  · obtain rfl : r = false := by
      rw [← hr]
      unfold shortB
      exact decide_eq_false fun h => by
        have := h.1; have := h.2.1; have := h.2.2.1
        omega
    clear hr hA
    go_enter Try.func8, Try.ntmps8
    go_wp2
    go_ret
    exact ⟨rfl, (Below.refl _ _).alloc (Nat.le_refl _) _⟩
  have HA0 := Lib.hid hA; have HR := Lib.hid hr
  have f1 : A.steps.length ≤ 20 := by omega
  have f2 : A.rules.length ≤ 20 := by omega
  have f3 : A.bounds.length ≤ 20 := by omega
  clear hA hr
  go_enter Try.func8, Try.ntmps8
  go_upto_region 1 with fail
  refine wp_gen (fun W => Below w.heap.size w W ∧ AirC W w.heap.size A p) ⟨(Below.refl _ _).alloc (Nat.le_refl _) _, AirC.new _ _ _ _⟩ ?_
  obtain ⟨g, hg⟩ : ∃ g, w.heap.size = g := ⟨_, rfl⟩
  rintro w0 ⟨hB0, hC⟩
  rw [hg] at hC
  simp only [hg]
  have HA := Lib.hid (HA0.out.keep hB0)
  have HB0 := Lib.hid hB0; have HC := Lib.hid hC
  obtain ⟨x0, x1, x2, x3, x4⟩ := hC
  clear hB0 hg HA0
  go_upto_region 4 with fail
  have hBs := Below.refl w0.heap.size w0
  clear x0 x1 x2 x3 x4 c1 c2 c3
  go_loopw [3] (ShortRel w0 A.steps) (fun i _ => A.steps.length - (intOf i).toNat)
  case atStart => exact ⟨0, Nat.zero_le _, rfl, hBs, fun j hj => by omega⟩
  case round =>
    clear hBs
    obtain ⟨k, hk2, rfl, hB, hall⟩ := hrel
    obtain ⟨x0, x1, x2, x3, x4⟩ := HC.out.keep hB
    by_cases hlt : k < A.steps.length
    · have hltI : (k : Int) < (A.steps.length : Int) := by omega
      have hk0 : (0 : Int) ≤ (k : Int) := by omega
      obtain ⟨b1, o1, e1, s1⟩ := ((HA.out.keep hB).1).2 k hlt
      rw [e1] at x2
      clear e1
      by_cases h5 : 500 < (tx A.steps k).size
      · have h5I : (500 : Int) < ((tx A.steps k).size : Int) := by omega
        obtain rfl : r = false := by
          rw [← HR.out]
          unfold shortB
          exact decide_eq_false fun h => by have := h.2.2.2.1 k hlt; omega
        have HBE := Lib.hid (bthen HB0.out hB)
        clear HR hB hall h5
        generalize tx A.steps k = T at *
        go_wp2_with fail
        go_ret
        exact ⟨rfl, HBE.out⟩
      · have h5I : ¬ (500 : Int) < ((tx A.steps k).size : Int) := by omega
        have HALL := Lib.hid (show ∀ j, j < k + 1 → (tx A.steps j).size ≤ 500 from fun j hj => by
          by_cases e : j = k
          · subst e; omega
          · exact hall j (by omega))
        have HB := Lib.hid hB
        clear hB hall h5
        generalize tx A.steps k = T at *
        go_wp2_with fail
        go_roundw
        case rel => exact ⟨k + 1, by omega, by go_num, HB.out, HALL.out⟩
        case measure => simp [intOf]; omega
    · obtain rfl : k = A.steps.length := by omega
      have HALL1 := Lib.hid hall
      clear hall
      have hBs := hB
      go_upto_region 9 with fail
      clear hB x0 x1 x2 x3 x4
      go_loopw [4] (ShortRel w0 A.rules) (fun i _ => A.rules.length - (intOf i).toNat)
      case atStart => exact ⟨0, Nat.zero_le _, rfl, hBs, fun j hj => by omega⟩
      case round =>
        clear hBs
        obtain ⟨k, hk2, rfl, hB, hall⟩ := hrel
        obtain ⟨x0, x1, x2, x3, x4⟩ := HC.out.keep hB
        by_cases hlt : k < A.rules.length
        · have hltI : (k : Int) < (A.rules.length : Int) := by omega
          have hk0 : (0 : Int) ≤ (k : Int) := by omega
          obtain ⟨b1, o1, e1, s1⟩ := ((HA.out.keep hB).2.1).2 k hlt
          rw [e1] at x3
          clear e1
          by_cases h5 : 500 < (tx A.rules k).size
          · have h5I : (500 : Int) < ((tx A.rules k).size : Int) := by omega
            obtain rfl : r = false := by
              rw [← HR.out]
              unfold shortB
              exact decide_eq_false fun h => by have := h.2.2.2.2 k hlt; omega
            have HBE := Lib.hid (bthen HB0.out hB)
            clear HR hB hall h5
            generalize tx A.rules k = T at *
            go_wp2_with fail
            go_ret
            exact ⟨rfl, HBE.out⟩
          · have h5I : ¬ (500 : Int) < ((tx A.rules k).size : Int) := by omega
            have HALL := Lib.hid (show ∀ j, j < k + 1 → (tx A.rules j).size ≤ 500 from fun j hj => by
              by_cases e : j = k
              · subst e; omega
              · exact hall j (by omega))
            have HB := Lib.hid hB
            clear hB hall h5
            generalize tx A.rules k = T at *
            go_wp2_with fail
            go_roundw
            case rel => exact ⟨k + 1, by omega, by go_num, HB.out, HALL.out⟩
            case measure => simp [intOf]; omega
        · obtain rfl : k = A.rules.length := by omega
          have HALL2 := Lib.hid hall
          clear hall
          obtain rfl : r = true := by
            rw [← HR.out]
            unfold shortB
            exact decide_eq_true ⟨f1, f2, f3, HALL1.out, HALL2.out⟩
          have HBE := Lib.hid (bthen HB0.out hB)
          clear hB HR
          go_wp2_with fail
          go_ret
          exact ⟨rfl, HBE.out⟩
end Go.Proofs.Ytckipfcjgmiacaa
