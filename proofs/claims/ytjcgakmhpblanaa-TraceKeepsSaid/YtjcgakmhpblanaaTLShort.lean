/-
  The statements of layer 19: few rows, the same rows. (Written by gen_tshort.py.)
-/
import Derived.Test.YtjcgakmhpblanaaTraceRefC
import Derived.Test.YtjcgakmhpblanaaTraceRefM
import Derived.Test.YtjcgakmhpblanaaTraceRefP
import Derived.Test.YtjcgakmhpblanaaSame
namespace Go.Proofs.Ytjcgakmhpblanaa
open Go Go.RowKit
set_option linter.unusedVariables false

theorem wrap_two (a b : Nat) (ha : a ≤ 1000000) (hb : b ≤ 1000000) : IntKind.i64.wrap ((a : Int) + (b : Int)) = ((a + b : Nat) : Int) ∧ wrap64 ((a : Int) + (b : Int)) = ((a + b : Nat) : Int) := ⟨by rw [IntWalk.i64_in _ (by omega)]; omega, by rw [IntWalk.wrap64_in _ (by omega)]; omega⟩
theorem rules_some {s r k : Nat} (h1 : s ≤ k) (h2 : k < s + r) : 0 < r := by omega
theorem cast_lt {a b : Nat} (h : a < b) : (a : Int) < (b : Int) := by omega
theorem cast_le {a b : Nat} (h : a ≤ b) : (a : Int) ≤ (b : Int) := by omega
structure SmallT (A : AirP) (rows : List (List Int)) : Prop where
  wide : ∀ r ∈ rows, r.length ≤ 20
  log : A.log ≤ 6
  steps : A.steps.length ≤ 10
  rules : A.rules.length ≤ 20
  bounds : A.bounds.length ≤ 20
  many : rows.length ≤ 70
theorem small_or (A : AirP) (rows : List (List Int)) : ∃ r : Bool, (r = true ↔ SmallT A rows) := by
  by_cases h : SmallT A rows
  · exact ⟨true, by simp [h]⟩
  · exact ⟨false, by simp [h]⟩
theorem SmallT.few {A : AirP} {rows : List (List Int)} (h : SmallT A rows) : FewAir A := ⟨by have := h.steps; omega, by have := h.rules; omega, by have := h.bounds; omega⟩
def WideRel (w1 : World) (rows : List (List Int)) (i : Value) (W : World) : Prop := ∃ k : Nat, k ≤ rows.length ∧ i = .int .i64 k ∧ Below w1.heap.size w1 W ∧ ∀ j, j < k → (rowN rows j).length ≤ 20
set_option maxRecDepth 100000 in
set_option maxHeartbeats 8000000 in
theorem trsmall_is (A : AirP) (p : AirAt) (a : Option Addr) (n cap : Nat) (rows : List (List Int)) (r : Bool) (w : World) (hA : AirA w A p) (hr : RowsA w a n rows) (hz : r = true ↔ SmallT A rows) :
    Calls Try.prog 8 #[A.val p, .slice a n cap] w fun e w' => e = .returned (.bool r) ∧ Below w.heap.size w w' := by
  have HNO : Hid (¬ SmallT A rows → false = r) := Lib.hid fun h => by cases r with | false => rfl | true => exact absurd (hz.1 rfl) h
  have HYES : Hid (SmallT A rows → true = r) := Lib.hid fun h => (hz.2 h).symm
  clear hz
  obtain rfl := hr.1
  have HA' := Lib.hid hA; have HR' := Lib.hid hr
  have hrmax := hr.2.1
  unfold maxLen at hrmax
  clear hA hr
  go_enter Try.func8, Try.ntmps8
  go_upto_region 1 with fail
  refine wp_gen (fun W => Below w.heap.size w W ∧ AirC W w.heap.size A p) ⟨(Below.refl _ _).alloc (Nat.le_refl _) _, AirC.new _ _ _ _⟩ ?_
  obtain ⟨g, hg⟩ : ∃ g, w.heap.size = g := ⟨_, rfl⟩
  rintro w0 ⟨hB0, hC⟩
  rw [hg] at hC
  simp only [hg]
  have HR := Lib.hid (rowsA_keep HR'.out hB0)
  have HB := Lib.hid hB0; have HC := Lib.hid hC
  clear hB0 hg HA' HR' hC
  go_upto_region 2 with fail
  go_loopw [5] (WideRel w0 rows) (fun i _ => rows.length - (intOf i).toNat)
  case atStart => exact ⟨0, Nat.zero_le _, rfl, Below.refl _ _, fun j hj => by omega⟩
  case round =>
    obtain ⟨k, hk, rfl, hBI, hpl⟩ := hrel
    have HBI := Lib.hid hBI; have HPL := Lib.hid hpl
    clear hBI hpl
    by_cases hlt : k < rows.length
    · have hltI : (k : Int) < (rows.length : Int) := by omega
      have hk0 : (0 : Int) ≤ (k : Int) := by omega
      obtain ⟨b, off, hpe, ak, ck, c0, hrow, _⟩ := (rowsA_keep HR.out HBI.out).2.2 k hlt
      rw [show rows.getD k [] = rowN rows k from rfl] at c0
      generalize hrw : rowN rows k = row at *
      have HRW := Lib.hid hrw
      subst hpe
      clear hrow hrw
      by_cases hq : (20 : Int) < (row.length : Int)
      · have hD := HNO.out (fun h => absurd (rows_at (Q := fun r => r.length ≤ 20) h.wide hlt) (by rw [HRW.out]; omega))
        subst hD
        clear HNO HYES HRW
        go_wp2_with fail
        go_ret
        exact ⟨rfl, bthen HB.out HBI.out⟩
      · have HPL2 : Hid (∀ j, j < k + 1 → (rowN rows j).length ≤ 20) := Lib.hid fun j hj => by
          by_cases e : j = k
          · subst e; rw [HRW.out]; omega
          · exact HPL.out j (by omega)
        clear HPL
        go_wp2_with fail
        go_roundw
        case rel => exact ⟨k + 1, by omega, by go_num, HBI.out, HPL2.out⟩
        case measure => simp [intOf]; omega
    · obtain rfl : k = rows.length := by omega
      obtain ⟨x0, x1, x2, x3, x4⟩ := HC.out.keep HBI.out
      have HBE := Lib.hid (bthen HB.out HBI.out)
      by_cases q0 : A.log ≤ 6
      case neg =>
        have hD := HNO.out (fun h => q0 (by have := h.log; omega))
        subst hD
        clear HNO HYES
        go_wp2_with fail
        go_ret
        exact ⟨by first | rfl | simp_all, HBE.out⟩
      by_cases q1 : (A.steps.length : Int) ≤ 10
      case neg =>
        have hD := HNO.out (fun h => q1 (by have := h.steps; omega))
        subst hD
        clear HNO HYES
        go_wp2_with fail
        go_ret
        exact ⟨by first | rfl | simp_all, HBE.out⟩
      by_cases q2 : (A.rules.length : Int) ≤ 20
      case neg =>
        have hD := HNO.out (fun h => q2 (by have := h.rules; omega))
        subst hD
        clear HNO HYES
        go_wp2_with fail
        go_ret
        exact ⟨by first | rfl | simp_all, HBE.out⟩
      by_cases q3 : (A.bounds.length : Int) ≤ 20
      case neg =>
        have hD := HNO.out (fun h => q3 (by have := h.bounds; omega))
        subst hD
        clear HNO HYES
        go_wp2_with fail
        go_ret
        exact ⟨by first | rfl | simp_all, HBE.out⟩
      by_cases q4 : (rows.length : Int) ≤ 70
      case neg =>
        have hD := HNO.out (fun h => q4 (by have := h.many; omega))
        subst hD
        clear HNO HYES
        go_wp2_with fail
        go_ret
        exact ⟨by first | rfl | simp_all, HBE.out⟩
      have hD := HYES.out ⟨rows_of (Q := fun r => r.length ≤ 20) HPL.out, by omega, by omega, by omega, by omega, by omega⟩
      subst hD
      clear HNO HYES
      go_wp2_with fail
      go_ret
      exact ⟨by first | rfl | simp_all, HBE.out⟩
def SameR (w1 : World) (n : Nat) (i : Value) (W : World) : Prop := ∃ k : Nat, k ≤ n ∧ i = .int .i64 k ∧ Below w1.heap.size w1 W
set_option maxRecDepth 100000 in
set_option maxHeartbeats 8000000 in
theorem trsame_is (a b : Option Addr) (n m c d : Nat) (rows rows' : List (List Int)) (w : World) (ha : RowsA w a n rows) (hb : RowsA w b m rows') (he : rows = rows') :
    Calls Try.prog 12 #[.slice a n c, .slice b m d] w fun e w' => e = .returned (.bool true) ∧ Below w.heap.size w w' := by
  subst he
  obtain rfl := ha.1
  obtain rfl := hb.1
  have HA := Lib.hid ha; have HB := Lib.hid hb
  have hrmax := ha.2.1
  unfold maxLen at hrmax
  clear ha hb
  go_enter Try.func12, Try.ntmps12
  go_upto_region 4 with fail
  go_loopw [5] (SameR w rows.length) (fun i _ => rows.length - (intOf i).toNat)
  case atStart => exact ⟨0, Nat.zero_le _, rfl, Below.refl _ _⟩
  case round =>
    obtain ⟨k, hk, rfl, hBI⟩ := hrel
    have HBI := Lib.hid hBI
    clear hBI
    by_cases hlt : k < rows.length
    · have hltI : (k : Int) < (rows.length : Int) := by omega
      have hk0 : (0 : Int) ≤ (k : Int) := by omega
      obtain ⟨b1, o1, hp1, a1, c1, x0, hr1, _⟩ := (rowsA_keep HA.out HBI.out).2.2 k hlt
      obtain ⟨b2, o2, hp2, a2, c2, x1, hr2, _⟩ := (rowsA_keep HB.out HBI.out).2.2 k hlt
      rw [show rows.getD k [] = rowN rows k from rfl] at x0 x1 hr1 hr2
      generalize rowN rows k = row at *
      have HR1 := Lib.hid hr1; have HR2 := Lib.hid hr2
      have k1 := fun W (hb : Below wr.heap.size wr W) => same_is a1 a2 row.length row.length c1 c2 row row W (HR1.out.keep hb) (HR2.out.keep hb) rfl
      subst hp1 hp2
      clear hr1 hr2
      go_upto_region 6 with fail
      replace x0 := fun q : Regrown => cell_regrown x0 q.d q.os
      replace x1 := fun q : Regrown => cell_regrown x1 q.d q.os
      refine wp_region_quiet_below (by kernel_rfl) (by kernel_rfl) ?_
      repeat (first | go_big_quiet_step ((go_at_call 13; with_reducible exact Calls.regrown_of ((k1 _ (below_regrown wr _ _)).mono fun e w' ⟨h1, n, h2⟩ => ⟨h1, by subst h2; exact below_drewN (Below.refl _ _) _⟩))) | quiet_step (fail))
      refine wpQuiet_nil ?_
      rintro _ ⟨pq, rfl⟩
      have HBQ := Lib.hid (bthen HBI.out (below_regrown wr pq.d pq.os))
      clear x0 x1 k1 HR1 HR2
      go_wp2_with fail
      go_roundw
      case rel => exact ⟨k + 1, by omega, by go_num, HBQ.out⟩
      case measure => simp [intOf]; omega
    · obtain rfl : k = rows.length := by omega
      go_wp2_with fail
      go_ret
      exact ⟨rfl, HBI.out⟩
end Go.Proofs.Ytjcgakmhpblanaa
