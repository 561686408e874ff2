/-
  The walk of OctetReads: it answers true, where the program's calls do what is asked of them.
-/
import Derived.Test.YtmgbdccfgbflnaaOAsk
import Derived.Test.YtmgbdccfgbflnaaSame
import Derived.Test.YtmgbdccfgbflnaaPairRef
namespace Go.Proofs.Ytmgbdccfgbflnaa
open Go Go.RowKit
set_option linter.unusedVariables false

open Classical in
/-- What a row's bytes are told as. -/
noncomputable def rdB (s : ByteArray) (n : Int) : Bool := decide (OkR s n)
noncomputable def rdX (s : ByteArray) (n : Int) : List Int := if rdB s n = true then nums s n.toNat else []
noncomputable def rdQ (s : ByteArray) (n : Int) : List (Int × Int) := if rdB s (2 * n) = true then prs s n.toNat else []
theorem rdB_iff (s : ByteArray) (n : Int) : rdB s n = true ↔ OkR s n := by unfold rdB; simp
theorem nil_rowA (w : World) : RowA w none 0 [] := ⟨rfl, by unfold maxLen; omega, fun k hk => by omega⟩
theorem nil_qrowA (w : World) : QRowA w none 0 [] := ⟨rfl, by unfold maxLen; omega, fun k hk => by omega⟩
theorem ReadPost.told {s : ByteArray} {n : Int} {w w' : World} {e : Ending} (h : ReadPost s n w e w') : ∃ a l c, e = .returned (.tuple #[.slice a l c, .bool (rdB s n)]) ∧ RowA w' a l (rdX s n) ∧ Below w.heap.size w w' := by
  obtain ⟨hb, ⟨hno, rfl⟩ | ⟨hok, a, c, rfl, hr⟩⟩ := h
  · have e1 : rdB s n = false := by rw [Bool.eq_false_iff]; exact fun h => hno ((rdB_iff s n).1 h)
    refine ⟨none, 0, 0, by rw [e1], ?_, hb⟩
    unfold rdX
    rw [if_neg (by rw [e1]; decide)]
    exact nil_rowA _
  · have e1 := (rdB_iff s n).2 hok
    refine ⟨a, n.toNat, c, by rw [e1], ?_, hb⟩
    unfold rdX
    rw [if_pos e1]
    exact hr.at
theorem ReadPostQ.told {s : ByteArray} {n : Int} {w w' : World} {e : Ending} (h : ReadPostQ s n w e w') : ∃ a l c, e = .returned (.tuple #[.slice a l c, .bool (rdB s (2 * n))]) ∧ QRowA w' a l (rdQ s n) ∧ Below w.heap.size w w' := by
  obtain ⟨hb, ⟨hno, rfl⟩ | ⟨hok, a, c, rfl, hr⟩⟩ := h
  · have e1 : rdB s (2 * n) = false := by rw [Bool.eq_false_iff]; exact fun h => hno ((rdB_iff s _).1 h)
    refine ⟨none, 0, 0, by rw [e1], ?_, hb⟩
    unfold rdQ
    rw [if_neg (by rw [e1]; decide)]
    exact nil_qrowA _
  · have e1 := (rdB_iff s _).2 hok
    refine ⟨a, n.toNat, c, by rw [e1], ?_, hb⟩
    unfold rdQ
    rw [if_pos e1]
    exact hr.at
theorem rnum_any (s : ByteArray) (x : Int) (ok : Bool) (hx : (if 8 ≤ s.size then numB s 0 else 0) = x) (hok : decide (8 ≤ s.size) = ok) (w : World) : Calls Try.prog 15 #[.string s] w fun e w' => e = .returned (.tuple #[.int .u64 x, .bool ok]) ∧ Below w.heap.size w w' := by
  by_cases h : 8 ≤ s.size
  · rw [if_pos h] at hx
    rw [decide_eq_true h] at hok
    subst hx; subst hok
    exact (rnum_yes s h w).mono fun e w' ⟨h1, h2⟩ => ⟨h1, by rw [h2]; exact Below.refl _ _⟩
  · rw [if_neg h] at hx
    rw [decide_eq_false h] at hok
    subst hx; subst hok
    exact (rnum_no s (by omega) w).mono fun e w' ⟨h1, h2⟩ => ⟨h1, by rw [h2]; exact Below.refl _ _⟩
theorem same_b (a1 a2 : Option Addr) (l1 l2 c1 c2 : Nat) (xs : List Int) (w : World) (h1 : RowA w a1 l1 xs) (h2 : RowA w a2 l2 xs) :
    Calls Try.prog 20 #[.slice a1 l1 c1, .slice a2 l2 c2] w fun e w' => e = .returned (.bool true) ∧ Below w.heap.size w w' :=
  ref_below (same_is a1 a2 l1 l2 c1 c2 xs xs w h1 h2 rfl)
theorem sameq_b (a1 a2 : Option Addr) (l1 l2 c1 c2 : Nat) (xs : List (Int × Int)) (w : World) (h1 : QRowA w a1 l1 xs) (h2 : QRowA w a2 l2 xs) :
    Calls Try.prog 21 #[.slice a1 l1 c1, .slice a2 l2 c2] w fun e w' => e = .returned (.bool true) ∧ Below w.heap.size w w' :=
  ref_below (sameq_is a1 a2 l1 l2 c1 c2 xs xs w h1 h2 rfl)

set_option maxRecDepth 100000 in
set_option maxHeartbeats 4000000 in
theorem oreads_body (hA : AskOct) (s : ByteArray) (n : Int) (w : World) (hml : s.size ≤ maxLen) :
    Calls Try.prog 4 #[.string s, .int .i64 n] w fun e w' => e = .returned (.bool true) ∧ Below w.heap.size w w' := by
  have aw := fun W => oawake hA W
  unfold maxLen at hml
  by_cases hbig : 1000 < s.size
  · have hbI : (1000 : Int) < (s.size : Int) := by omega
    clear hA
    go_enter Try.func4, Try.ntmps4
    go_wp2_with (go_at_call 7; ((with_reducible refine (aw _).mono ?_); rintro e w1 ⟨rfl, hb1⟩))
    go_ret
    exact ⟨rfl, hb1⟩
  · have hbI : ¬ (1000 : Int) < (s.size : Int) := by omega
    obtain ⟨x, hx⟩ : ∃ x, (if 8 ≤ s.size then numB s 0 else 0) = x := ⟨_, rfl⟩
    obtain ⟨ok, hok⟩ : ∃ ok, decide (8 ≤ s.size) = ok := ⟨_, rfl⟩
    have k1 := hA.num s x ok (by omega) hx hok
    have r1 := fun W => rnum_any s x ok hx hok W
    have k2 := fun W => (hA.readRow s n W (by omega)).mono fun e w' h => h.told
    have r2 := fun W => (rread_any s n W).mono fun e w' h => h.told
    have k3 := fun W => (hA.readPairs s n W (by omega)).mono fun e w' h => h.told
    have r3 := fun W => (rreadq_any s n W).mono fun e w' h => h.told
    clear hA hx hok
    generalize rdB s n = b1 at *
    generalize rdB s (2 * n) = b2 at *
    generalize rdX s n = xs at *
    generalize rdQ s n = qs at *
    have HB := Lib.hid (Below.refl w.heap.size w)
    go_enter Try.func4, Try.ntmps4
    go_upto_region 5 with ((first
      | (go_at_call 14; with_reducible refine (k1 _).mono ?_)
      | (go_at_call 15; with_reducible refine (r1 _).mono ?_)); rintro e w1 ⟨rfl, hb⟩; replace HB := Lib.hid (bthen HB.out hb); clear hb)
    go_upto_region 6 with (go_at_call 16; (with_reducible refine (k2 _).mono ?_); rintro e w3 ⟨a3, l3, c3, rfl, h3, hb⟩; replace HB := Lib.hid (bthen HB.out hb); clear hb)
    go_upto_region 7 with (go_at_call 17; (with_reducible refine (r2 _).mono ?_); rintro e w4 ⟨a4, l4, c4, rfl, h4, hb⟩; replace HB := Lib.hid (bthen HB.out hb); replace h3 := h3.keep hb; clear hb)
    go_upto_region 8 with (go_at_call 18; (with_reducible refine (k3 _).mono ?_); rintro e w5 ⟨a5, l5, c5, rfl, h5, hb⟩; replace HB := Lib.hid (bthen HB.out hb); replace h3 := h3.keep hb; replace h4 := h4.keep hb; clear hb)
    go_upto_region 9 with (go_at_call 19; (with_reducible refine (r3 _).mono ?_); rintro e w6 ⟨a6, l6, c6, rfl, h6, hb⟩; replace HB := Lib.hid (bthen HB.out hb); replace h3 := h3.keep hb; replace h4 := h4.keep hb; replace h5 := h5.keep hb; clear hb)
    have H := Lib.hid (And.intro (And.intro h3 h4) (And.intro h5 h6))
    clear h3 h4 h5 h6
    go_wp2_with ((first
      | (go_at_call 7; with_reducible refine (aw _).mono ?_)
      | (go_at_call 20; with_reducible refine (same_b _ _ _ _ _ _ _ _ H.out.1.1 H.out.1.2).mono ?_)
      | (go_at_call 21; with_reducible refine (sameq_b _ _ _ _ _ _ _ _ H.out.2.1 H.out.2.2).mono ?_)); rintro e w7 ⟨rfl, hb⟩; replace HB := Lib.hid (bthen HB.out hb); replace H := Lib.hid (And.intro (And.intro (H.out.1.1.keep hb) (H.out.1.2.keep hb)) (And.intro (H.out.2.1.keep hb) (H.out.2.2.keep hb))); clear hb)
    go_ret
    exact ⟨rfl, HB.out⟩
end Go.Proofs.Ytmgbdccfgbflnaa
