/-
  Butter: Butterflies: what 2^k coefficients, their places' bits the other way round, come to stage by stage, as plain mathematics (no Go in sight).
  NttTurn: What ntt.turn comes to: each number, and each pair, where the bits of its place, the other way round, tell.
  NttRise: What the method rise comes to: each number, and each pair, times a first number and as many of another as stand ahead of it.
  LibRow: What slices.Clone and slices.Reverse come to, of numbers and of pairs.
  NttFly: What the method butterflies comes to: one stage.
  NttAround: What the method around comes to: all stages.
  Repeat: What slices.Repeat comes to, of one 1.
  NttMath: Forth and back by stages are what the document says, as plain mathematics (no Go in sight).
  NttAny: What the program's calls of layer 4 come to: Points, Forth, Back, ForthPairs, BackPairs.
-/
import Derived.Test.YthfkfgjhgicfeaaGreatDoorGNtt
import Derived.Test.YthfkfgjhgicfeaaGreatDoorGRow
import Derived.Test.YthfkfgjhgicfeaaGreatDoorGRoot
import Derived.RegionTactic
import Derived.Test.YthfkfgjhgicfeaaGreatDoorGNum
import Derived.Lib.SliceRun
import Derived.Test.YthfkfgjhgicfeaaGreatDoorGFold
import Derived.Deep.QuietTactic
import Derived.BigQuiet
import Derived.IntWalk
import Derived.Deep.RegionHeld3
import Derived.Deep.DeepCutAuto
namespace Go.Proofs.YthfkfgjhgicfeaaGreatDoor
set_option linter.unusedVariables false

/-- What stands at a place behind o stages. -/
def st (k o : Nat) (c : Nat → F) (p : Nat) : F := sm (2 ^ o) (fun m => c (m * 2 ^ (k - o) + rv (k - o) (p / 2 ^ o)) * fpow (rootOf o) (m * (p % 2 ^ o)))
/-- One stage, at all places: halves of h values, by powers of w. -/
def bf {M : Type} (add sub : M → M → M) (sc : M → F → M) (h : Nat) (w : F) (x : Nat → M) (p : Nat) : M :=
  if p % (2 * h) < h then add (x p) (sc (x (p + h)) (fpow w (p % (2 * h)))) else sub (x (p - h)) (sc (x p) (fpow w (p % (2 * h) - h)))

/-- Where p stands: its block, its half and its place there. -/
theorem place (h p : Nat) (h0 : 0 < h) : ∃ r, r < 2 ∧ p % (2 * h) = r * h + p % h ∧ p = p / (2 * h) * (2 * h) + (r * h + p % h) := by
  refine ⟨p / h % 2, Nat.mod_lt _ (by decide), ?_, ?_⟩
  · rw [Nat.mul_comm 2 h, Nat.mod_mul, Nat.mul_comm (p / h % 2)]; omega
  · have e : p % (2 * h) = p / h % 2 * h + p % h := by rw [Nat.mul_comm 2 h, Nat.mod_mul, Nat.mul_comm (p / h % 2)]; omega
    rw [← e, Nat.mul_comm (p / (2 * h))]; exact (Nat.div_add_mod _ _).symm
/-- All stages. -/
def ar {M : Type} (add sub : M → M → M) (sc : M → F → M) (k : Nat) (x : Nat → M) : Nat → Nat → M
  | 0 => fun p => x (rv k p)
  | o + 1 => bf add sub sc (2 ^ o) (rootOf (o + 1)) (ar add sub sc k x o)
end Go.Proofs.YthfkfgjhgicfeaaGreatDoor
namespace Go.Proofs.YthfkfgjhgicfeaaGreatDoor
open Go.RowKit
set_option linter.unusedVariables false

end Go.Proofs.YthfkfgjhgicfeaaGreatDoor
namespace Go.Proofs.YthfkfgjhgicfeaaGreatDoor
open Go.RowKit
set_option linter.unusedVariables false

end Go.Proofs.YthfkfgjhgicfeaaGreatDoor
namespace Go.Proofs.YthfkfgjhgicfeaaGreatDoor
open Go.RowKit
set_option linter.unusedVariables false

/-- Places o to o + n, the other way round. -/
def rx (o n j : Nat) : Nat := if o ≤ j ∧ j < o + n then 2 * o + n - 1 - j else j
set_option maxHeartbeats 4000000 in
theorem clone_q (a : Option Addr) (len cap : Nat) (zs : List (Int × Int)) (w : World) (hr : QRowA w a len zs) (h0 : 0 < len) (hl : len ≤ 4294967296) :
    Calls Tryz.prog 51 #[.slice a len cap] w fun e w' => ∃ g c, e = .returned (.slice (some ⟨g, 0, none⟩) len c) ∧ w.heap.size ≤ g ∧ len ≤ c ∧ c ≤ maxLen ∧ Below w.heap.size w w' ∧ Arr w' g (len * 2) (pc fun j => zs.getD j (0, 0)) := by
  obtain ⟨i0, hi, hz0, hz1, hz2⟩ := info_parts infoQ'
  have q := fun (w : World) (a : Option Addr) (n c n' c' : Nat) => Lib.run_eql_slice_nil (P := Tryz.prog) w 24 31 a n c n' c' Tryz.underlying24
  obtain ⟨hz, hm, hc⟩ := hr
  obtain ⟨b, off, rfl, g0⟩ := hc 0 h0
  have A : Aside (∀ j u, (flat zs)[j]? = some u → w.cell? ⟨b, off + j, none⟩ = some u) := by
    intro j u hj
    have hj2 : j < len * 2 := by have := (List.getElem?_eq_some_iff.1 hj).1; rw [flat_length] at this; omega
    obtain ⟨b', off', e, h, h'⟩ := hc (j / 2) (by omega)
    cases e
    obtain ⟨f0, f1⟩ := flat_at zs (j / 2) (by omega)
    rcases (by omega : j = j / 2 * 2 ∨ j = j / 2 * 2 + 1) with e | e
    · rw [← e] at h f0; rw [h, ← hj, f0]
    · rw [← e] at f1; rw [Nat.add_assoc, ← e] at h'; rw [h', ← hj, f1]
  have L1 : (flat zs).length = len * 2 := by rw [flat_length, hz]
  clear hc g0
  obtain ⟨news, hnews⟩ : ∃ l, flat zs = l := ⟨_, rfl⟩
  have HN := Lib.hid hnews
  rw [hnews] at A L1
  clear hnews
  have hon : ∀ u ∈ news, u.oneCell' = true := by rw [← HN.out]; intro u hu; obtain ⟨x, _, hx⟩ := List.mem_flatMap.1 hu; simp at hx; rcases hx with rfl | rfl <;> rfl
  have HM := Lib.hid hm
  go_enter Tryz.func51, Tryz.ntmps51
  go_wp2_with (at_builtin; refine wpList_append_own _ rfl _ _ 24 rfl w.heap.size 31 i0 (.agg #[.int .u64 0, .int .u64 0]) 2 16 Tryz.underlying24 hi hz0 hz1 hz2 rfl (by decide) _ _ _ rfl (World.ownsRow_made w #[] 0 (Nat.le_refl _) (Nat.zero_le _) (by simp)) ⟨b, off, none⟩ len cap news rfl ?qc1 ?qc2 ?qc3 ?qc4 ?qc5 ?qc6 ?_)
  case qc1 => exact L1
  case qc2 =>
    intro j u hj
    rw [Addr.add_lit]
    exact Lib.cell?_alloc_some _ (A.out j u hj)
  case qc3 => exact hon
  case qc4 => rw [Nat.zero_add]; exact HM.out
  case qc5 => rw [Nat.zero_add]; omega
  case qc6 => simp
  intro v' w1 hown hgrow hnil
  try simp only [Nat.zero_add, List.nil_append] at hown
  obtain ⟨g, c, rfl, hb, hnc, hcm, hA⟩ := own_arr hown h0
  have HA : Hid (Arr w1 g (len * 2) (pc fun j => zs.getD j (0, 0))) := Lib.hid (by
    rw [← HN.out] at hA
    exact (hA.same (fun j hj => by
      obtain ⟨f0, f1⟩ := flat_at zs (j / 2) (by omega)
      unfold pc
      rcases (by omega : j = j / 2 * 2 ∨ j = j / 2 * 2 + 1) with e | e
      · rw [if_pos (by omega)]; rw [← e] at f0; rw [List.getD, f0]; rfl
      · rw [if_neg (by omega)]; rw [← e] at f1; rw [List.getD, f1]; rfl)))
  have HB := Lib.hid (((Below.refl _ w).alloc (Nat.le_refl _) _).grown hgrow (by simp) (by intro k hk; simp [Value.ownBlock] at hk; omega))
  clear hA hown hgrow hnil
  go_wp2
  go_ret
  exact ⟨g, c, rfl, hb, hnc, hcm, HB.out, HA.out⟩

end Go.Proofs.YthfkfgjhgicfeaaGreatDoor
namespace Go.Proofs.YthfkfgjhgicfeaaGreatDoor
open Go.RowKit
set_option linter.unusedVariables false

end Go.Proofs.YthfkfgjhgicfeaaGreatDoor
namespace Go.Proofs.YthfkfgjhgicfeaaGreatDoor
open Go.RowKit
set_option linter.unusedVariables false

end Go.Proofs.YthfkfgjhgicfeaaGreatDoor
namespace Go.Proofs.YthfkfgjhgicfeaaGreatDoor
open Go.RowKit
set_option linter.unusedVariables false

def ones (n : Nat) (j : Nat) : Value := .int .u64 (if j < n then 1 else 0)
end Go.Proofs.YthfkfgjhgicfeaaGreatDoor
namespace Go.Proofs.YthfkfgjhgicfeaaGreatDoor
set_option linter.unusedVariables false

end Go.Proofs.YthfkfgjhgicfeaaGreatDoor
namespace Go.Proofs.YthfkfgjhgicfeaaGreatDoor
open Go.RowKit
set_option linter.unusedVariables false

theorem RowA.src {W : World} {a : Option Addr} {len : Nat} {zs : List Int} (h : RowA W a len zs) (h0 : 0 < len) : ∃ ad, a = some ad ∧ ∀ j v, (zs.map (Value.int .u64))[j]? = some v → W.cell? (ad.add j) = some v := by
  obtain ⟨hz, hm, hc⟩ := h
  obtain ⟨b, off, rfl, _⟩ := hc 0 h0
  refine ⟨_, rfl, fun j v hv => ?_⟩
  have hj : j < zs.length := by have := (List.getElem?_eq_some_iff.1 hv).1; simpa using this
  obtain ⟨b', off', e, h⟩ := hc j (by omega)
  cases e
  rw [Addr.add_lit, h, ← hv]; simp [List.getD, hj]
theorem QRowA.src {W : World} {a : Option Addr} {len : Nat} {zs : List (Int × Int)} (h : QRowA W a len zs) (h0 : 0 < len) : ∃ ad, a = some ad ∧ ∀ j v, (flat zs)[j]? = some v → W.cell? (ad.add j) = some v := by
  obtain ⟨hz, hm, hc⟩ := h
  obtain ⟨b, off, rfl, _⟩ := hc 0 h0
  refine ⟨_, rfl, fun j v hv => ?_⟩
  have hj2 : j < len * 2 := by have := (List.getElem?_eq_some_iff.1 hv).1; rw [flat_length] at this; omega
  obtain ⟨b', off', e, h, h'⟩ := hc (j / 2) (by omega)
  cases e
  obtain ⟨f0, f1⟩ := flat_at zs (j / 2) (by omega)
  rw [Addr.add_lit]
  rcases (by omega : j = j / 2 * 2 ∨ j = j / 2 * 2 + 1) with e | e
  · rw [← e] at h f0; rw [h, ← hv, f0]
  · rw [← e] at f1; rw [Nat.add_assoc, ← e] at h'; rw [h', ← hv, f1]
theorem Arr.qrowc {W : World} {g n c : Nat} {zs : List (Int × Int)} (h : Arr W g (n * 2) (pc fun j => zs.getD j (0, 0))) (hz : zs.length = n) (h1 : n ≤ c) (h2 : c ≤ maxLen) : QRow W (.slice (some ⟨g, 0, none⟩) n c) zs :=
  Or.inr (Or.inr ⟨g, 0, c, by rw [hz], by omega, h2, fun i hi => by rw [Nat.zero_add]; exact ⟨(h.cells i (by omega)).1, (h.cells i (by omega)).2.1⟩⟩)
end Go.Proofs.YthfkfgjhgicfeaaGreatDoor
