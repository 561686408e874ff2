/-
  What is asked of package ntt, call by call, under names; and that the document's answers do the same.
-/
import Derived.Test.YtflabonifbhmnaaDoorPartsRef
import Derived.Test.YtflabonifbhmnaaDoorSame
import Derived.Test.YtflabonifbhmnaaDoorOpenPairs
namespace Go.Proofs.YtflabonifbhmnaaDoor
open Go.RowKit
set_option linter.unusedVariables false

def okF (len : Nat) (k : Int) : Prop := 0 ≤ k ∧ k ≤ 20 ∧ len ≤ 2 ^ k.toNat
instance (len : Nat) (k : Int) : Decidable (okF len k) := by unfold okF; exact inferInstance
def okB (len : Nat) (s : F) : Prop := 0 ≤ lg len ∧ lg len ≤ 20 ∧ s ≠ 0
instance (len : Nat) (s : F) : Decidable (okB len s) := by unfold okB; exact inferInstance
def errF (len : Nat) (k : Int) : Int := if okF len k then 0 else 1
def errB (len : Nat) (s : F) : Int := if okB len s then 0 else 1
def resF (zs : List Int) (s : F) (k : Int) : List Int := if okF zs.length k then forthL zs s k.toNat else []
def resB (zs : List Int) (s : F) : List Int := if okB zs.length s then backL zs s (lg zs.length).toNat else []
def resFQ (zs : List (Int × Int)) (s : F) (k : Int) : List (Int × Int) := if okF zs.length k then forthQ zs s k.toNat else []
def resBQ (zs : List (Int × Int)) (s : F) : List (Int × Int) := if okB zs.length s then backQ zs s (lg zs.length).toNat else []

def OneL (err : Int) (res : List Int) (w : World) (e : Ending) (w' : World) : Prop := ∃ a n c, e = .returned (.tuple #[.slice a n c, .int .i64 err]) ∧ Below w.heap.size w w' ∧ Row w' (.slice a n c) res
def OneLQ (err : Int) (res : List (Int × Int)) (w : World) (e : Ending) (w' : World) : Prop := ∃ a n c, e = .returned (.tuple #[.slice a n c, .int .i64 err]) ∧ Below w.heap.size w w' ∧ QRow w' (.slice a n c) res
theorem OneL.yes {w w' : World} {e : Ending} {n : Nat} {xs res : List Int} {err : Int} (h : NewOk w n xs e w') (hr : res = xs) (he : err = 0) : OneL err res w e w' := by
  subst hr he
  obtain ⟨a, c, h1, h2, h3⟩ := h
  exact ⟨a, n, c, h1, h2, h3⟩
theorem OneL.no {w w' : World} {e : Ending} {res : List Int} {err : Int} (h : ErrArg w e w') (hr : res = []) (he : err = 1) : OneL err res w e w' := by
  subst hr he
  exact ⟨none, 0, 0, h.1, h.2, Or.inl ⟨rfl, rfl⟩⟩
theorem OneLQ.yes {w w' : World} {e : Ending} {n : Nat} {xs res : List (Int × Int)} {err : Int} (h : NewOkQ w n xs e w') (hr : res = xs) (he : err = 0) : OneLQ err res w e w' := by
  subst hr he
  obtain ⟨a, c, h1, h2, h3⟩ := h
  exact ⟨a, n, c, h1, h2, h3⟩
theorem OneLQ.no {w w' : World} {e : Ending} {res : List (Int × Int)} {err : Int} (h : ErrArg w e w') (hr : res = []) (he : err = 1) : OneLQ err res w e w' := by
  subst hr he
  exact ⟨none, 0, 0, h.1, h.2, Or.inl ⟨rfl, rfl⟩⟩

theorem refforth_one (a : Option Addr) (len cap : Nat) (zs : List Int) (zi : Int) (hz : U zi) (s : F) (hs : toF zi = s) (k : Int) (w : World) (hr : Row w (.slice a len cap) zs) (hu : ∀ n ∈ zs, U n) :
    Calls Tryd.prog 11 #[.slice a len cap, .int .u64 zi, .int .i64 k] w (OneL (errF zs.length k) (resF zs s k) w) := by
  have hl := hr.at.1
  by_cases h : okF zs.length k
  · obtain ⟨m, rfl⟩ := Int.eq_ofNat_of_zero_le h.1
    have h3 := h.2.2
    rw [Int.toNat_natCast] at h3
    exact (refforth_yes a len cap zs zi hz s hs m (by have := h.2.1; omega) w hr.at hu (by omega)).mono fun e w' h' => OneL.yes h' (by unfold resF; rw [if_pos h, Int.toNat_natCast]) (by unfold errF; rw [if_pos h])
  · exact (refforth_no a len cap zi k hr.at.2.1 w (by rw [← hl]; exact h)).mono fun e w' h' => OneL.no h' (by unfold resF; rw [if_neg h]) (by unfold errF; rw [if_neg h])
theorem refback_one (a : Option Addr) (len cap : Nat) (zs : List Int) (zi : Int) (hz : U zi) (s : F) (hs : toF zi = s) (w : World) (hr : Row w (.slice a len cap) zs) (hu : ∀ n ∈ zs, U n) :
    Calls Tryd.prog 13 #[.slice a len cap, .int .u64 zi] w (OneL (errB zs.length s) (resB zs s) w) := by
  have hl := hr.at.1
  have hm := hr.at.2.1
  unfold maxLen at hm
  by_cases h : okB zs.length s
  · obtain ⟨k, hk, hk2, hk3⟩ := lg_cases zs.length (by omega) h.1 h.2.1
    exact (refback_yes a len cap zs zi hz s hs h.2.2 k hk w hr.at hu (by omega)).mono fun e w' h' => OneL.yes h' (by unfold resB; rw [if_pos h, hk3, Int.toNat_natCast]) (by unfold errB; rw [if_pos h])
  · exact (refback_no a len cap zi hz s hs hr.at.2.1 w (by rw [← hl]; exact h)).mono fun e w' h' => OneL.no h' (by unfold resB; rw [if_neg h]) (by unfold errB; rw [if_neg h])
theorem refforthq_one (a : Option Addr) (len cap : Nat) (zs : List (Int × Int)) (zi : Int) (hz : U zi) (s : F) (hs : toF zi = s) (k : Int) (w : World) (hr : QRow w (.slice a len cap) zs) (hu : ∀ n ∈ zs, U n.1 ∧ U n.2) (hlen : len ≤ 4294967296) :
    Calls Tryd.prog 18 #[.slice a len cap, .int .u64 zi, .int .i64 k] w (OneLQ (errF zs.length k) (resFQ zs s k) w) := by
  have hl := hr.at.1
  by_cases h : okF zs.length k
  · obtain ⟨m, rfl⟩ := Int.eq_ofNat_of_zero_le h.1
    have h3 := h.2.2
    rw [Int.toNat_natCast] at h3
    exact (refforthq_yes a len cap zs zi hz s hs m (by have := h.2.1; omega) w hr.at hu (by omega)).mono fun e w' h' => OneLQ.yes h' (by unfold resFQ; rw [if_pos h, Int.toNat_natCast]) (by unfold errF; rw [if_pos h])
  · exact (refforthq_no a len cap zs zi k w hr.at hlen (by rw [← hl]; exact h)).mono fun e w' h' => OneLQ.no h' (by unfold resFQ; rw [if_neg h]) (by unfold errF; rw [if_neg h])
theorem refbackq_one (a : Option Addr) (len cap : Nat) (zs : List (Int × Int)) (zi : Int) (hz : U zi) (s : F) (hs : toF zi = s) (w : World) (hr : QRow w (.slice a len cap) zs) (hu : ∀ n ∈ zs, U n.1 ∧ U n.2) (hlen : len ≤ 4294967296) :
    Calls Tryd.prog 20 #[.slice a len cap, .int .u64 zi] w (OneLQ (errB zs.length s) (resBQ zs s) w) := by
  have hl := hr.at.1
  by_cases h : okB zs.length s
  · obtain ⟨k, hk, hk2, hk3⟩ := lg_cases zs.length (by omega) h.1 h.2.1
    exact (refbackq_yes a len cap zs zi hz s hs h.2.2 k hk w hr.at hu (by omega)).mono fun e w' h' => OneLQ.yes h' (by unfold resBQ; rw [if_pos h, hk3, Int.toNat_natCast]) (by unfold errB; rw [if_pos h])
  · exact (refbackq_no a len cap zs zi hz s hs w hr.at hlen (by rw [← hl]; exact h)).mono fun e w' h' => OneLQ.no h' (by unfold resBQ; rw [if_neg h]) (by unfold errB; rw [if_neg h])

/-! What is asked of the program's calls. -/
def AskForth : Prop := ∀ (a : Option Addr) (len cap : Nat) (zs : List Int) (zi : Int) (s : F) (k : Int) (w : World), U zi → toF zi = s → I64 k → Row w (.slice a len cap) zs → (∀ n ∈ zs, U n) → len ≤ 4294967296 → Tab w →
    Calls Tryd.prog 10 #[.slice a len cap, .int .u64 zi, .int .i64 k] w (OneL (errF zs.length k) (resF zs s k) w)
def AskBack : Prop := ∀ (a : Option Addr) (len cap : Nat) (zs : List Int) (zi : Int) (s : F) (w : World), U zi → toF zi = s → Row w (.slice a len cap) zs → (∀ n ∈ zs, U n) → len ≤ 4294967296 → Tab w →
    Calls Tryd.prog 12 #[.slice a len cap, .int .u64 zi] w (OneL (errB zs.length s) (resB zs s) w)
def AskPoints : Prop := ∀ (zi : Int) (s : F) (k : Nat) (w : World), U zi → toF zi = s → k ≤ 20 → Tab w → Calls Tryd.prog 15 #[.int .u64 zi, .int .i64 k] w (NewRow w (2 ^ k) (pts s k))
def AskForthQ : Prop := ∀ (a : Option Addr) (len cap : Nat) (zs : List (Int × Int)) (zi : Int) (s : F) (k : Int) (w : World), U zi → toF zi = s → I64 k → QRow w (.slice a len cap) zs → (∀ n ∈ zs, U n.1 ∧ U n.2) → len ≤ 4294967296 → Tab w →
    Calls Tryd.prog 17 #[.slice a len cap, .int .u64 zi, .int .i64 k] w (OneLQ (errF zs.length k) (resFQ zs s k) w)
def AskBackQ : Prop := ∀ (a : Option Addr) (len cap : Nat) (zs : List (Int × Int)) (zi : Int) (s : F) (w : World), U zi → toF zi = s → QRow w (.slice a len cap) zs → (∀ n ∈ zs, U n.1 ∧ U n.2) → len ≤ 4294967296 → Tab w →
    Calls Tryd.prog 19 #[.slice a len cap, .int .u64 zi] w (OneLQ (errB zs.length s) (resBQ zs s) w)

/-! What follows of them at one world. -/
theorem resF_U (zs : List Int) (s : F) (k : Int) : ∀ n ∈ resF zs s k, U n := by
  unfold resF
  split
  · exact forthL_U _ _ _
  · simp
theorem resB_U (zs : List Int) (s : F) : ∀ n ∈ resB zs s, U n := by
  unfold resB
  split
  · exact backL_U _ _ _
  · simp
end Go.Proofs.YtflabonifbhmnaaDoor
