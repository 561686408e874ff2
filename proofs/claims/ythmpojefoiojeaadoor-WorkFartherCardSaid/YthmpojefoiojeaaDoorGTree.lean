/-
  LeafBeq: Texts: alike or not. No function of the program is named.
  TreeRef: What the document's Root, Path and the law's 'same' come to.
  TreeRefP: What the document's Path comes to.
  TreeRefC: What the document's Climb comes to.
  TreeRefL: What the document's Leads comes to.
  TreeRefB: What the document's Build comes to. (Written by gen_rbuild.py.)
  BEval2: Sums reckoned by lists, of texts that are known. No function of the program is named.
  TLits: The sums of the chapter's examples, reckoned. (The literals: python's hashlib.)
-/
import Derived.Test.YthmpojefoiojeaaDoorGBlk
import Derived.Test.YthmpojefoiojeaaDoorTreeM
import Derived.Test.YthmpojefoiojeaaDoorGRow
import Derived.Test.YthmpojefoiojeaaDoorLeafRef
import Derived.Test.YthmpojefoiojeaaDoorGRoot
import Derived.Test.YthmpojefoiojeaaDoorLeafAw
import Derived.Lib.QuietBelow
import Derived.BigQuiet
import Derived.Test.YthmpojefoiojeaaDoorGNum
import Derived.Deep.Onto
namespace Go.Proofs.YthmpojefoiojeaaDoor
open Go Go.RowKit
set_option linter.unusedVariables false

theorem beq_bytes (a b : ByteArray) : (a.toList == b.toList) = decide (a = b) := by
  rw [ByteArray.toList_eq, ByteArray.toList_eq]
  by_cases h : a = b
  · subst h; simp
  · rw [decide_eq_false h]
    refine Bool.eq_false_iff.2 fun hh => h ?_
    have := beq_iff_eq.1 hh
    exact ByteArray.ext (Array.toList_inj.1 this)
theorem beq_of {a b : ByteArray} {v : Bool} (h : decide (a = b) = v) : (a.toList == b.toList) = v := (beq_bytes a b).trans h
end Go.Proofs.YthmpojefoiojeaaDoor
namespace Go.Proofs.YthmpojefoiojeaaDoor
open Go Go.RowKit
set_option linter.unusedVariables false

/-- 'The same texts?' -/
def sameB (f g : Nat → ByteArray) (n m : Nat) : Bool := decide (n = m ∧ ∀ j, j < n → f j = g j)
end Go.Proofs.YthmpojefoiojeaaDoor
namespace Go.Proofs.YthmpojefoiojeaaDoor
open Go Go.RowKit
set_option linter.unusedVariables false

theorem infoS : (Tryd.prog.info? 9).map (fun i => (i.zero, i.size, i.bytes)) = some (some (.string ⟨#[]⟩), 1, 16) := by kernel_rfl
theorem strV_snoc (f : Nat → ByteArray) (n : Nat) : strV f n ++ [.string (f n)] = strV f (n + 1) := by simp [strV, List.range_succ]
/-- What a row of texts that the call made reads as. -/
theorem MadeG.fresh {e : TypeId} {W w : World} {a : Option Addr} {n c : Nat} {xs : List Value} (h : MadeG e W w (.slice a n c) xs) : ∀ x, a = some x → W.heap.size ≤ x.block := fun x hx => own_ge h.1 x.block (by subst hx; rfl)
theorem MadeG.strs {e : TypeId} {W w : World} {v : Value} {f : Nat → ByteArray} {n : Nat} (h : MadeG e W w v (strV f n)) : ∃ a c, v = .slice a n c ∧ StrS w a n c f := by
  obtain ⟨a, c, e1, h1, h2, h3, h4⟩ := h.row
  rw [strV_len] at e1 h1 h3 h4
  refine ⟨a, c, e1, ⟨by omega, fun k hk => ?_⟩, h1, h2, h3⟩
  obtain ⟨b, off, e2, hc⟩ := h4 k hk
  refine ⟨b, off, e2, ?_⟩
  rw [hc]
  simp [strV, List.getD, hk]
theorem xor_one (j : Nat) (hj : j < 9223372036854775808) : bits .xor .i64 (j : Int) 1 = ((nb j : Nat) : Int) := by
  have e : j ^^^ 1 = nb j := by
    have h1 := Nat.xor_div_two (a := j) (b := 1)
    have h2 := Nat.xor_mod_two_pow (a := j) (b := 1) (n := 1)
    rw [show 1 / 2 = 0 from rfl, Nat.xor_zero] at h1
    rw [show 2 ^ 1 = 2 from rfl, show 1 % 2 = 1 from rfl] at h2
    unfold nb
    rcases Nat.mod_two_eq_zero_or_one j with h | h
    · rw [h, show 0 ^^^ 1 = 1 from rfl] at h2
      rw [if_pos h]; omega
    · rw [h, show 1 ^^^ 1 = 0 from rfl] at h2
      rw [if_neg (by omega)]; omega
  have h1 : (BitVec.ofInt 64 (j : Int) ^^^ BitVec.ofInt 64 1).toNat = nb j := by
    rw [BitVec.toNat_xor, BitVec.ofInt_natCast, BitVec.toNat_ofNat, Nat.mod_eq_of_lt (by omega)]
    exact e
  have hn : nb j ≤ j + 1 := by unfold nb; split <;> omega
  have hev : nb j < 9223372036854775808 := by unfold nb; split <;> omega
  unfold bits
  show IntKind.i64.wrap (((BitVec.ofInt 64 (j : Int) ^^^ BitVec.ofInt 64 1).toNat : Nat) : Int) = _
  rw [h1]
  exact IntWalk.i64_in _ (by omega)
def PathRel (w : World) (f : Nat → ByteArray) (i0 K : Nat) (i o k : Value) (W : World) : Prop :=
  ∃ j : Nat, j ≤ K ∧ k = .int .i64 j ∧ i = .int .i64 ((i0 / 2 ^ j : Nat) : Int) ∧ MadeG 9 w W o (strV (pathB f i0) j)
end Go.Proofs.YthmpojefoiojeaaDoor
namespace Go.Proofs.YthmpojefoiojeaaDoor
open Go Go.RowKit
set_option linter.unusedVariables false

def ClimbRel (w : World) (s0 : ByteArray) (i0 : Nat) (g : Nat → ByteArray) (n : Nat) (i s k : Value) (W : World) : Prop :=
  ∃ j : Nat, j ≤ n ∧ k = .int .i64 j ∧ i = .int .i64 ((i0 / 2 ^ j : Nat) : Int) ∧ s = .string (climbB s0 i0 g j) ∧ Below w.heap.size w W
end Go.Proofs.YthmpojefoiojeaaDoor
namespace Go.Proofs.YthmpojefoiojeaaDoor
open Go Go.RowKit Go.Sort Go.BigFrame
set_option linter.unusedVariables false

theorem Open_alloc (W : World) (v0 v1 v2 : Value) (t : TypeId) : OpenV (W.alloc (.cells #[v0, v1, v2] t)) W.heap.size v0 v1 v2 := ⟨by simp [go_sem], by simp [go_sem], by simp [go_sem]⟩
theorem OpenV.lt {W : World} {g : Nat} {v0 v1 v2 : Value} (h : OpenV W g v0 v1 v2) : g < W.heap.size := World.block_lt_of_cell? W _ h.1
def LeadRel (w : World) (g0 : Nat) (v0 v1 v2 : Value) (g : Nat → ByteArray) (n : Nat) (i : Value) (W : World) : Prop :=
  ∃ k : Nat, k ≤ n ∧ i = .int .i64 k ∧ (∀ j, j < k → (g j).size = 32) ∧ OpenV W g0 v0 v1 v2 ∧ Below w.heap.size w W
theorem leadsB_no {root : ByteArray} {depth i : Int} {s : ByteArray} {g : Nat → ByteArray} {n : Nat} (h : ¬ (0 ≤ depth ∧ depth ≤ 40 ∧ 0 ≤ i ∧ i < 2 ^ depth.toNat ∧ (n : Int) = depth)) : leadsB root depth i s g n = false := by
  unfold leadsB
  exact decide_eq_false fun x => h ⟨x.1, x.2.1, x.2.2.1, x.2.2.2.1, x.2.2.2.2.1⟩
end Go.Proofs.YthmpojefoiojeaaDoor
namespace Go.Proofs.YthmpojefoiojeaaDoor
open Go Go.RowKit
set_option linter.unusedVariables false

theorem infoSS : (Tryd.prog.info? 40).map (fun i => (i.zero, i.size, i.bytes)) = some (some (.slice none 0 0), 1, 24) := by kernel_rfl
theorem MadeG.base {e : TypeId} {w W1 W : World} {v : Value} {xs : List Value} (h : MadeG e W1 W v xs) (hb : Below w.heap.size w W1) : MadeG e w W v xs := ⟨h.1.mono hb.size, bthen hb h.2⟩
def rowsV (rs : Nat → Value) (k : Nat) : List Value := (List.range k).map rs
theorem rowsV_len (rs : Nat → Value) (k : Nat) : (rowsV rs k).length = k := by simp [rowsV]
theorem rowsV_snoc (rs : Nat → Value) (v : Value) (k : Nat) : rowsV rs k ++ [v] = rowsV (fun j => if j = k then v else rs j) (k + 1) := by
  simp only [rowsV, List.range_succ, List.map_append, List.map_cons, List.map_nil, if_true]
  congr 1
  refine List.map_congr_left fun j hj => ?_
  rw [if_neg (by have := List.mem_range.1 hj; omega)]
theorem rowsV_at (rs : Nat → Value) {k j : Nat} (h : j < k) : (rowsV rs k).getD j undef = rs j := by simp [rowsV, List.getD, h]
/-- Rows of a tree under way: the first k + 1 are there. -/
def TreeUp (w W : World) (v : Value) (K k : Nat) (f : Nat → ByteArray) : Prop := ∃ rs : Nat → Value, MadeG 40 w W v (rowsV rs (k + 1)) ∧ ∀ j, j ≤ k → MadeG 9 w W (rs j) (strV (lev f j) (2 ^ (K - j)))
theorem TreeUp.keep {w W W' : World} {v : Value} {K k : Nat} {f : Nat → ByteArray} (h : TreeUp w W v K k f) (hb : Below W.heap.size W W') : TreeUp w W' v K k f := by
  obtain ⟨rs, h1, h2⟩ := h
  exact ⟨rs, h1.keep hb, fun j hj => (h2 j hj).keep hb⟩
theorem TreeUp.below {w W : World} {v : Value} {K k : Nat} {f : Nat → ByteArray} (h : TreeUp w W v K k f) : Below w.heap.size w W := by
  obtain ⟨rs, h1, h2⟩ := h
  exact h1.2
theorem TreeUp.first {w W W' : World} {v v' : Value} {K : Nat} {f : Nat → ByteArray} (h : MadeG 9 w W v (strV f (2 ^ K))) (h' : MadeG 40 w W' v' [v]) (hb : Below W.heap.size W W') : TreeUp w W' v' K 0 f :=
  ⟨fun _ => v, h', fun j hj => by
    have e : j = 0 := by omega
    subst e
    exact h.keep hb⟩
/-- One row more. -/
theorem TreeUp.more {w W W' : World} {v v' u : Value} {K k : Nat} {f : Nat → ByteArray} {rs : Nat → Value} (h1 : MadeG 40 w W v (rowsV rs (k + 1))) (h2 : ∀ j, j ≤ k → MadeG 9 w W (rs j) (strV (lev f j) (2 ^ (K - j))))
    (hu : MadeG 9 w W u (strV (lev f (k + 1)) (2 ^ (K - (k + 1))))) (hg : W.grownBy W' v.ownBlock) (h1' : MadeG 40 w W' v' (rowsV rs (k + 1) ++ [u])) : TreeUp w W' v' K (k + 1) f := by
  refine ⟨fun j => if j = k + 1 then u else rs j, by rw [← rowsV_snoc]; exact h1', fun j hj => ?_⟩
  have hge := own_ge h1.1
  by_cases e : j = k + 1
  · subst e
    simp only [if_true]
    exact hu.kept hg (own_unlike hu.1 h1.1 (by decide)) hge
  · simp only [if_neg e]
    exact (h2 j (by omega)).kept hg (own_unlike (h2 j (by omega)).1 h1.1 (by decide)) hge
def lenS : Value → Nat
  | .slice _ n _ => n
  | _ => 0
/-- What such rows read as. -/
theorem TreeUp.tree {w W : World} {v : Value} {K : Nat} {f : Nat → ByteArray} (h : TreeUp w W v K K f) : ∃ a c, v = .slice a (K + 1) c ∧ TreeA w.heap.size W a (K + 1) c f := by
  obtain ⟨rs, h1, h2⟩ := h
  obtain ⟨a, c, e1, e2, e3, e4, e5⟩ := h1.row
  rw [rowsV_len] at e1 e2 e4 e5
  subst e1
  refine ⟨a, c, rfl, e2, e3, e4, fun k hk => ?_⟩
  obtain ⟨b, off, rfl, hc⟩ := e5 k hk
  have hfr := h1.fresh _ rfl
  rw [rowsV_at rs hk] at hc
  have h2k := h2 k (by omega)
  obtain ⟨ak, ck, hv, hs⟩ := h2k.strs
  rw [hv] at hc h2k
  exact ⟨b, off, rfl, hfr, ak, ck, by rw [show K + 1 - 1 - k = K - k by omega]; exact hc, by rw [show K + 1 - 1 - k = K - k by omega]; exact hs.2.1, hs.2.2.1, h2k.fresh, by rw [show K + 1 - 1 - k = K - k by omega]; exact hs.1⟩
/-- The row that was laid last. -/
theorem TreeUp.last {w W : World} {v : Value} {K k : Nat} {f : Nat → ByteArray} (h : TreeUp w W v K k f) : ∃ b off c ak ck, v = .slice (some ⟨b, off, none⟩) (k + 1) c ∧ W.cell? ⟨b, off + k, none⟩ = some (.slice ak (2 ^ (K - k)) ck) ∧ StrS W ak (2 ^ (K - k)) ck (lev f k) := by
  obtain ⟨rs, h1, h2⟩ := h
  obtain ⟨a, c, e1, e2, e3, e4, e5⟩ := h1.row
  rw [rowsV_len] at e1 e5
  obtain ⟨b, off, rfl, hc⟩ := e5 k (by omega)
  rw [rowsV_at rs (by omega)] at hc
  obtain ⟨ak, ck, hv, hs⟩ := (h2 k (by omega)).strs
  rw [hv] at hc
  exact ⟨b, off, c, ak, ck, e1, hc, hs⟩
theorem lg_rows : ∀ n : Nat, n ≤ 70 → lg (n : Int) = (rowsN n : Int) - 1 := by decide +kernel
def RBuildR (v5 last i i1 p0 p1 : Value) (x y z : ByteArray) (sl : Nat) (v : Value) (W : World) : Prop :=
  match sl with
  | 36 => v = v5
  | 37 => v = last
  | 38 => v = i
  | 39 => v = p0
  | 40 => v = .string x
  | 41 => v = last
  | 42 => v = i
  | 43 => v = i1
  | 44 => v = p1
  | 45 => v = .string y
  | 46 => v = .string z
  | _ => ∃ g : Nat, v = .slice (some ⟨g, 0, none⟩) 1 1 ∧ W.cell? ⟨g, 0, none⟩ = some (.string z)
theorem RBuildR.keep {v5 last i i1 p0 p1 : Value} {x y z : ByteArray} {sl : Nat} {v : Value} {W W' : World} (h : RBuildR v5 last i i1 p0 p1 x y z sl v W) (hb : Below W.heap.size W W') : RBuildR v5 last i i1 p0 p1 x y z sl v W' := by
  unfold RBuildR at h ⊢
  split at h <;> first | exact h | (obtain ⟨g, h1, h2⟩ := h; exact ⟨g, h1, bkeep hb h2⟩)
def BuildRel (w : World) (K : Nat) (f : Nat → ByteArray) (o : Value) (W : World) : Prop := ∃ k, k ≤ K ∧ TreeUp w W o K k f
def BuildRow (w W1 : World) (o : Value) (K k M : Nat) (f : Nat → ByteArray) (r i : Value) (W : World) : Prop := ∃ j : Nat, j ≤ M ∧ i = .int .i64 (2 * j : Nat) ∧ MadeG 9 W1 W r (strV (lev f (k + 1)) j)
end Go.Proofs.YthmpojefoiojeaaDoor
namespace Go.Proofs.YthmpojefoiojeaaDoor
open Go Go.RowKit
set_option linter.unusedVariables false

theorem vbase_low {h g : Nat → Int} (e : ∀ j, j < 8 → h j = g j) (j : Nat) : vbase h j = vbase g j := by
  unfold vbase
  split
  · next c => exact e j c
  · rfl
theorem vfirst_low {h g : Nat → Int} (e : ∀ j, j < 8 → h j = g j) (n : Int) (last : Bool) (j : Nat) : vfirst h n last j = vfirst g n last j := by
  have : vbase h = vbase g := funext (vbase_low e)
  unfold vfirst
  rw [this]
theorem press_low {h g : Nat → Int} (e : ∀ j, j < 8 → h j = g j) (b : Nat → Int) (n : Int) (last : Bool) (j : Nat) (hj : j < 8) : press h b n last j = press g b n last j := by
  have : vfirst h n last = vfirst g n last := funext (vfirst_low e n last)
  unfold press
  rw [this, e j hj]
def hseqL (s : ByteArray) : Nat → List Int
  | 0 => (List.range 8).map h0
  | k + 1 => pressL (fl (hseqL s k)) (blkOf s (64 * k)) (64 * ((k : Int) + 1)) false
theorem hseqL_is (s : ByteArray) : ∀ k j, j < 8 → hseq s k j = fl (hseqL s k) j
  | 0, j, hj => by
    show h0 j = _
    unfold fl hseqL
    simp [List.getD, hj]
  | k + 1, j, hj => by
    show press (hseq s k) _ _ false j = _
    rw [press_low (hseqL_is s k) _ _ _ j hj, pressL_is _ _ _ _ j hj]
    rfl
def hendL (s : ByteArray) : List Int := pressL (fl (hseqL s (nbl s))) (blkOf s (64 * nbl s)) s.size true
theorem hendL_is (s : ByteArray) (j : Nat) (hj : j < 8) : hend s j = fl (hendL s) j := by
  show press (hseq s (nbl s)) _ _ true j = _
  rw [press_low (hseqL_is s (nbl s)) _ _ _ j hj, pressL_is _ _ _ _ j hj]
  rfl
/-- A sum, reckoned. -/
theorem sumB_eval (s z : ByteArray) (L : List Int) (hL : hendL s = L) (hz : outS (fl L) 32 = z) : sumB s = z := by
  unfold sumB
  rw [out_congr (hendL_is s), hL, hz]
end Go.Proofs.YthmpojefoiojeaaDoor
namespace Go.Proofs.YthmpojefoiojeaaDoor
open Go Go.RowKit
set_option linter.unusedVariables false
set_option maxRecDepth 100000

abbrev vA : ByteArray := ⟨#[26, 54, 50, 30, 139, 39, 252, 142, 143, 84, 114, 120, 1, 213, 59, 6, 200, 126, 203, 170, 9, 138, 211, 111, 158, 240, 80, 140, 146, 16, 40, 53]⟩
abbrev vB : ByteArray := ⟨#[91, 97, 215, 195, 169, 160, 234, 167, 97, 223, 228, 77, 75, 254, 60, 32, 141, 150, 92, 119, 215, 124, 10, 157, 83, 169, 66, 107, 133, 16, 43, 13]⟩
theorem sum_1 : sumB ⟨#[0, 1, 0, 0, 0, 0, 0, 0, 0]⟩ = ⟨#[26, 54, 50, 30, 139, 39, 252, 142, 143, 84, 114, 120, 1, 213, 59, 6, 200, 126, 203, 170, 9, 138, 211, 111, 158, 240, 80, 140, 146, 16, 40, 53]⟩ :=
  sumB_eval _ _ [506607130, 2398889867, 2020758671, 104584449, 2865462984, 1876134409, 2354114718, 891818130] (by decide +kernel) (by decide +kernel)
theorem sum_2 : sumB ⟨#[0, 2, 0, 0, 0, 0, 0, 0, 0]⟩ = ⟨#[91, 97, 215, 195, 169, 160, 234, 167, 97, 223, 228, 77, 75, 254, 60, 32, 141, 150, 92, 119, 215, 124, 10, 157, 83, 169, 66, 107, 133, 16, 43, 13]⟩ :=
  sumB_eval _ _ [3285672283, 2817171625, 1306845025, 540868171, 2002556557, 2634710231, 1799530835, 220926085] (by decide +kernel) (by decide +kernel)
theorem sum_12 : sumB ⟨#[1, 26, 54, 50, 30, 139, 39, 252, 142, 143, 84, 114, 120, 1, 213, 59, 6, 200, 126, 203, 170, 9, 138, 211, 111, 158, 240, 80, 140, 146, 16, 40, 53, 91, 97, 215, 195, 169, 160, 234, 167, 97, 223, 228, 77, 75, 254, 60, 32, 141, 150, 92, 119, 215, 124, 10, 157, 83, 169, 66, 107, 133, 16, 43, 13]⟩ = ⟨#[192, 46, 184, 111, 21, 22, 197, 106, 60, 164, 233, 80, 110, 226, 206, 175, 202, 59, 255, 88, 225, 97, 37, 91, 136, 133, 117, 112, 49, 65, 89, 149]⟩ :=
  sumB_eval _ _ [1874341568, 1791301141, 1357489212, 2949571182, 1493121994, 1529176545, 1886750088, 2505654577] (by decide +kernel) (by decide +kernel)
theorem sum_21 : sumB ⟨#[1, 91, 97, 215, 195, 169, 160, 234, 167, 97, 223, 228, 77, 75, 254, 60, 32, 141, 150, 92, 119, 215, 124, 10, 157, 83, 169, 66, 107, 133, 16, 43, 13, 26, 54, 50, 30, 139, 39, 252, 142, 143, 84, 114, 120, 1, 213, 59, 6, 200, 126, 203, 170, 9, 138, 211, 111, 158, 240, 80, 140, 146, 16, 40, 53]⟩ = ⟨#[226, 142, 4, 60, 48, 206, 180, 13, 16, 117, 154, 250, 4, 172, 78, 135, 75, 118, 128, 71, 145, 61, 16, 212, 240, 55, 99, 47, 18, 214, 3, 233]⟩ :=
  sumB_eval _ _ [1006931682, 229953072, 4204426512, 2270080004, 1199601227, 3557834129, 795031536, 3909342738] (by decide +kernel) (by decide +kernel)
theorem leaf_1 : leafB (rowB [1]) = vA := by
  unfold leafB
  rw [show byte0 ++ rowB [1] = ⟨#[0, 1, 0, 0, 0, 0, 0, 0, 0]⟩ by decide +kernel]
  exact sum_1
theorem leaf_2 : leafB (rowB [2]) = vB := by
  unfold leafB
  rw [show byte0 ++ rowB [2] = ⟨#[0, 2, 0, 0, 0, 0, 0, 0, 0]⟩ by decide +kernel]
  exact sum_2
theorem node_12 : nodeB vA vB = ⟨#[192, 46, 184, 111, 21, 22, 197, 106, 60, 164, 233, 80, 110, 226, 206, 175, 202, 59, 255, 88, 225, 97, 37, 91, 136, 133, 117, 112, 49, 65, 89, 149]⟩ := by
  unfold nodeB
  rw [show byte1 ++ vA ++ vB = ⟨#[1, 26, 54, 50, 30, 139, 39, 252, 142, 143, 84, 114, 120, 1, 213, 59, 6, 200, 126, 203, 170, 9, 138, 211, 111, 158, 240, 80, 140, 146, 16, 40, 53, 91, 97, 215, 195, 169, 160, 234, 167, 97, 223, 228, 77, 75, 254, 60, 32, 141, 150, 92, 119, 215, 124, 10, 157, 83, 169, 66, 107, 133, 16, 43, 13]⟩ by decide +kernel]
  exact sum_12
theorem node_21 : nodeB vB vA = ⟨#[226, 142, 4, 60, 48, 206, 180, 13, 16, 117, 154, 250, 4, 172, 78, 135, 75, 118, 128, 71, 145, 61, 16, 212, 240, 55, 99, 47, 18, 214, 3, 233]⟩ := by
  unfold nodeB
  rw [show byte1 ++ vB ++ vA = ⟨#[1, 91, 97, 215, 195, 169, 160, 234, 167, 97, 223, 228, 77, 75, 254, 60, 32, 141, 150, 92, 119, 215, 124, 10, 157, 83, 169, 66, 107, 133, 16, 43, 13, 26, 54, 50, 30, 139, 39, 252, 142, 143, 84, 114, 120, 1, 213, 59, 6, 200, 126, 203, 170, 9, 138, 211, 111, 158, 240, 80, 140, 146, 16, 40, 53]⟩ by decide +kernel]
  exact sum_21
theorem node_ne : nodeB vB vA ≠ nodeB vA vB := by
  rw [node_12, node_21]
  decide +kernel
end Go.Proofs.YthmpojefoiojeaaDoor
