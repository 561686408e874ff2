/-
  TwoRows: Two rows of like elements that a call puts together itself, both appended to in one region that draws its order ('xs, ys = append(xs, a), append(ys, b)'), whatever the elements are. No function of the program is named.
  TwoRel: Two rows put together element by element: what is known between two rounds; as slices of numbers, of pairs. No function of the program is named.
  VAw: What is asked of the program's calls of layer 17; the awake of its law; right; the walk of EvalConst.
  Went: What a call leaves that writes into a variable and into a row of its own; a row in a variable of one cell. No function of the program is named.
  VPro: The program's At of layer 17. (Written by gen_vprog.py.)
  VProQ: The program's Pairs of layer 17. (Written by gen_vprog.py.)
  VProg: The program's two calls of layer 17. (Written by gen_vprog.py.)
-/
import Derived.Test.YtjcgakmhpblanaaGShape
import Derived.Test.YtjcgakmhpblanaaGRow
import Derived.Test.YtjcgakmhpblanaaEvalRefQ
import Derived.Test.YtjcgakmhpblanaaGArgs
import Derived.Test.YtjcgakmhpblanaaEvalRef
import Derived.BigRegion
import Derived.Deep.RegionLaw
namespace Go.Proofs.Ytjcgakmhpblanaa
open Go Go.RowKit
set_option linter.unusedVariables false

structure TwoRows (w : World) (e : TypeId) (s s1 a1 s2 a2 : Nat) (v8 v9 : Value) (n : Nat) (xs ys z1 z2 : List Value) (simple : List Nat) (val : Nat → Value) (D : Nat → Bool) (σ : Nat → Value) (W : World) : Prop where
  below : Below w.heap.size w W
  rx : W.ownsRow w.heap.size e s (curV D σ a1 v8) (if D a1 = true then n + 1 else n) (if D a1 = true then xs ++ z1 else xs)
  ry : W.ownsRow w.heap.size e s (curV D σ a2 v9) (if D a2 = true then n + 1 else n) (if D a2 = true then ys ++ z2 else ys)
  ap : ∀ k, (curV D σ a1 v8).ownBlock = some k → (curV D σ a2 v9).ownBlock ≠ some k
  n1 : D s1 = true → D a1 = false → ∃ g, σ s1 = .slice (some ⟨g, 0, none⟩) 1 1 ∧ g < W.heap.size ∧ (∀ j u, z1[j]? = some u → W.cell? ((⟨g, 0, none⟩ : Addr).add j) = some u) ∧ (curV D σ a1 v8).ownBlock ≠ some g ∧ (curV D σ a2 v9).ownBlock ≠ some g
  n2 : D s2 = true → D a2 = false → ∃ g, σ s2 = .slice (some ⟨g, 0, none⟩) 1 1 ∧ g < W.heap.size ∧ (∀ j u, z2[j]? = some u → W.cell? ((⟨g, 0, none⟩ : Addr).add j) = some u) ∧ (curV D σ a1 v8).ownBlock ≠ some g ∧ (curV D σ a2 v9).ownBlock ≠ some g
  sv : ∀ d, d ∈ simple → D d = true → σ d = val d
section
variable {w : World} {e : TypeId} {s s1 a1 s2 a2 : Nat} {v8 v9 : Value} {n : Nat} {xs ys z1 z2 : List Value} {simple : List Nat} {val : Nat → Value} {D : Nat → Bool} {σ : Nat → Value} {W : World}
theorem TwoRows.swap (h : TwoRows w e s s1 a1 s2 a2 v8 v9 n xs ys z1 z2 simple val D σ W) : TwoRows w e s s2 a2 s1 a1 v9 v8 n ys xs z2 z1 simple val D σ W :=
  ⟨h.below, h.ry, h.rx, fun k hk hc => h.ap k hc hk, fun c c' => by obtain ⟨g, q1, q2, q3, q4, q5⟩ := h.n2 c c'; exact ⟨g, q1, q2, q3, q5, q4⟩, fun c c' => by obtain ⟨g, q1, q2, q3, q4, q5⟩ := h.n1 c c'; exact ⟨g, q1, q2, q3, q5, q4⟩, h.sv⟩
theorem TwoRows.start (hb : Below w.heap.size w W) (h8 : W.ownsRow w.heap.size e s v8 n xs) (h9 : W.ownsRow w.heap.size e s v9 n ys) (ap : ∀ k, v8.ownBlock = some k → v9.ownBlock ≠ some k) (σ : Nat → Value) : TwoRows w e s s1 a1 s2 a2 v8 v9 n xs ys z1 z2 simple val (fun _ => false) σ W :=
  ⟨hb, h8, h9, ap, fun h => absurd h Bool.false_ne_true, fun h => absurd h Bool.false_ne_true, fun d _ h => absurd h Bool.false_ne_true⟩
theorem addr_kept {W W' : World} {g : Nat} {z : List Value} (hb : W'.heap[g]? = W.heap[g]?) (h : ∀ j u, z[j]? = some u → W.cell? ((⟨g, 0, none⟩ : Addr).add j) = some u) : ∀ j u, z[j]? = some u → W'.cell? ((⟨g, 0, none⟩ : Addr).add j) = some u := fun j u hu => by
  have := h j u hu
  rw [Addr.add_lit] at this ⊢
  exact (World.cell?_of_block (a := ⟨g, 0 + j, none⟩) hb).trans this
theorem block_kept {W W' : World} {g : Nat} (hb : Below W.heap.size W W') (h : g < W.heap.size) : W'.heap[g]? = W.heap[g]? := hb.block g h
/-- An operation by new memory alone. -/
theorem TwoRows.next (h : TwoRows w e s s1 a1 s2 a2 v8 v9 n xs ys z1 z2 simple val D σ W) {d : Nat} {v : Value} {W' : World} (hb : Below W.heap.size W W') (h0 : d ≠ s1 ∧ d ≠ a1 ∧ d ≠ s2 ∧ d ≠ a2) (hv : v = val d) :
    TwoRows w e s s1 a1 s2 a2 v8 v9 n xs ys z1 z2 simple val (fun k => if k = d then true else D k) (fun k => if k = d then v else σ k) W' := by
  obtain ⟨h1, h2, h4, h5⟩ := h0
  refine ⟨bthen h.below hb, ?_, ?_, ?_, ?_, ?_, ?_⟩
  · rw [curV_other (Ne.symm h2)]
    simp only [if_neg (Ne.symm h2)]
    exact own_keep h.rx hb
  · rw [curV_other (Ne.symm h5)]
    simp only [if_neg (Ne.symm h5)]
    exact own_keep h.ry hb
  · rw [curV_other (Ne.symm h2), curV_other (Ne.symm h5)]; exact h.ap
  · rw [curV_other (Ne.symm h2), curV_other (Ne.symm h5)]
    simp only [if_neg (Ne.symm h1), if_neg (Ne.symm h2)]
    intro c1 c2
    obtain ⟨g, k1, k2, k3, k4⟩ := h.n1 c1 c2
    exact ⟨g, k1, Nat.lt_of_lt_of_le k2 hb.size, addr_kept (block_kept hb k2) k3, k4⟩
  · rw [curV_other (Ne.symm h2), curV_other (Ne.symm h5)]
    simp only [if_neg (Ne.symm h4), if_neg (Ne.symm h5)]
    intro c1 c2
    obtain ⟨g, k1, k2, k3, k4⟩ := h.n2 c1 c2
    exact ⟨g, k1, Nat.lt_of_lt_of_le k2 hb.size, addr_kept (block_kept hb k2) k3, k4⟩
  · intro d' hd
    by_cases c : d' = d
    · subst c; intro _; simp only [if_pos]; exact hv
    · simp only [if_neg c]; exact h.sv d' hd
/-- A new array of one element. -/
theorem TwoRows.lay1 (h : TwoRows w e s s1 a1 s2 a2 v8 v9 n xs ys z1 z2 simple val D σ W) {W' : World} (hb : Below W.heap.size W W') (hg : W.heap.size < W'.heap.size) (h0 : s1 ≠ a1 ∧ s1 ≠ s2 ∧ s1 ≠ a2) (hs : s1 ∉ simple)
    (hz : ∀ j u, z1[j]? = some u → W'.cell? ((⟨W.heap.size, 0, none⟩ : Addr).add j) = some u) :
    TwoRows w e s s1 a1 s2 a2 v8 v9 n xs ys z1 z2 simple val (fun k => if k = s1 then true else D k) (fun k => if k = s1 then .slice (some ⟨W.heap.size, 0, none⟩) 1 1 else σ k) W' := by
  obtain ⟨h2, h4, h5⟩ := h0
  refine ⟨bthen h.below hb, ?_, ?_, ?_, ?_, ?_, ?_⟩
  · rw [curV_other (Ne.symm h2)]
    simp only [if_neg (Ne.symm h2)]
    exact own_keep h.rx hb
  · rw [curV_other (Ne.symm h5)]
    simp only [if_neg (Ne.symm h5)]
    exact own_keep h.ry hb
  · rw [curV_other (Ne.symm h2), curV_other (Ne.symm h5)]; exact h.ap
  · rw [curV_other (Ne.symm h2), curV_other (Ne.symm h5)]
    intro _ _
    refine ⟨W.heap.size, by rw [if_pos rfl], hg, hz, fun hk => ?_, fun hk => ?_⟩
    · have := (h.rx.lt _ hk).2; omega
    · have := (h.ry.lt _ hk).2; omega
  · rw [curV_other (Ne.symm h2), curV_other (Ne.symm h5)]
    simp only [if_neg (Ne.symm h4), if_neg (Ne.symm h5)]
    intro c1 c2
    obtain ⟨g, k1, k2, k3, k4⟩ := h.n2 c1 c2
    exact ⟨g, k1, Nat.lt_of_lt_of_le k2 hb.size, addr_kept (block_kept hb k2) k3, k4⟩
  · intro d' hd
    have c : d' ≠ s1 := fun c => hs (c ▸ hd)
    simp only [if_neg c]; exact h.sv d' hd
/-- An append. -/
theorem TwoRows.app1 (h : TwoRows w e s s1 a1 s2 a2 v8 v9 n xs ys z1 z2 simple val D σ W) {v' : Value} {W' : World} (hd : D a1 = false) (h0 : a1 ≠ s1 ∧ a1 ≠ s2 ∧ a1 ≠ a2) (hs : a1 ∉ simple)
    (hown : W'.ownsRow w.heap.size e s v' (n + 1) (xs ++ z1)) (hg : W.grownBy W' v8.ownBlock) (hat : v'.ownBlock = v8.ownBlock ∨ v'.ownBlock = some W.heap.size) :
    TwoRows w e s s1 a1 s2 a2 v8 v9 n xs ys z1 z2 simple val (fun k => if k = a1 then true else D k) (fun k => if k = a1 then v' else σ k) W' := by
  obtain ⟨h2, h4, h5⟩ := h0
  have hrx : W.ownsRow w.heap.size e s v8 n xs := by have := h.rx; unfold curV at this; simpa [hd] using this
  have hap : ∀ k, v8.ownBlock = some k → (curV D σ a2 v9).ownBlock ≠ some k := by have := h.ap; unfold curV at this ⊢; simpa [hd] using this
  have hge : ∀ k, v8.ownBlock = some k → w.heap.size ≤ k := own_ge hrx
  have cv : curV (fun k => if k = a1 then true else D k) (fun k => if k = a1 then v' else σ k) a1 v8 = v' := by unfold curV; simp
  have c0 : curV D σ a1 v8 = v8 := by unfold curV; simp [hd]
  have hlt9 : ∀ k, (curV D σ a2 v9).ownBlock = some k → k < W.heap.size := fun k hk => (h.ry.lt k hk).2
  refine ⟨h.below.grown hg h.below.size hge, ?_, ?_, ?_, ?_, ?_, ?_⟩
  · rw [cv]; simp only [if_pos]; exact hown
  · rw [curV_other (Ne.symm h5)]
    simp only [if_neg (Ne.symm h5)]
    exact h.ry.kept hg (own_apart hap)
  · rw [cv, curV_other (Ne.symm h5)]
    intro k hk
    rcases hat with he | he
    · exact hap k (he ▸ hk)
    · intro h9
      have := hlt9 k h9
      rw [hk] at he
      cases he
      omega
  · intro _ c2; simp at c2
  · rw [cv, curV_other (Ne.symm h5)]
    simp only [if_neg (Ne.symm h4), if_neg (Ne.symm h5)]
    intro c1 c2
    obtain ⟨g, k1, k2, k3, k4, k5⟩ := h.n2 c1 c2
    rw [c0] at k4
    refine ⟨g, k1, Nat.lt_of_lt_of_le k2 hg.size, addr_kept (hg.block g k2 (fun c => k4 c.symm)) k3, fun hv => ?_, k5⟩
    rcases hat with he | he
    · exact k4 (he ▸ hv)
    · rw [hv] at he
      cases he
      omega
  · intro d' hd'
    have c : d' ≠ a1 := fun c => hs (c ▸ hd')
    simp only [if_neg c]; exact h.sv d' hd'
theorem TwoRows.row1 (h : TwoRows w e s s1 a1 s2 a2 v8 v9 n xs ys z1 z2 simple val D σ W) (hd : D a1 = false) : W.ownsRow w.heap.size e s v8 n xs := by have := h.rx; unfold curV at this; simpa [hd] using this
theorem TwoRows.done (h : TwoRows w e s s1 a1 s2 a2 v8 v9 n xs ys z1 z2 simple val D σ W) (h1 : D a1 = true) (h2 : D a2 = true) :
    W.ownsRow w.heap.size e s (σ a1) (n + 1) (xs ++ z1) ∧ W.ownsRow w.heap.size e s (σ a2) (n + 1) (ys ++ z2) ∧ ∀ k, (σ a1).ownBlock = some k → (σ a2).ownBlock ≠ some k := by
  refine ⟨?_, ?_, ?_⟩
  · have := h.rx; unfold curV at this; simpa [h1] using this
  · have := h.ry; unfold curV at this; simpa [h2] using this
  · have := h.ap; unfold curV at this; simpa [h1, h2] using this
end
end Go.Proofs.Ytjcgakmhpblanaa
namespace Go.Proofs.Ytjcgakmhpblanaa
open Go Go.RowKit
set_option linter.unusedVariables false

def cellsK (F : Nat → List Value) (k : Nat) : List Value := (List.range k).flatMap F
theorem cellsK_succ (F : Nat → List Value) (k : Nat) : cellsK F (k + 1) = cellsK F k ++ F k := by simp [cellsK, List.range_succ]
theorem cellsK_len {F : Nat → List Value} {s : Nat} (hF : ∀ j, (F j).length = s) : ∀ k, (cellsK F k).length = k * s
  | 0 => by simp [cellsK]
  | k + 1 => by rw [cellsK_succ, List.length_append, cellsK_len hF k, hF, Nat.succ_mul]
theorem cellsK_at {F : Nat → List Value} {s : Nat} (hF : ∀ j, (F j).length = s) : ∀ {k j i : Nat}, j < k → i < s → (cellsK F k)[j * s + i]? = (F j)[i]?
  | 0, j, i, h, _ => by omega
  | k + 1, j, i, h, hi => by
    rw [cellsK_succ]
    by_cases e : j = k
    · subst e
      rw [List.getElem?_append_right (by rw [cellsK_len hF]; omega), cellsK_len hF]
      congr 1
      omega
    · have hlt : j * s + i < k * s := by
        have : (j + 1) * s ≤ k * s := Nat.mul_le_mul_right s (by omega)
        rw [Nat.succ_mul] at this
        omega
      rw [List.getElem?_append_left (by rw [cellsK_len hF]; exact hlt)]
      exact cellsK_at hF (by omega) hi
def TwoRel (w0 : World) (e : TypeId) (s m : Nat) (F1 F2 : Nat → List Value) (v8 v9 i : Value) (W : World) : Prop :=
  ∃ k : Nat, k ≤ m ∧ i = .int .i64 k ∧ Below w0.heap.size w0 W ∧ W.ownsRow w0.heap.size e s v8 k (cellsK F1 k) ∧ W.ownsRow w0.heap.size e s v9 k (cellsK F2 k) ∧ ∀ q, v8.ownBlock = some q → v9.ownBlock ≠ some q
theorem own_rowK {W : World} {B m : Nat} {e : TypeId} {v : Value} {f : Nat → Int} (h : W.ownsRow B e 1 v m (cellsK (fun j => [.int .u64 (f j)]) m)) : ∃ a c, v = .slice a m c ∧ RowA W a m ((List.range m).map f) ∧ m ≤ c := by
  rcases id h.2 with ⟨hv, h0⟩ | ⟨g, cap, cur, hv, hb, hg, hn, hcap, hsz, ht⟩
  · subst h0
    exact ⟨none, 0, hv, ⟨by simp, by unfold maxLen; omega, fun k hk => by omega⟩, Nat.le_refl _⟩
  · refine ⟨some ⟨g, 0, none⟩, cap, hv, ⟨by simp, by omega, fun k hk => ⟨g, 0, rfl, ?_⟩⟩, hn⟩
    subst hv
    have h0 := h.cellAt k (by omega)
    have h1 := cellsK_at (F := fun j => [.int .u64 (f j)]) (s := 1) (fun _ => rfl) (k := m) (j := k) (i := 0) hk (by decide)
    rw [Nat.mul_one, Nat.add_zero] at h1
    rw [Nat.zero_add, h0, h1]
    simp [List.getD, hk]
theorem own_qrowK {W : World} {B m : Nat} {e : TypeId} {v : Value} {f : Nat → Int × Int} (h : W.ownsRow B e 2 v m (cellsK (fun j => [.int .u64 (f j).1, .int .u64 (f j).2]) m)) : ∃ a c, v = .slice a m c ∧ QRowA W a m ((List.range m).map f) ∧ m ≤ c := by
  rcases id h.2 with ⟨hv, h0⟩ | ⟨g, cap, cur, hv, hb, hg, hn, hcap, hsz, ht⟩
  · subst h0
    exact ⟨none, 0, hv, ⟨by simp, by unfold maxLen; omega, fun k hk => by omega⟩, Nat.le_refl _⟩
  · refine ⟨some ⟨g, 0, none⟩, cap, hv, ⟨by simp, by omega, fun k hk => ⟨g, 0, rfl, ?_, ?_⟩⟩, hn⟩
    all_goals
      subst hv
      have hF : ∀ j, ((fun j => [Value.int .u64 (f j).1, Value.int .u64 (f j).2]) j).length = 2 := fun _ => rfl
    · have h0 := h.cellAt (k * 2) (by omega)
      have h1 := cellsK_at hF (k := m) (j := k) (i := 0) hk (by decide)
      rw [Nat.add_zero] at h1
      rw [Nat.zero_add, h0, h1]
      simp [List.getD, hk]
    · have h0 := h.cellAt (k * 2 + 1) (by omega)
      have h1 := cellsK_at hF (k := m) (j := k) (i := 1) hk (by decide)
      rw [Nat.zero_add, h0, h1]
      simp [List.getD, hk]
theorem range_getD {α : Type} (f : Nat → α) (m i : Nat) (d : α) (h : i < m) : ((List.range m).map f).getD i d = f i := by simp [List.getD, h]
theorem RowA.cut {W : World} {a : Option Addr} {n m : Nat} {zs : List Int} (h : RowA W a n zs) (hm : m ≤ n) : RowA W a m (zs.take m) := by
  refine ⟨by rw [List.length_take, h.1]; omega, by have := h.2.1; omega, fun k hk => ?_⟩
  obtain ⟨b, off, e, c⟩ := h.2.2 k (by omega)
  refine ⟨b, off, e, ?_⟩
  rw [c]
  simp [List.getD, hk]
theorem QRowA.cut {W : World} {a : Option Addr} {n m : Nat} {zs : List (Int × Int)} (h : QRowA W a n zs) (hm : m ≤ n) : QRowA W a m (zs.take m) := by
  refine ⟨by rw [List.length_take, h.1]; omega, by have := h.2.1; omega, fun k hk => ?_⟩
  obtain ⟨b, off, e, c, d⟩ := h.2.2 k (by omega)
  refine ⟨b, off, e, ?_, ?_⟩
  · rw [c]; simp [List.getD, hk]
  · rw [d]; simp [List.getD, hk]
end Go.Proofs.Ytjcgakmhpblanaa
namespace Go.Proofs.Ytjcgakmhpblanaa
open Go Go.RowKit
set_option linter.unusedVariables false

theorem opA_litE (W : World) (t : TypeId) (l : List Opn) (cs : Array Value) (h : cs.toList = flatO l) (hl : l.length ≤ 1000) : OpA (W.alloc (.cells cs t)) (some ⟨W.heap.size, 0, none⟩) l.length l := by
  refine ⟨rfl, by unfold maxLen; omega, fun k hk => ⟨W.heap.size, 0, rfl, ?_⟩⟩
  obtain ⟨f0, f1⟩ := flatO_at l k hk
  have e : ∀ j v, (flatO l)[j]? = some v → (W.alloc (.cells cs t)).cell? ⟨W.heap.size, j, none⟩ = some v := fun j v hv => by
    rw [← h] at hv
    have : cs[j]? = some v := by simpa using hv
    simp [go_sem, this]
  rw [Nat.zero_add]
  exact ⟨e _ _ f0, e _ _ f1⟩
abbrev litE : List Opn := [(1, 0), (3, 5), (6, 0), (2, 0), (5, 0)]
theorem litE_ok : ∀ o ∈ litE, OkO o := by
  intro o ho
  simp only [litE, List.mem_cons, List.not_mem_nil, or_false] at ho
  rcases ho with rfl | rfl | rfl | rfl | rfl <;> exact ⟨by decide, by unfold U; decide⟩
theorem litE_check : checkB litE 1 true = (1, 0) := by decide +kernel
theorem litE_num : evB numA (rowF [3]) (rowF [1]) litE = toF 14 := by decide +kernel
theorem litE_pair : evB pairA (rowQ [(3, 1)]) (rowQ [(1, 0)]) litE = ⟨toF 14, toF 5⟩ := by decide +kernel
theorem min_nat (x y : Nat) : min (x : Int) (y : Int) = ((min x y : Nat) : Int) := by omega
end Go.Proofs.Ytjcgakmhpblanaa
namespace Go.Proofs.Ytjcgakmhpblanaa
open Go Go.RowKit
set_option linter.unusedVariables false

/-- What a call leaves that writes into a variable and into a row of its own: all other blocks that were there are as they were; the row's block is the one that it was, or a new one. -/
structure Went (g : Nat) (w w' : World) (v v' : Value) : Prop where
  os : w'.os = w.os
  tape : w'.tape = w.tape
  output : w'.output = w.output
  size : w.heap.size ≤ w'.heap.size
  block : ∀ k, k < w.heap.size → k ≠ g → v.ownBlock ≠ some k → w'.heap[k]? = w.heap[k]?
  own : ∀ k, v'.ownBlock = some k → v.ownBlock = some k ∨ w.heap.size ≤ k
theorem Went.refl (g : Nat) (w : World) (v : Value) : Went g w w v v := ⟨rfl, rfl, rfl, Nat.le_refl _, fun _ _ _ _ => rfl, fun _ h => .inl h⟩
theorem Went.trans {g : Nat} {w w1 w2 : World} {v v1 v2 : Value} (h : Went g w w1 v v1) (h' : Went g w1 w2 v1 v2) : Went g w w2 v v2 := by
  refine ⟨h'.os.trans h.os, h'.tape.trans h.tape, h'.output.trans h.output, Nat.le_trans h.size h'.size, fun k hk hg hv => ?_, fun k hk => ?_⟩
  · refine (h'.block k (Nat.lt_of_lt_of_le hk h.size) hg fun e => ?_).trans (h.block k hk hg hv)
    rcases h.own k e with c | c
    · exact hv c
    · omega
  · rcases h'.own k hk with c | c
    · exact h.own k c
    · exact .inr (Nat.le_trans h.size c)
theorem Went.below {g : Nat} {w w' : World} (v : Value) (h : Below w.heap.size w w') : Went g w w' v v := ⟨h.os, h.tape, h.output, h.size, fun k hk _ _ => h.block k hk, fun _ h => .inl h⟩
theorem Went.grown {g : Nat} {w w' : World} {v v' : Value} (h : w.grownBy w' v.ownBlock) (ha : v'.ownBlock = v.ownBlock ∨ v'.ownBlock = some w.heap.size) : Went g w w' v v' :=
  ⟨h.os, h.tape, h.output, h.size, fun k hk _ hv => h.block k hk (fun e => hv e.symm), fun k hk => by
    rcases ha with e | e
    · exact .inl (e ▸ hk)
    · rw [hk] at e; cases e; exact .inr (Nat.le_refl _)⟩
theorem Went.set (g o : Nat) (w : World) (x v : Value) : Went g w (w.setCell ⟨g, o, none⟩ x) v v :=
  ⟨rfl, rfl, rfl, by simp [World.setCell], fun k hk hg _ => Below.heap_setCell _ _ _ _ (by intro e; exact hg e), fun _ h => .inl h⟩
theorem Went.from {B g : Nat} {w0 w w' : World} {v v' : Value} (h : Went g w w' v v') (hb : Below B w0 w) (hg : B ≤ g) (hv : ∀ k, v.ownBlock = some k → B ≤ k) (hB : B ≤ w.heap.size) : Below B w0 w' :=
  hb.trans ⟨h.os, h.tape, h.output, h.size, fun i hi => h.block i (by omega) (by omega) (fun e => by have := hv i e; omega)⟩
/-- A row of its own, in a variable of one cell. -/
structure VarRow (B : Nat) (e : TypeId) (s : Nat) (W : World) (g : Nat) (v : Value) (n : Nat) (xs : List Value) : Prop where
  c : W.cell? ⟨g, 0, none⟩ = some v
  f : W.frozen? ⟨g, 0, none⟩ = false
  own : W.ownsRow B e s v n xs
  ne : v.ownBlock ≠ some g
  le : B ≤ g
section
variable {B s : Nat} {e : TypeId} {W W' : World} {g : Nat} {v : Value} {n : Nat} {xs : List Value}
theorem VarRow.lt (h : VarRow B e s W g v n xs) : g < W.heap.size := World.block_lt_of_cell? W _ h.c
theorem VarRow.keep (h : VarRow B e s W g v n xs) (hb : Below W.heap.size W W') : VarRow B e s W' g v n xs :=
  ⟨bkeep hb h.c, bfree hb h.c h.f, own_keep h.own hb, h.ne, h.le⟩
theorem VarRow.gep (h : VarRow B e s W g v n xs) : ∀ k, v.ownBlock = some k → B ≤ k := own_ge h.own
theorem VarRow.size (h : VarRow B e s W g v n xs) : B ≤ W.heap.size := by have := h.lt; have := h.le; omega
/-- Another row, in whatever world it grew. -/
theorem VarRow.put (h : VarRow B e s W g v n xs) {v' : Value} {n' : Nat} {xs' : List Value} (hg : W.grownBy W' v.ownBlock) (ho : W'.ownsRow B e s v' n' xs') (ha : v'.ownBlock = v.ownBlock ∨ v'.ownBlock = some W.heap.size) :
    VarRow B e s (W'.setCell ⟨g, 0, none⟩ v') g v' n' xs' := by
  have hl := h.lt
  have hn : some g ≠ v.ownBlock := fun e => h.ne e.symm
  have k0 := (World.cell?_of_block (a := ⟨g, 0, none⟩) (hg.block g hl hn)).trans h.c
  have j0 := (World.frozen?_of_block (a := ⟨g, 0, none⟩) (hg.block g hl hn)).trans h.f
  have ne : v'.ownBlock ≠ some g := by
    rcases ha with e | e
    · rw [e]; exact h.ne
    · rw [e]; intro c; cases c; omega
  refine ⟨by simp [go_sem, k0], by simp [j0], ?_, ne, h.le⟩
  exact ho.kept (grown_set W' g 0 v') (by
    cases hv : v'.ownBlock with
    | none => exact .inl rfl
    | some k => exact .inr (by intro e; exact ne (hv.trans e)))
/-- A variable that is made with a row of its own. -/
theorem VarRow.first (hB : B ≤ W.heap.size) (ho : W.ownsRow B e s v n xs) (T : TypeId) : VarRow B e s (W.alloc (.cells #[v] T)) W.heap.size v n xs :=
  ⟨by simp [go_sem], by simp [go_sem], ho.alloc _, fun e => by have := (ho.lt _ e).2; omega, hB⟩
theorem Went.put (h : VarRow B e s W g v n xs) {v' : Value} (hg : W.grownBy W' v.ownBlock) (ha : v'.ownBlock = v.ownBlock ∨ v'.ownBlock = some W.heap.size) : Went g W (W'.setCell ⟨g, 0, none⟩ v') v v' :=
  (Went.grown hg ha).trans (Went.set g 0 W' v' v')
theorem Went.bel {w0 : World} {v' : Value} (hw : Went g W W' v v') (h : VarRow w0.heap.size e s W g v n xs) (hb : Below w0.heap.size w0 W) : Below w0.heap.size w0 W' := hw.from hb h.le h.gep h.size
theorem Went.setNew {w : World} {v' : Value} (h : Went g w W v v') {p : Addr} (hp : w.heap.size ≤ p.block) (u : Value) : Went g w (W.setCell p u) v v' :=
  ⟨h.os, h.tape, h.output, by have := h.size; simpa [World.setCell] using this, fun k hk h1 h2 => (Below.heap_setCell _ _ _ _ (by omega)).trans (h.block k hk h1 h2), h.own⟩
theorem Went.drew {w : World} {v' : Value} (h : Went g w W v v') : Went g w W.drew v v' := ⟨h.os, h.tape, h.output, h.size, h.block, h.own⟩
theorem VarRow.far (h : VarRow B e s W g v n xs) {p : Nat} (hp : p ≠ g) (hv : v.ownBlock ≠ some p) (o : Nat) (u : Value) : VarRow B e s (W.setCell ⟨p, o, none⟩ u) g v n xs := by
  have hne : ∀ k, k ≠ p → (W.setCell ⟨p, o, none⟩ u).heap[k]? = W.heap[k]? := fun k hk => Below.heap_setCell _ _ _ _ hk
  refine ⟨(World.cell?_of_block (a := ⟨g, 0, none⟩) (hne g (Ne.symm hp))).trans h.c, (World.frozen?_of_block (a := ⟨g, 0, none⟩) (hne g (Ne.symm hp))).trans h.f, ?_, h.ne, h.le⟩
  exact h.own.kept (grown_set W p o u) (by
    cases c : v.ownBlock with
    | none => exact .inl rfl
    | some k => exact .inr (by intro e; exact hv (c.trans e)))
theorem VarRow.drew (h : VarRow B e s W g v n xs) : VarRow B e s W.drew g v n xs := ⟨h.c, h.f, h.own, h.ne, h.le⟩
theorem Var.went {v' : Value} {h : Nat} {x y : Int} (hV : Var W h x y) (hW : Went g W W' v v') (hne : h ≠ g) (hx : v.ownBlock ≠ some h) : Var W' h x y := by
  have hl := hV.lt
  obtain ⟨c0, c1, f0, f1⟩ := hV
  have hb := hW.block h hl hne hx
  exact ⟨(World.cell?_of_block (a := ⟨h, 0, none⟩) hb).trans c0, (World.cell?_of_block (a := ⟨h, 1, none⟩) hb).trans c1, (World.frozen?_of_block (a := ⟨h, 0, none⟩) hb).trans f0, (World.frozen?_of_block (a := ⟨h, 1, none⟩) hb).trans f1⟩
end
end Go.Proofs.Ytjcgakmhpblanaa
namespace Go.Proofs.Ytjcgakmhpblanaa
open Go Go.RowKit
set_option linter.unusedVariables false

set_option maxHeartbeats 2000000 in
theorem vnput_is (B g : Nat) (v : Value) (x : Int) (st : List (Int)) (W : World) (hS : VarRow B 46 1 W g v (st).length (stkV (stI .u64) (st))) (hl : st.length ≤ 1000) :
    Calls Try.prog 73 #[.pointer (some ⟨g, 0, none⟩), .int .u64 x] W fun e w' => e = .returned (.tuple #[]) ∧ ∃ v', VarRow B 46 1 w' g v' (x :: st).length (stkV (stI .u64) (x :: st)) ∧ Went g W w' v v' := by
  obtain ⟨i0, hi, hz0, hz1, hz2⟩ := info_parts infoN
  have c0 := hS.c
  have f0 := hS.f
  have HS := Lib.hid (hS.keep ((Below.refl _ _).alloc (Nat.le_refl _) (.cells #[.int .u64 x] 46)))
  have HW := Lib.hid (Went.below (g := g) v ((Below.refl W.heap.size W).alloc (Nat.le_refl _) (.cells #[.int .u64 x] 46)))
  clear hS
  go_enter Try.func73, Try.ntmps73
  go_wp2_with (at_builtin; refine wpList_append_own_at rfl _ _ 99 rfl B 46 i0 (.int .u64 0) 1 8 Try.underlying99 hi hz0 hz1 hz2 rfl (by decide) v st.length (stkV (stI .u64) st) rfl HS.out.own ⟨W.heap.size, 0, none⟩ 1 1 [.int .u64 x] rfl rfl (one_src (by simp [go_sem])) (by intro u hu; simp at hu; subst hu; rfl) (by unfold maxLen; omega) (by omega) HS.out.size ?_)
  intro v' w1 hown hgrow hat
  have hat : v'.ownBlock = v.ownBlock ∨ v'.ownBlock = some (W.alloc (.cells #[.int .u64 x] 46)).heap.size := by simpa using hat
  have hown' : w1.ownsRow B 46 1 v' (x :: st).length (stkV (stI .u64) (x :: st)) := by rw [stkV_cons]; exact hown
  have R := Lib.hid (HS.out.put hgrow hown' hat)
  have G := Lib.hid (HW.out.trans (Went.put HS.out hgrow hat))
  have hlt := HS.out.lt
  have hne : some g ≠ v.ownBlock := fun e => HS.out.ne e.symm
  replace c0 := (World.cell?_of_block (a := ⟨g, 0, none⟩) (hgrow.block g hlt hne)).trans HS.out.c
  replace f0 := (World.frozen?_of_block (a := ⟨g, 0, none⟩) (hgrow.block g hlt hne)).trans HS.out.f
  obtain ⟨a', cap', rfl⟩ := own_form hown
  clear hown hown' hgrow hat HS HW hne hlt
  go_wp2
  go_end0
  exact ⟨rfl, _, R.out, G.out⟩
set_option maxHeartbeats 2000000 in
theorem vntake_is (B g : Nat) (v : Value) (x : Int) (st : List (Int)) (W : World) (hS : VarRow B 46 1 W g v (x :: st).length (stkV (stI .u64) (x :: st))) (hl : st.length ≤ 1000) :
    Calls Try.prog 76 #[.pointer (some ⟨g, 0, none⟩)] W fun e w' => e = .returned (.int .u64 x) ∧ ∃ v', VarRow B 46 1 w' g v' (st).length (stkV (stI .u64) (st)) ∧ Went g W w' v v' := by
  obtain ⟨b, cap, rfl, hc1, hc2, hcell⟩ := stk_one (stI_len .u64) hS.own
  have hcut := own_cut (m := st.length) (xs := stkV (stI .u64) st) (ys := (stI .u64) x) (by have := hS.own; rw [stkV_cons] at this; exact this) (by simp) (stkV_len (stI_len .u64) st)
  obtain ⟨M, hM⟩ : ∃ M, st.length + 1 = M := ⟨_, rfl⟩
  have hw1 : IntKind.i64.wrap ((M : Int) - 1) = (st.length : Int) := by rw [IntWalk.i64_in _ (by omega)]; omega
  have hw2 : wrap64 ((M : Int) - 1) = (st.length : Int) := by rw [IntWalk.wrap64_in _ (by omega)]; omega
  have h0 : (0 : Int) ≤ (st.length : Int) := by omega
  have hlt : (st.length : Int) < (M : Int) := by omega
  have hle : (st.length : Int) ≤ (M : Int) := by omega
  have hcc : st.length ≤ cap := by omega
  have hx := hcell 0 (by decide)
  simp only [Nat.mul_one, Nat.add_zero] at hx
  replace hx : W.cell? ⟨b, st.length, none⟩ = some (.int .u64 x) := hx
  rw [List.length_cons, hM] at hS
  rw [hM] at hc1 ⊢
  have c0 := hS.c
  have f0 := hS.f
  have hbg : ¬ b = g := fun e => hS.ne (by rw [e]; rfl)
  have R := Lib.hid (hS.put (W' := W.drew) (v' := .slice (some ⟨b, 0, none⟩) st.length cap) (n' := st.length) (grown_of_below (Below.refl _ _).drew) hcut.drew (.inl rfl))
  have G := Lib.hid (Went.put (W' := W.drew) hS (v' := .slice (some ⟨b, 0, none⟩) st.length cap) (grown_of_below (Below.refl _ _).drew) (.inl rfl))
  clear hS hcut hcell hM
  go_enter Try.func76, Try.ntmps76
  go_upto_region 4 with fail
  go_region
  all_goals go_wp2
  all_goals go_ret
  all_goals exact ⟨rfl, _, R.out, G.out⟩
set_option maxHeartbeats 2000000 in
theorem vnjoin4_is (w1 : World) (g : Nat) (v : Value) (x y z : Int) (r : List (Int)) (W : World) (hB : Below w1.heap.size w1 W) (hS : VarRow w1.heap.size 46 1 W g v (y :: x :: r).length (stkV (stI .u64) (y :: x :: r))) (hl : r.length + 2 ≤ 1000)
    (kf : ∀ W, Calls Try.prog 58 #[.int .u64 x, .int .u64 y] W fun e w' => e = .returned (.int .u64 z) ∧ Below W.heap.size W w') :
    Calls Try.prog 75 #[.pointer (some ⟨g, 0, none⟩), .func (.func 58) #[] #[]] W fun e w' => e = .returned (.tuple #[]) ∧ Below w1.heap.size w1 w' ∧ ∃ v', VarRow w1.heap.size 46 1 w' g v' (z :: r).length (stkV (stI .u64) (z :: r)) := by
  have HS := Lib.hid hS; have HB := Lib.hid hB; have HL := Lib.hid hl
  clear hS hB
  go_enter Try.func75, Try.ntmps75
  go_upto_region 1 with (go_at_call 76; (with_reducible refine (vntake_is w1.heap.size g _ y (x :: r) _ HS.out (by simp; omega)).mono ?_); rintro e w2 ⟨rfl, v2, hS2, hW2⟩)
  have HB2 := Lib.hid (hW2.bel HS.out HB.out); have HS2 := Lib.hid hS2
  clear hS2 hW2
  go_upto_region 2 with (go_at_call 76; (with_reducible refine (vntake_is w1.heap.size g _ x r _ HS2.out (by omega)).mono ?_); rintro e w3 ⟨rfl, v3, hS3, hW3⟩)
  have HB3 := Lib.hid (hW3.bel HS2.out HB2.out); have HS3 := Lib.hid hS3
  clear hS3 hW3
  go_wp2_with (first
    | (go_at_call 58; (with_reducible refine (kf _).mono ?_); rintro e w4 ⟨rfl, hb⟩; have HB4 := Lib.hid (bthen HB3.out hb); have HS4 := Lib.hid (HS3.out.keep hb); clear hb)
    | (go_at_call 73; (with_reducible refine (vnput_is w1.heap.size g _ z r _ HS4.out (by omega)).mono ?_); rintro e w5 ⟨rfl, v5, hS5, hW5⟩; have HB5 := Lib.hid (hW5.bel HS4.out HB4.out); have HS5 := Lib.hid hS5; clear hS5 hW5))
  go_end0
  exact ⟨rfl, HB5.out, _, HS5.out⟩
set_option maxHeartbeats 2000000 in
theorem vnjoin5_is (w1 : World) (g : Nat) (v : Value) (x y z : Int) (r : List (Int)) (W : World) (hB : Below w1.heap.size w1 W) (hS : VarRow w1.heap.size 46 1 W g v (y :: x :: r).length (stkV (stI .u64) (y :: x :: r))) (hl : r.length + 2 ≤ 1000)
    (kf : ∀ W, Calls Try.prog 59 #[.int .u64 x, .int .u64 y] W fun e w' => e = .returned (.int .u64 z) ∧ Below W.heap.size W w') :
    Calls Try.prog 75 #[.pointer (some ⟨g, 0, none⟩), .func (.func 59) #[] #[]] W fun e w' => e = .returned (.tuple #[]) ∧ Below w1.heap.size w1 w' ∧ ∃ v', VarRow w1.heap.size 46 1 w' g v' (z :: r).length (stkV (stI .u64) (z :: r)) := by
  have HS := Lib.hid hS; have HB := Lib.hid hB; have HL := Lib.hid hl
  clear hS hB
  go_enter Try.func75, Try.ntmps75
  go_upto_region 1 with (go_at_call 76; (with_reducible refine (vntake_is w1.heap.size g _ y (x :: r) _ HS.out (by simp; omega)).mono ?_); rintro e w2 ⟨rfl, v2, hS2, hW2⟩)
  have HB2 := Lib.hid (hW2.bel HS.out HB.out); have HS2 := Lib.hid hS2
  clear hS2 hW2
  go_upto_region 2 with (go_at_call 76; (with_reducible refine (vntake_is w1.heap.size g _ x r _ HS2.out (by omega)).mono ?_); rintro e w3 ⟨rfl, v3, hS3, hW3⟩)
  have HB3 := Lib.hid (hW3.bel HS2.out HB2.out); have HS3 := Lib.hid hS3
  clear hS3 hW3
  go_wp2_with (first
    | (go_at_call 59; (with_reducible refine (kf _).mono ?_); rintro e w4 ⟨rfl, hb⟩; have HB4 := Lib.hid (bthen HB3.out hb); have HS4 := Lib.hid (HS3.out.keep hb); clear hb)
    | (go_at_call 73; (with_reducible refine (vnput_is w1.heap.size g _ z r _ HS4.out (by omega)).mono ?_); rintro e w5 ⟨rfl, v5, hS5, hW5⟩; have HB5 := Lib.hid (hW5.bel HS4.out HB4.out); have HS5 := Lib.hid hS5; clear hS5 hW5))
  go_end0
  exact ⟨rfl, HB5.out, _, HS5.out⟩
set_option maxHeartbeats 2000000 in
theorem vnjoin6_is (w1 : World) (g : Nat) (v : Value) (x y z : Int) (r : List (Int)) (W : World) (hB : Below w1.heap.size w1 W) (hS : VarRow w1.heap.size 46 1 W g v (y :: x :: r).length (stkV (stI .u64) (y :: x :: r))) (hl : r.length + 2 ≤ 1000)
    (kf : ∀ W, Calls Try.prog 60 #[.int .u64 x, .int .u64 y] W fun e w' => e = .returned (.int .u64 z) ∧ Below W.heap.size W w') :
    Calls Try.prog 75 #[.pointer (some ⟨g, 0, none⟩), .func (.func 60) #[] #[]] W fun e w' => e = .returned (.tuple #[]) ∧ Below w1.heap.size w1 w' ∧ ∃ v', VarRow w1.heap.size 46 1 w' g v' (z :: r).length (stkV (stI .u64) (z :: r)) := by
  have HS := Lib.hid hS; have HB := Lib.hid hB; have HL := Lib.hid hl
  clear hS hB
  go_enter Try.func75, Try.ntmps75
  go_upto_region 1 with (go_at_call 76; (with_reducible refine (vntake_is w1.heap.size g _ y (x :: r) _ HS.out (by simp; omega)).mono ?_); rintro e w2 ⟨rfl, v2, hS2, hW2⟩)
  have HB2 := Lib.hid (hW2.bel HS.out HB.out); have HS2 := Lib.hid hS2
  clear hS2 hW2
  go_upto_region 2 with (go_at_call 76; (with_reducible refine (vntake_is w1.heap.size g _ x r _ HS2.out (by omega)).mono ?_); rintro e w3 ⟨rfl, v3, hS3, hW3⟩)
  have HB3 := Lib.hid (hW3.bel HS2.out HB2.out); have HS3 := Lib.hid hS3
  clear hS3 hW3
  go_wp2_with (first
    | (go_at_call 60; (with_reducible refine (kf _).mono ?_); rintro e w4 ⟨rfl, hb⟩; have HB4 := Lib.hid (bthen HB3.out hb); have HS4 := Lib.hid (HS3.out.keep hb); clear hb)
    | (go_at_call 73; (with_reducible refine (vnput_is w1.heap.size g _ z r _ HS4.out (by omega)).mono ?_); rintro e w5 ⟨rfl, v5, hS5, hW5⟩; have HB5 := Lib.hid (hW5.bel HS4.out HB4.out); have HS5 := Lib.hid hS5; clear hS5 hW5))
  go_end0
  exact ⟨rfl, HB5.out, _, HS5.out⟩
set_option maxHeartbeats 2000000 in
theorem vncolumn_is (b : Option Addr) (len cap : Nat) (cs : List (Int)) (m : Nat) (x : Int) (w : World) (hc : RowA w b len cs) (hm : m < len) (hx : cs.getD m 0 = x) :
    Calls Try.prog 74 #[.slice b len cap, .int .u64 (m : Int)] w fun e w' => e = .returned (.int .u64 x) ∧ Below w.heap.size w w' := by
  have hmax := hc.2.1
  unfold maxLen at hmax
  obtain ⟨bz, oz, rfl, c0⟩ := hc.2.2 m hm
  rw [hx] at c0
  have hw : IntKind.u64.wrap (len : Int) = (len : Int) := by rw [IntKind.wrap_u64]; omega
  have hm' : (m : Int) < (len : Int) := by omega
  have hm0 : (0 : Int) ≤ (m : Int) := by omega
  have hmn : ¬ (len : Int) ≤ (m : Int) := by omega
  have hml : (m : Int) < 18446744073709551616 := by omega
  clear hx hc
  go_enter Try.func74, Try.ntmps74
  go_wp2_with fail
  go_ret
  exact ⟨rfl, Below.refl _ _⟩
theorem vnop4 (x y : Int) (hx : U x) (hy : U y) : ∃ z, toF z = toF x + toF y ∧ U z ∧ ∀ W, Calls Try.prog 58 #[.int .u64 x, .int .u64 y] W fun e w' => e = .returned (.int .u64 z) ∧ Below W.heap.size W w' :=
  ⟨enc (toF x + toF y), toF_enc _, enc_U _, fun W => (add_is x y _ hx hy rfl W).mono fun _ _ q => ⟨q.1, q.2 ▸ Below.refl _ _⟩⟩
theorem vnop5 (x y : Int) (hx : U x) (hy : U y) : ∃ z, toF z = toF x - toF y ∧ U z ∧ ∀ W, Calls Try.prog 59 #[.int .u64 x, .int .u64 y] W fun e w' => e = .returned (.int .u64 z) ∧ Below W.heap.size W w' :=
  ⟨enc (toF x - toF y), toF_enc _, enc_U _, fun W => (sub_is x y _ hx hy rfl W).mono fun _ _ q => ⟨q.1, q.2 ▸ Below.refl _ _⟩⟩
theorem vnop6 (x y : Int) (hx : U x) (hy : U y) : ∃ z, toF z = toF x * toF y ∧ U z ∧ ∀ W, Calls Try.prog 60 #[.int .u64 x, .int .u64 y] W fun e w' => e = .returned (.int .u64 z) ∧ Below W.heap.size W w' :=
  ⟨enc (toF x * toF y), toF_enc _, enc_U _, fun W => (mul_is x y _ hx hy rfl W).mono fun _ _ q => ⟨q.1, q.2 ▸ Below.refl _ _⟩⟩
/-- While the operations are run. -/
def LeftRelN (w1 : World) (g : Nat) (zs : List Opn) (cols : Int) (cur next : Nat → F) (RES : F) (i : Value) (W : World) : Prop :=
  ∃ (k : Nat) (v : Value) (rs : List (Int)) (st : List Nat), k ≤ zs.length ∧ i = .int .i64 k ∧ Below w1.heap.size w1 W ∧ VarRow w1.heap.size 46 1 W g v rs.length (stkV (stI .u64) rs) ∧ (∀ n ∈ rs, U n) ∧ rs.length = st.length ∧ st.length ≤ k ∧ Ran cols true (zs.drop k) st ∧ evL numA cur next (zs.drop k) (rs.map toF) = [RES]
theorem vnmake (W : World) : (Instr.makeSlice 99 (.int .i64 0) (.int .i64 16)).run Try.prog W = .ok (.slice (some ⟨W.heap.size, 0, none⟩) 0 16) (W.alloc (.cells (madeCells #[.int .u64 0] 16) 46)) := by
  obtain ⟨i0, hi, hz0, hz1, hz2⟩ := info_parts infoN
  have h := run_make (P := Try.prog) W 99 46 i0 (.int .u64 0) Try.underlying99 hi hz0 .i64 .i64 0 16 (by omega) (by omega) (by rw [hz2]; omega) (by omega)
  rw [hz1] at h
  exact h
theorem vnown (W : World) : (W.alloc (.cells (madeCells #[.int .u64 0] 16) 46)).ownsRow W.heap.size 46 1 (.slice (some ⟨W.heap.size, 0, none⟩) 0 16) 0 [] :=
  World.ownsRow_made W _ 16 (Nat.le_refl _) (by unfold maxLen; omega) (by have := size_madeCells #[.int .u64 0] 16; simpa using this)
theorem vnlift_is (n : Int) (W : World) : Calls Try.prog 57 #[.int .u64 n] W fun e w' => e = .returned (.int .u64 n) ∧ Below W.heap.size W w' := by
  go_enter Try.func57, Try.ntmps57
  go_wp2
  go_ret
  exact ⟨rfl, Below.refl _ _⟩
set_option maxRecDepth 100000 in
set_option maxHeartbeats 8000000 in
theorem vnleft_is (a : Option Addr) (cap : Nat) (zs : List Opn) (b : Option Addr) (lenb capb : Nat) (cs : List (Int)) (c : Option Addr) (lenc capc : Nat) (ds : List (Int)) (cols : Int) (w : World) (hO : OpA w a zs.length zs) (hu : ∀ o ∈ zs, OkO o) (hz : EvOk zs cols)
    (hc : RowA w b lenb cs) (hcu : ∀ n ∈ cs, U n) (hlb : cols ≤ lenb) (hd : RowA w c lenc ds) (hdu : ∀ n ∈ ds, U n) (hlc : cols ≤ lenc) :
    Calls Try.prog 62 #[.agg #[.func (.func 57) #[] #[], .func (.func 58) #[] #[], .func (.func 59) #[] #[], .func (.func 60) #[] #[]], .slice a zs.length cap, .slice b lenb capb, .slice c lenc capc] w fun E w' => ∃ r : Int, E = .returned (.int .u64 r) ∧ (U r) ∧ toF r = evB numA (rowF cs) (rowF ds) zs ∧ Below w.heap.size w w' := by
  obtain ⟨hrun, hl300⟩ := hz
  have hmax := hO.2.1
  unfold maxLen at hmax
  have hp0 : ∀ o ∈ zs, 0 ≤ o.2 := fun o ho => (hu o ho).2.1
  obtain ⟨cur, hcur⟩ : ∃ f, rowF cs = f := ⟨_, rfl⟩
  obtain ⟨next, hnext⟩ : ∃ f, rowF ds = f := ⟨_, rfl⟩
  have hone := ran_one numA cur next hp0 hrun
  rw [hcur, hnext]
  obtain ⟨RES, hRES⟩ : ∃ r, evB numA cur next zs = r := ⟨_, rfl⟩
  rw [hRES] at hone ⊢
  have hO0 := Lib.hid hO; have HC0 := Lib.hid hc; have HD0 := Lib.hid hd
  have HUC := Lib.hid hcu; have HUD := Lib.hid hdu; have HU := Lib.hid hu
  have HCUR := Lib.hid hcur; have HNEXT := Lib.hid hnext
  have HRUN := Lib.hid (show Ran cols true zs [] from hrun)
  have HONE := Lib.hid hone
  clear hO hu hc hcu hd hdu hcur hnext hRES hone hrun hp0
  have hmk := fun W => vnmake W
  have hsf := fun (a : Addr) (n : Nat) (w : World) => run_store Try.prog w a (.func (.func n) #[] #[]) .plain rfl
  go_enter Try.func62, Try.ntmps62
  go_upto_region 1 with fail
  refine wp_gen (fun W => Below w.heap.size w W ∧ W.cell? ⟨w.heap.size, 0, none⟩ = some (.func (.func 57) #[] #[]) ∧ W.cell? ⟨w.heap.size, 1, none⟩ = some (.func (.func 58) #[] #[]) ∧ W.cell? ⟨w.heap.size, 2, none⟩ = some (.func (.func 59) #[] #[]) ∧ W.cell? ⟨w.heap.size, 3, none⟩ = some (.func (.func 60) #[] #[])) ⟨(Below.refl _ _).alloc (Nat.le_refl _) _, by simp [go_sem], by simp [go_sem], by simp [go_sem], by simp [go_sem]⟩ ?_
  obtain ⟨gF, hgF⟩ : ∃ g, w.heap.size = g := ⟨_, rfl⟩
  rintro w1 ⟨hB1, q0, q1, q2, q3⟩
  simp only [hgF] at q0 q1 q2 q3 ⊢
  have HF : Hid (w1.cell? ⟨gF, 0, none⟩ = some (.func (.func 57) #[] #[]) ∧ w1.cell? ⟨gF, 1, none⟩ = some (.func (.func 58) #[] #[]) ∧ w1.cell? ⟨gF, 2, none⟩ = some (.func (.func 59) #[] #[]) ∧ w1.cell? ⟨gF, 3, none⟩ = some (.func (.func 60) #[] #[])) := Lib.hid ⟨q0, q1, q2, q3⟩
  have HB1 := Lib.hid hB1
  have HC := Lib.hid (hO0.out.keep hB1).2.2; have HCB := Lib.hid (HC0.out.keep hB1); have HCD := Lib.hid (HD0.out.keep hB1)
  clear q0 q1 q2 q3 hB1 hO0 HC0 HD0 hgF
  go_upto_region 3 with fail
  refine wp_gen (fun W => Below w1.heap.size w1 W ∧ VarRow w1.heap.size 46 1 W (w1.heap.size + 1) (.slice (some ⟨w1.heap.size, 0, none⟩) 0 16) 0 []) ⟨((Below.refl _ _).alloc (Nat.le_refl _) _).alloc (by simp) _, by
    have h := VarRow.first (B := w1.heap.size) (W := w1.alloc (.cells (madeCells #[.int .u64 0] 16) 46)) (by simp) (vnown w1) 99
    simpa using h⟩ ?_
  obtain ⟨g, hg⟩ : ∃ g, w1.heap.size + 1 = g := ⟨_, rfl⟩
  rintro W2 ⟨hB2, hS2⟩
  simp only [hg] at hS2 ⊢
  clear hg hmk hsf
  go_loopw [15] (LeftRelN w1 g zs cols cur next RES) (fun i _ => zs.length - (intOf i).toNat)
  case atStart => exact ⟨0, _, [], [], Nat.zero_le _, rfl, hB2, hS2, by simp, rfl, Nat.zero_le _, by rw [List.drop_zero]; exact HRUN.out, by rw [List.drop_zero]; exact HONE.out⟩
  case round =>
    clear HRUN HONE hB2 hS2
    obtain ⟨k, v, rs, st, hk, rfl, hB, hS, hru, hlen, hst, hrun, hres⟩ := hrel
    by_cases hlt : k < zs.length
    · have hlt' : (k : Int) < (zs.length : Int) := by omega
      have hk0 : (0 : Int) ≤ (k : Int) := by omega
      rw [drop_at hlt] at hrun hres
      have hok : OkO (zs.getD k (0, 0)) := by
        have e : zs.getD k (0, 0) = zs[k] := by simp [List.getD, hlt]
        rw [e]
        exact HU.out _ (List.getElem_mem hlt)
      obtain ⟨bz, offz, rfl, u0, u1⟩ := HC.out k hlt
      replace u0 := bkeep hB u0; replace u1 := bkeep hB u1
      obtain ⟨rest, hrest⟩ : ∃ r, zs.drop (k + 1) = r := ⟨_, rfl⟩
      rw [hrest] at hrun hres
      have HREST := Lib.hid hrest
      clear hrest
      generalize zs.getD k (0, 0) = o at *
      obtain ⟨kd, nn⟩ := o
      dsimp only at u0 u1
      obtain ⟨st', hps, hst0, hrun', hright⟩ := ran_step hrun
      have hst' : st'.length ≤ k + 1 := by omega
      have hk6 := right_kind hright
      dsimp only at hk6
      have HR := Lib.hid (show Ran cols true (zs.drop (k + 1)) st' by rw [HREST.out]; exact hrun')
      have hn0 : 0 ≤ nn := hok.2.1
      have hnU : U nn := hok.2
      have HL16 := Lib.hid hst'
      have HRES := Lib.hid hres; have HB := Lib.hid hB; have HS := Lib.hid hS; have HRU := Lib.hid hru
      have hl300' : rs.length ≤ 300 := by omega
      obtain ⟨mm, rfl⟩ : ∃ m : Nat, nn = (m : Int) := ⟨nn.toNat, by omega⟩
      clear hrun hrun' hst0 hok hres hright hB hS hru
      go_upto_region 5 with fail
      refine wp_gen (fun W => Below w1.heap.size w1 W ∧ VarRow w1.heap.size 46 1 W g v rs.length (stkV (stI .u64) rs) ∧ W.cell? ⟨wr.heap.size, 0, none⟩ = some (.int .i64 kd) ∧ W.cell? ⟨wr.heap.size, 1, none⟩ = some (.int .u64 (mm : Int))) ⟨HB.out.alloc HS.out.size _, HS.out.keep ((Below.refl _ _).alloc (Nat.le_refl _) _), by simp [go_sem], by simp [go_sem]⟩ ?_
      obtain ⟨go, hgo⟩ : ∃ g, wr.heap.size = g := ⟨_, rfl⟩
      rintro W3 ⟨hB3, hS3, d0, d1⟩
      simp only [hgo] at d0 d1 ⊢
      clear HB HS u0 u1 hgo
      have HB := Lib.hid hB3; have HS := Lib.hid hS3
      have f0 := bkeep hB3 HF.out.1; have f1 := bkeep hB3 HF.out.2.1; have f2 := bkeep hB3 HF.out.2.2.1; have f3 := bkeep hB3 HF.out.2.2.2
      clear hB3 hS3
      by_cases hk1 : kd = 1
      · subst hk1
        obtain ⟨hcol, e⟩ := push_col_inv1 hps
        subst e
        have hml : mm < lenb := by omega
        have hxU : U (cs.getD mm 0) := by
          have e : cs.getD mm 0 = cs[mm]'(by rw [HCB.out.1]; exact hml) := by simp [List.getD, show mm < cs.length by rw [HCB.out.1]; exact hml]
          rw [e]
          exact HUC.out _ (List.getElem_mem _)
        obtain ⟨x, hx⟩ : ∃ x, cs.getD mm 0 = x := ⟨_, rfl⟩
        rw [hx] at hxU
        have hxv : cur mm = toF x := by rw [← HCUR.out, ← hx]; rfl
        have HV : Hid (evL numA cur next (zs.drop (k + 1)) ((x :: rs).map toF) = [RES]) := Lib.hid (by
          have := HRES.out
          rw [evL, ev1_cur numA cur next rfl, show ((mm : Int)).toNat = mm from rfl, hxv] at this
          rw [HREST.out]
          exact this)
        have HLEN : Hid ((x :: rs).length = (1 :: st).length) := Lib.hid (by rw [List.length_cons, List.length_cons, hlen])
        have HUX : Hid (∀ n ∈ x :: rs, U n) := Lib.hid (by intro n hn; rcases List.mem_cons.1 hn with rfl | hn <;> first | exact hxU | exact HRU.out n hn)
        have kc := fun W hb => vncolumn_is b lenb capb cs mm x W (HCB.out.keep hb) hml hx
        clear hxU hxv hx hps hlen hst HRES
        go_wp2_with (first
          | (go_at_call 74; (with_reducible refine (kc _ HB.out).mono ?_); rintro e w4 ⟨rfl, hb⟩; have HB4 := Lib.hid (bthen HB.out hb); have HS4 := Lib.hid (HS.out.keep hb); clear hb)
          | (go_at_call 73; (with_reducible refine (vnput_is w1.heap.size g _ x rs _ HS4.out (by omega)).mono ?_); rintro e w5 ⟨rfl, v5, hS5, hW5⟩; have HB5 := Lib.hid (hW5.bel HS4.out HB4.out); have HS5 := Lib.hid hS5; clear hS5 hW5))
        go_roundw
        case rel => exact ⟨k + 1, _, x :: rs, _, by omega, by go_num, HB5.out, HS5.out, HUX.out, HLEN.out, HL16.out, HR.out, HV.out⟩
        case measure => simp [intOf]; omega
      by_cases hk2 : kd = 2
      · subst hk2
        obtain ⟨hcol, e⟩ := push_col_inv2 hps
        subst e
        have hml : mm < lenc := by omega
        have hxU : U (ds.getD mm 0) := by
          have e : ds.getD mm 0 = ds[mm]'(by rw [HCD.out.1]; exact hml) := by simp [List.getD, show mm < ds.length by rw [HCD.out.1]; exact hml]
          rw [e]
          exact HUD.out _ (List.getElem_mem _)
        obtain ⟨x, hx⟩ : ∃ x, ds.getD mm 0 = x := ⟨_, rfl⟩
        rw [hx] at hxU
        have hxv : next mm = toF x := by rw [← HNEXT.out, ← hx]; rfl
        have HV : Hid (evL numA cur next (zs.drop (k + 1)) ((x :: rs).map toF) = [RES]) := Lib.hid (by
          have := HRES.out
          rw [evL, ev1_next numA cur next rfl, show ((mm : Int)).toNat = mm from rfl, hxv] at this
          rw [HREST.out]
          exact this)
        have HLEN : Hid ((x :: rs).length = (1 :: st).length) := Lib.hid (by rw [List.length_cons, List.length_cons, hlen])
        have HUX : Hid (∀ n ∈ x :: rs, U n) := Lib.hid (by intro n hn; rcases List.mem_cons.1 hn with rfl | hn <;> first | exact hxU | exact HRU.out n hn)
        have kc := fun W hb => vncolumn_is c lenc capc ds mm x W (HCD.out.keep hb) hml hx
        clear hxU hxv hx hps hlen hst HRES
        go_wp2_with (first
          | (go_at_call 74; (with_reducible refine (kc _ HB.out).mono ?_); rintro e w4 ⟨rfl, hb⟩; have HB4 := Lib.hid (bthen HB.out hb); have HS4 := Lib.hid (HS.out.keep hb); clear hb)
          | (go_at_call 73; (with_reducible refine (vnput_is w1.heap.size g _ x rs _ HS4.out (by omega)).mono ?_); rintro e w5 ⟨rfl, v5, hS5, hW5⟩; have HB5 := Lib.hid (hW5.bel HS4.out HB4.out); have HS5 := Lib.hid hS5; clear hS5 hW5))
        go_roundw
        case rel => exact ⟨k + 1, _, x :: rs, _, by omega, by go_num, HB5.out, HS5.out, HUX.out, HLEN.out, HL16.out, HR.out, HV.out⟩
        case measure => simp [intOf]; omega
      by_cases hk3 : kd = 3
      · subst hk3
        obtain rfl := push_const_inv hps
        obtain ⟨x, hxe⟩ : ∃ x, (mm : Int) = x := ⟨_, rfl⟩
        have hx : toF x = numA.cst (mm : Int) := by rw [← hxe]; rfl
        have hxU : U x := hxe ▸ hnU
        have kl := fun W => vnlift_is (mm : Int) W
        rw [hxe] at kl
        simp only [hxe] at d1
        clear hxe
        have HV : Hid (evL numA cur next (zs.drop (k + 1)) ((x :: rs).map toF) = [RES]) := Lib.hid (by
          have := HRES.out
          rw [evL, ev1_cst numA cur next rfl] at this
          rw [HREST.out]
          rw [show (x :: rs).map toF = numA.cst (mm : Int) :: rs.map toF by rw [List.map_cons, hx]]
          exact this)
        have HLEN : Hid ((x :: rs).length = (0 :: st).length) := Lib.hid (by rw [List.length_cons, List.length_cons, hlen])
        have HUX : Hid (∀ n ∈ x :: rs, U n) := Lib.hid (by intro n hn; rcases List.mem_cons.1 hn with rfl | hn <;> first | exact hxU | exact HRU.out n hn)
        clear hxU hx hps hlen hst HRES
        go_wp2_with (first
          | (go_at_call 57; (with_reducible refine (kl _).mono ?_); rintro e w4 ⟨rfl, hb⟩; have HB4 := Lib.hid (bthen HB.out hb); have HS4 := Lib.hid (HS.out.keep hb); clear hb)
          | (go_at_call 73; (with_reducible refine (vnput_is w1.heap.size g _ x rs _ HS4.out (by omega)).mono ?_); rintro e w5 ⟨rfl, v5, hS5, hW5⟩; have HB5 := Lib.hid (hW5.bel HS4.out HB4.out); have HS5 := Lib.hid hS5; clear hS5 hW5))
        go_roundw
        case rel => exact ⟨k + 1, _, x :: rs, _, by omega, by go_num, HB5.out, HS5.out, HUX.out, HLEN.out, HL16.out, HR.out, HV.out⟩
        case measure => simp [intOf]; omega
      obtain ⟨da, db, ss, rfl, rfl⟩ := push_two_inv hps hk1 hk2 hk3
      obtain ⟨y, x, r, rfl⟩ : ∃ y x r, rs = y :: x :: r := by
        match rs, hlen with
        | y :: x :: r, _ => exact ⟨y, x, r, rfl⟩
        | [_], h => cases h
        | [], h => cases h
      have hxU := HRU.out x (by simp)
      have hyU := HRU.out y (by simp)
      have hl2 : r.length + 2 ≤ 1000 := by simp at hl300'; omega
      have hrl : r.length = ss.length := by simpa using hlen
      have HLEN : Hid (∀ z : Int, (z :: r).length = (max da db :: ss).length ∧ (z :: r).length = ((da + db) :: ss).length) := Lib.hid fun z => by simp [hrl]
      have hkd : kd = 4 ∨ kd = 5 ∨ kd = 6 := by omega
      clear hrl
      rcases hkd with rfl | rfl | rfl
      · obtain ⟨z, hz, hzU, kf⟩ := vnop4 x y hxU hyU
        have HV : Hid (evL numA cur next (zs.drop (k + 1)) ((z :: r).map toF) = [RES]) := Lib.hid (by
          have := HRES.out
          rw [List.map_cons, List.map_cons, evL, ev1_two numA cur next (by simp) (by simp)] at this
          rw [HREST.out, List.map_cons, hz]
          exact this)
        have HUX : Hid (∀ n ∈ z :: r, U n) := Lib.hid (by intro n hn; rcases List.mem_cons.1 hn with rfl | hn <;> first | exact hzU | exact HRU.out n (List.mem_cons_of_mem _ (List.mem_cons_of_mem _ hn)))
        clear hxU hyU hz hzU hps hlen hst HRES
        go_wp2_with (go_at_call 75; (with_reducible refine (vnjoin4_is w1 g _ x y z r _ HB.out HS.out (by omega) kf).mono ?_); rintro e w5 ⟨rfl, hb5, v5, hS5⟩; have HB5 := Lib.hid hb5; have HS5 := Lib.hid hS5; clear hb5 hS5)
        go_roundw
        case rel => exact ⟨k + 1, _, z :: r, _, by omega, by go_num, HB5.out, HS5.out, HUX.out, (HLEN.out z).1, HL16.out, HR.out, HV.out⟩
        case measure => simp [intOf]; omega
      · obtain ⟨z, hz, hzU, kf⟩ := vnop5 x y hxU hyU
        have HV : Hid (evL numA cur next (zs.drop (k + 1)) ((z :: r).map toF) = [RES]) := Lib.hid (by
          have := HRES.out
          rw [List.map_cons, List.map_cons, evL, ev1_two numA cur next (by simp) (by simp)] at this
          rw [HREST.out, List.map_cons, hz]
          exact this)
        have HUX : Hid (∀ n ∈ z :: r, U n) := Lib.hid (by intro n hn; rcases List.mem_cons.1 hn with rfl | hn <;> first | exact hzU | exact HRU.out n (List.mem_cons_of_mem _ (List.mem_cons_of_mem _ hn)))
        clear hxU hyU hz hzU hps hlen hst HRES
        go_wp2_with (go_at_call 75; (with_reducible refine (vnjoin5_is w1 g _ x y z r _ HB.out HS.out (by omega) kf).mono ?_); rintro e w5 ⟨rfl, hb5, v5, hS5⟩; have HB5 := Lib.hid hb5; have HS5 := Lib.hid hS5; clear hb5 hS5)
        go_roundw
        case rel => exact ⟨k + 1, _, z :: r, _, by omega, by go_num, HB5.out, HS5.out, HUX.out, (HLEN.out z).1, HL16.out, HR.out, HV.out⟩
        case measure => simp [intOf]; omega
      · obtain ⟨z, hz, hzU, kf⟩ := vnop6 x y hxU hyU
        have HV : Hid (evL numA cur next (zs.drop (k + 1)) ((z :: r).map toF) = [RES]) := Lib.hid (by
          have := HRES.out
          rw [List.map_cons, List.map_cons, evL, ev1_two numA cur next (by simp) (by simp)] at this
          rw [HREST.out, List.map_cons, hz]
          exact this)
        have HUX : Hid (∀ n ∈ z :: r, U n) := Lib.hid (by intro n hn; rcases List.mem_cons.1 hn with rfl | hn <;> first | exact hzU | exact HRU.out n (List.mem_cons_of_mem _ (List.mem_cons_of_mem _ hn)))
        clear hxU hyU hz hzU hps hlen hst HRES
        go_wp2_with (go_at_call 75; (with_reducible refine (vnjoin6_is w1 g _ x y z r _ HB.out HS.out (by omega) kf).mono ?_); rintro e w5 ⟨rfl, hb5, v5, hS5⟩; have HB5 := Lib.hid hb5; have HS5 := Lib.hid hS5; clear hb5 hS5)
        go_roundw
        case rel => exact ⟨k + 1, _, z :: r, _, by omega, by go_num, HB5.out, HS5.out, HUX.out, (HLEN.out z).2, HL16.out, HR.out, HV.out⟩
        case measure => simp [intOf]; omega
    · obtain rfl : k = zs.length := by omega
      rw [List.drop_length] at hres
      have hres : rs.map toF = [RES] := hres
      obtain ⟨r, rfl, hr⟩ : ∃ r, rs = [r] ∧ toF r = RES := by
        match rs, hres with
        | [r], h => exact ⟨r, rfl, by simpa using h⟩
      have hrU := hru r (by simp)
      have HS := Lib.hid hS; have HB := Lib.hid hB; have HR := Lib.hid hr; have HUR := Lib.hid hrU
      clear hres hS hB hru hlen hst hrun hr hrU
      go_wp2_with (go_at_call 76; (with_reducible refine (vntake_is w1.heap.size g _ r [] _ HS.out (by simp)).mono ?_); rintro e w2 ⟨rfl, v2, hS2, hW2⟩; have HB2 := Lib.hid (hW2.bel HS.out HB.out); clear hS2 hW2)
      go_ret
      exact ⟨r, rfl, HUR.out, HR.out, HB1.out.trans (HB2.out.mono HB1.out.size)⟩
end Go.Proofs.Ytjcgakmhpblanaa
namespace Go.Proofs.Ytjcgakmhpblanaa
open Go Go.RowKit
set_option linter.unusedVariables false

end Go.Proofs.Ytjcgakmhpblanaa
namespace Go.Proofs.Ytjcgakmhpblanaa
open Go Go.RowKit
set_option linter.unusedVariables false

set_option maxHeartbeats 4000000 in
theorem vnat_is (a : Option Addr) (n cap : Nat) (zs : List Opn) (b : Option Addr) (lenb capb : Nat) (cs : List (Int)) (c : Option Addr) (lenc capc : Nat) (ds : List (Int)) (cols : Int) (z : F) (w : World) (hO : OpA w a n zs) (hu : ∀ o ∈ zs, OkO o) (hz : EvOk zs cols)
    (hc : RowA w b lenb cs) (hcu : ∀ n ∈ cs, U n) (hlb : cols ≤ lenb) (hd : RowA w c lenc ds) (hdu : ∀ n ∈ ds, U n) (hlc : cols ≤ lenc) (hzz : evB numA (rowF cs) (rowF ds) zs = z) :
    Calls Try.prog 45 #[.slice a n cap, .slice b lenb capb, .slice c lenc capc] w fun E w' => E = .returned (.int .u64 (enc z)) ∧ Below w.heap.size w w' := by
  obtain rfl := hO.1
  have kl : ∀ W, Below w.heap.size w W → Calls Try.prog 62 #[.agg #[.func (.func 57) #[] #[], .func (.func 58) #[] #[], .func (.func 59) #[] #[], .func (.func 60) #[] #[]], .slice a zs.length cap, .slice b lenb capb, .slice c lenc capc] W fun E w' => ∃ r : Int, E = .returned (.int .u64 r) ∧ (U r) ∧ toF r = z ∧ Below W.heap.size W w' := fun W hb =>
    hzz ▸ vnleft_is a cap zs b lenb capb cs c lenc capc ds cols W (hO.keep hb) hu hz (hc.keep hb) hcu hlb (hd.keep hb) hdu hlc
  have hsf := fun (a : Addr) (n : Nat) (w : World) => run_store Try.prog w a (.func (.func n) #[] #[]) .plain rfl
  have HK := Lib.hid kl
  clear hO hu hz hc hcu hd hdu kl hzz
  go_enter Try.func45, Try.ntmps45
  go_upto_region 2 with fail
  refine wp_gen (fun W => Below w.heap.size w W ∧ W.cell? ⟨w.heap.size, 0, none⟩ = some (.func (.func 57) #[] #[]) ∧ W.cell? ⟨w.heap.size, 1, none⟩ = some (.func (.func 58) #[] #[]) ∧ W.cell? ⟨w.heap.size, 2, none⟩ = some (.func (.func 59) #[] #[]) ∧ W.cell? ⟨w.heap.size, 3, none⟩ = some (.func (.func 60) #[] #[])) ⟨(Below.refl _ _).alloc (Nat.le_refl _) _, by simp [go_sem], by simp [go_sem], by simp [go_sem], by simp [go_sem]⟩ ?_
  rintro W1 ⟨hB, c0, c1, c2, c3⟩
  have HB := Lib.hid hB
  clear hB
  go_wp2_with (first
    | (go_at_call 62; (with_reducible refine (HK.out _ HB.out).mono ?_); rintro E w2 ⟨r, rfl, hrU, hr, hb⟩; have HB2 := Lib.hid (bthen HB.out hb); have HR := Lib.hid hr; clear hb hr)
    | (go_at_call 61; (with_reducible refine (sum_one r _ _ hrU (row_one (by simp [go_sem]))).mono ?_); rintro E w3 ⟨rfl, rfl⟩))
  go_ret
  exact ⟨by rw [HR.out]; rfl, HB2.out.alloc HB2.out.size _⟩
end Go.Proofs.Ytjcgakmhpblanaa
