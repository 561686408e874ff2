/-
  copy of a text into a row, as much as there is room for; clear of a piece of a row. No function of the program is named.
-/
import Derived.Test.YtajjfonodfncmaaDoorRow2
import Derived.Test.YtajjfonodfncmaaDoorSumM
import Derived.Lib.SliceRun
namespace Go.Proofs.YtajjfonodfncmaaDoor
open Go Go.RowKit
set_option linter.unusedVariables false

section
variable {P : Program}
theorem sizeOf_run {e : TypeId} {n : Nat} (hz : (P.info? e).map (·.size) = some n) (w : World) : (Go.sizeOf e).run P w = .ok n w := by
  cases hq : P.info? e with
  | none => simp [hq] at hz
  | some i =>
    have : i.size = n := by simpa [hq] using hz
    simp [Go.sizeOf, typeInfo, hq, this]
theorem strCs_one (t : ByteArray) (m : Nat) : ∀ v ∈ (strCs t).take m, v.oneCell' = true := by
  intro v hv
  have := List.mem_of_mem_take hv
  unfold strCs at this
  obtain ⟨x, _, rfl⟩ := List.mem_map.1 this
  rfl
theorem run_copy_strN (w : World) (dT sT ty elem : TypeId) (g N o dLen dCap m : Nat) (t : ByteArray) (f : Nat → Value)
    (hu : P.underlying dT = some (.slice elem)) (hz : (P.info? elem).map (·.size) = some 1) (hA : Arr w g N f) (hm : Nat.min t.size dLen = m) (hfit : o + m ≤ N) :
    ∃ w', (Builtin.copy_ #[dT, sT] ty #[.slice (some ⟨g, o, none⟩) dLen dCap, .string t]).run P w = .ok (goInt m) w' ∧ But g w w' ∧ Arr w' g N (cop f o ((strCs t).take m)) := by
  have hl : ((strCs t).take m).length = m := by rw [List.length_take, strCs_len]; have := Nat.min_le_left t.size dLen; rw [← hm]; exact Nat.min_eq_left this
  obtain ⟨w', hr, hb, hA'⟩ := run_storeCells_arr P g N o ((strCs t).take m) 0 f w hA (by rw [hl]; simpa using hfit) (strCs_one t m)
  refine ⟨w', ?_, hb, by simpa using hA'⟩
  have hzz := sizeOf_run (P := P) hz
  simp [Builtin.copy_, run_underlying hu, Builtin.lenOf, Builtin.firstCells, hzz, hm]
  unfold strCs at hr
  rw [hr]
  rfl
theorem wpList_copy_strN {ops : Array Oper} {rest : List Oper} {o : Oper} {a : Act} {w : World} {Q : Exit → Act → World → Prop} (hgd : o.guard = none) (d x : Operand) (dT sT : TypeId)
    (hop : o.op = Op.call { callee := Callee.builtin Builtin.copy, args := #[d, x], argTypes := #[dT, sT] }) (elem : TypeId) (hu : P.underlying dT = some (.slice elem)) (hz : (P.info? elem).map (·.size) = some 1)
    (g N off dLen dCap m : Nat) (hd : a.eval d = .slice (some ⟨g, off, none⟩) dLen dCap) (t : ByteArray) (hx : a.eval x = .string t) (f : Nat → Value) (hA : Arr w g N f) (hm : Nat.min t.size dLen = m) (hfit : off + m ≤ N)
    (h : ∀ w', Hid (But g w w') → Hid (Arr w' g N (cop f off ((strCs t).take m))) → wpList P ops Q rest (a.put o.dst (goInt m)) w') : wpList P ops Q (o :: rest) a w :=
  wpList_plain hgd fun K hK => by
    obtain ⟨w', hr, hb, hA'⟩ := run_copy_strN (P := P) w dT sT o.type elem g N off dLen dCap m t f hu hz hA hm hfit
    unfold Oper.wp
    simp [execOp, hop, resolve, invoke, builtin, hd, hx, hr, Result.andThen]
    exact hK _ _ (h w' hb hA')
theorem run_clear_arr (w : World) (t ty e : TypeId) (z : Value) (g N o n c : Nat) (f : Nat → Value) (hu : P.underlying t = some (.slice e)) (hv : (P.info? e).bind (·.zero) = some z) (hz : z.cells = #[z]) (h1 : z.oneCell' = true) (hA : Arr w g N f) (hfit : o + n ≤ N) :
    ∃ w', (Builtin.clear_ #[t] ty #[.slice (some ⟨g, o, none⟩) n c]).run P w = .ok (.tuple #[]) w' ∧ But g w w' ∧ Arr w' g N (cop f o (List.replicate n z)) := by
  rcases Nat.eq_zero_or_pos n with rfl | hn
  · exact ⟨w, by simp [Builtin.clear_, run_underlying hu], But.refl _ _, hA.same fun j _ => (cop_nil f o j).symm⟩
  · refine ⟨_, Go.Lib.run_clear_slice w t e ty z hu (fun w => run_zeroA e z hv) hz h1 g o n c hn (fun j hj => by rw [(hA (o + j) (by omega)).1]; rfl) (fun j hj => (hA (o + j) (by omega)).2), ?_, hA.setCells _ _ (by simpa using hfit)⟩
    have : ∀ (vs : List Value) (o : Nat) (W : World), But g w W → But g w (W.setCells g o vs) := by
      intro vs
      induction vs with
      | nil => intro _ _ h; exact h
      | cons v r ih => intro o W h; exact ih (o + 1) _ (h.setCell (p := ⟨g, o, none⟩) (Or.inl rfl) v)
    exact this _ _ _ (But.refl _ _)
theorem But.cells {g : Nat} {w : World} : ∀ (vs : List Value) (o : Nat) (W : World), But g w W → But g w (W.setCells g o vs)
  | [], _, _, h => h
  | v :: r, o, W, h => But.cells r (o + 1) _ (h.setCell (p := ⟨g, o, none⟩) (Or.inl rfl) v)
theorem wpList_clear_arr {ops : Array Oper} {rest : List Oper} {o : Oper} {a : Act} {w : World} {Q : Exit → Act → World → Prop} (hgd : o.guard = none) (d : Operand) (t : TypeId)
    (hop : o.op = Op.call { callee := Callee.builtin Builtin.clear, args := #[d], argTypes := #[t] }) (e : TypeId) (z : Value) (hu : P.underlying t = some (.slice e)) (hv : (P.info? e).bind (·.zero) = some z) (hz : z.cells = #[z]) (h1 : z.oneCell' = true)
    (g N off n c : Nat) (hd : a.eval d = .slice (some ⟨g, off, none⟩) n c) (f : Nat → Value) (hA : Arr w g N f) (hfit : off + n ≤ N)
    (h : ∀ w', Hid (But g w w') → Hid (Arr w' g N (cop f off (List.replicate n z))) → wpList P ops Q rest (a.put o.dst (.tuple #[])) w') : wpList P ops Q (o :: rest) a w :=
  wpList_plain hgd fun K hK => by
    obtain ⟨w', hr, hb, hA'⟩ := run_clear_arr (P := P) w t o.type e z g N off n c f hu hv hz h1 hA hfit
    unfold Oper.wp
    simp [execOp, hop, resolve, invoke, builtin, hd, hr, Result.andThen]
    exact hK _ _ (h w' hb hA')
end
end Go.Proofs.YtajjfonodfncmaaDoor
