/-
  The builtin copy, of elements of one cell or of more, into a row that a call made itself. No function of the program is named.
-/
import Derived.Test.YtmgbdccfgbflnaaBut
import Derived.Laws.CopyOwn
namespace Go.Proofs.Ytmgbdccfgbflnaa
open Go Go.RowKit
set_option linter.unusedVariables false
set_option linter.unusedSimpArgs false

/-- What a row of cells is behind a copy of cs to its place o. -/
def cop (f : Nat → Value) (o : Nat) (cs : List Value) (j : Nat) : Value := if o ≤ j ∧ j < o + cs.length then cs.getD (j - o) undef else f j
theorem cop_nil (f : Nat → Value) (o j : Nat) : cop f o [] j = f j := if_neg (by simp only [List.length_nil]; omega)
theorem run_storeCells_arr (P : Program) (g N o : Nat) : ∀ (vs : List Value) (i : Nat) (f : Nat → Value) (w : World), Arr w g N f → o + i + vs.length ≤ N → (∀ v ∈ vs, v.oneCell' = true) →
    ∃ w', (storeCells ⟨g, o, none⟩ vs i).run P w = .ok () w' ∧ But g w w' ∧ Arr w' g N (cop f (o + i) vs)
  | [], i, f, w, hA, _, _ => ⟨w, rfl, But.refl _ _, hA.same fun j _ => (cop_nil f _ j).symm⟩
  | v :: rest, i, f, w, hA, hl, h1 => by
    have hi : o + i < N := by simp at hl; omega
    have hadd : (⟨g, o, none⟩ : Addr).add i = ⟨g, o + i, none⟩ := by unfold Addr.add; split <;> simp_all
    obtain ⟨c, e⟩ := hA (o + i) hi
    have hst : (store ((⟨g, o, none⟩ : Addr).add i) v).run P w = .ok () (w.setCell ⟨g, o + i, none⟩ v) := by
      rw [hadd, run_store P w _ v _ (h1 v (by simp)), c]
      simp [e]
    obtain ⟨w', hr, hb, hA'⟩ := run_storeCells_arr P g N o rest (i + 1) _ _ (hA.set (o + i) v hi) (by simp at hl ⊢; omega) (fun x hx => h1 x (by simp [hx]))
    refine ⟨w', by simp only [storeCells, Sem.run_bind, hst, Result.andThen_ok, hr], ((But.refl g w).setCell (p := ⟨g, o + i, none⟩) (Or.inl rfl) v).trans hb, hA'.same fun j hj => ?_⟩
    unfold cop
    simp only [List.length_cons]
    by_cases h2 : j = o + i
    · subst h2
      rw [if_neg (by omega)]; simp
    · by_cases h3 : o + (i + 1) ≤ j ∧ j < o + (i + 1) + rest.length
      · rw [if_pos h3, if_pos (by omega), show j - (o + i) = (j - (o + (i + 1))) + 1 by omega]; rfl
      · rw [if_neg h3, if_neg h2, if_neg (by omega)]
/-- copy: as many elements as the shorter of both has. -/
theorem run_copy_arr {P : Program} (w : World) (dT sT ty elem : TypeId) (g N o dLen dCap sLen sCap size n : Nat) (sp : Option Addr) (cs : List Value) (f : Nat → Value)
    (hu : P.underlying dT = some (.slice elem)) (hs : (P.info? elem).map (·.size) = some size) (hA : Arr w g N f) (hn : Nat.min sLen dLen = n) (hcs : cs.length = n * size)
    (hsrc : 0 < n → ∃ a, sp = some a ∧ ∀ j v, cs[j]? = some v → w.cell? (a.add j) = some v) (hsrc0 : n = 0 → cs = []) (hfit : o + cs.length ≤ N) (h1 : ∀ v ∈ cs, v.oneCell' = true) :
    ∃ w', (Builtin.copy_ #[dT, sT] ty #[.slice (some ⟨g, o, none⟩) dLen dCap, .slice sp sLen sCap]).run P w = .ok (goInt n) w' ∧ But g w w' ∧ Arr w' g N (cop f o cs) := by
  obtain ⟨w', hst, hb, hA'⟩ := run_storeCells_arr P g N o cs 0 f w hA (by simpa using hfit) h1
  refine ⟨w', ?_, hb, by simpa using hA'⟩
  cases hq : P.info? elem with
  | none => simp [hq] at hs
  | some i =>
    have hi : i.size = size := by simpa [hq] using hs
    rcases Nat.eq_zero_or_pos n with h0 | h0
    · have hc := hsrc0 h0
      subst hc
      simp only [storeCells] at hst
      cases sp with
      | none => simp [Builtin.copy_, run_underlying hu, Builtin.lenOf, Builtin.firstCells, sizeOf, typeInfo, hq, hi, hn, h0, storeCells]; exact Result.ok.inj hst |>.2
      | some a => 
        have hl := run_loadCells_list (P := P) w a [] (by simp)
        simp only [List.length_nil] at hl
        simp [Builtin.copy_, run_underlying hu, Builtin.lenOf, Builtin.firstCells, sizeOf, typeInfo, hq, hi, hn, h0, storeCells, hl]; exact Result.ok.inj hst |>.2
    · obtain ⟨a, rfl, hc⟩ := hsrc h0
      have hl := run_loadCells_list (P := P) w a cs hc
      rw [hcs] at hl
      simp [Builtin.copy_, run_underlying hu, Builtin.lenOf, Builtin.firstCells, sizeOf, typeInfo, hq, hi, hn, hl, hst]
theorem wp_copy_arr {P : Program} {w : World} {o : Oper} {a : Act} {K : Act → World → Prop} {Q : Exit → Act → World → Prop} (d s : Operand) (dT sT : TypeId)
    (ho : o.op = .call { callee := .builtin .copy, args := #[d, s], argTypes := #[dT, sT] }) (elem : TypeId) (hu : P.underlying dT = some (.slice elem)) (size : Nat) (hs : (P.info? elem).map (·.size) = some size)
    (g N off dLen dCap sLen sCap : Nat) (sp : Option Addr) (hd : a.eval d = .slice (some ⟨g, off, none⟩) dLen dCap) (hse : a.eval s = .slice sp sLen sCap)
    (n : Nat) (hn : Nat.min sLen dLen = n) (cs : List Value) (hcs : cs.length = n * size) (f : Nat → Value) (hA : Arr w g N f)
    (hsrc : 0 < n → ∃ a, sp = some a ∧ ∀ j v, cs[j]? = some v → w.cell? (a.add j) = some v) (hsrc0 : n = 0 → cs = []) (hfit : off + cs.length ≤ N) (h1 : ∀ v ∈ cs, v.oneCell' = true)
    (h : ∀ w', Hid (But g w w') → Hid (Arr w' g N (cop f off cs)) → K (a.put o.dst (goInt n)) w') :
    Oper.wp P o a w K Q := by
  obtain ⟨w', hrun, hb, hA'⟩ := run_copy_arr (P := P) w dT sT o.type elem g N off dLen dCap sLen sCap size n sp cs f hu hs hA hn hcs hsrc hsrc0 hfit h1
  unfold Oper.wp
  simp [execOp, ho, resolve, invoke, builtin, hd, hse, hrun, Result.andThen]
  exact h w' hb hA'
theorem wpList_copy_arr {P : Program} {w : World} {ops : Array Oper} {rest : List Oper} {o : Oper} {a : Act} {Q : Exit → Act → World → Prop} (hgd : o.guard = none) (d s : Operand) (dT sT : TypeId)
    (ho : o.op = .call { callee := .builtin .copy, args := #[d, s], argTypes := #[dT, sT] }) (elem : TypeId) (hu : P.underlying dT = some (.slice elem)) (size : Nat) (hs : (P.info? elem).map (·.size) = some size)
    (g N off dLen dCap sLen sCap : Nat) (sp : Option Addr) (hd : a.eval d = .slice (some ⟨g, off, none⟩) dLen dCap) (hse : a.eval s = .slice sp sLen sCap)
    (n : Nat) (hn : Nat.min sLen dLen = n) (cs : List Value) (hcs : cs.length = n * size) (f : Nat → Value) (hA : Arr w g N f)
    (hsrc : 0 < n → ∃ a, sp = some a ∧ ∀ j v, cs[j]? = some v → w.cell? (a.add j) = some v) (hsrc0 : n = 0 → cs = []) (hfit : off + cs.length ≤ N) (h1 : ∀ v ∈ cs, v.oneCell' = true)
    (h : ∀ w', Hid (But g w w') → Hid (Arr w' g N (cop f off cs)) → wpList P ops Q rest (a.put o.dst (goInt n)) w') :
    wpList P ops Q (o :: rest) a w := by
  refine wpList_plain hgd fun K hK => ?_
  exact wp_copy_arr d s dT sT ho elem hu size hs g N off dLen dCap sLen sCap sp hd hse n hn cs hcs f hA hsrc hsrc0 hfit h1 fun w' hb hA' => hK _ _ (h w' hb hA')
end Go.Proofs.Ytmgbdccfgbflnaa
