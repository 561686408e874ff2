/-
  Two arrays of two pairs held against each other (== and != of [2]api.Pair).
-/
import Derived.Test.YthfkfgjhgicfeaaGreatDoorGRow
import Derived.ChangeKeysEq
namespace Go.Proofs.YthfkfgjhgicfeaaGreatDoor
open Go Go.RowKit
set_option linter.unusedVariables false
section
variable {P : Program}
/-- A struct of two integers held against another. -/
theorem run_two_eq (w : World) (d : Nat) {e : TypeId} {k : IntKind} {f0 f1 : Field} (hs : P.underlying e = some (.struct (P.fieldsOf e))) (hp : P.stoodInHeld e = false) (hl : (P.fieldsOf e).toList = [f0, f1])
    (n0 : f0.name ≠ "_") (n1 : f1.name ≠ "_") (o0 : f0.offset = 0) (o1 : f1.offset = 1) (u0 : P.underlying f0.type = some (.int k)) (u1 : P.underlying f1.type = some (.int k)) (a b a' b' : Int) :
    (Op.equalIn (d + 2) e (.agg #[.int k a, .int k b]) (.agg #[.int k a', .int k b'])).run P w = .ok (decide (a = a' ∧ b = b')) w := by
  rw [run_equalIn_struct w (d + 1) e _ _ hs hp, hl]
  have p0 : P.plainKey f0.type = true := by simp [Program.plainKey, u0]
  have p1 : P.plainKey f1.type = true := by simp [Program.plainKey, u1]
  simp only [Op.eqFields, n0, n1, ne_eq, not_false_eq_true, if_true, Sem.run_bind, o0, o1]
  rw [run_part_plain w p0 (v := .int k a) rfl, Result.andThen_ok, run_part_plain w p0 (v := .int k a') rfl, Result.andThen_ok, run_equalIn_int w d f0.type k k a a' u0, Result.andThen_ok]
  by_cases h : a = a'
  · subst h
    simp only [beq_self_eq_true, Bool.not_true, Bool.false_eq_true, if_false, true_and]
    rw [Sem.run_bind, run_part_plain w p1 (v := .int k b) rfl, Result.andThen_ok, Sem.run_bind, run_part_plain w p1 (v := .int k b') rfl, Result.andThen_ok, Sem.run_bind, run_equalIn_int w d f1.type k k b b' u1, Result.andThen_ok]
    by_cases h2 : b = b'
    · simp [h2]
    · simp [h2, beq_eq_false_iff_ne.2 h2]
  · simp [h, beq_eq_false_iff_ne.2 h]
theorem len_two {α : Type} : ∀ {l : List α}, l.length = 2 → ∃ a b, l = [a, b]
  | [a, b], _ => ⟨a, b, rfl⟩
theorem run_part_agg (w : World) {e : TypeId} {fs : Array Field} (hs : P.underlying e = some (.struct fs)) {i : TypeInfo} (hi : P.info? e = some i) (xs : Array Value) (off : Nat) :
    (Go.part e xs off).run P w = .ok (.agg (xs.extract off (off + P.cellsOf e))) w := by
  simp [Go.part, isAgg, run_underlying hs, run_sizeOf w hi]
end
/-- Two pairs of pairs, held against each other. -/
theorem quad_eq (a b c d a' b' c' d' : Int) (w : World) :
    (Op.equalIn 10000 32 (.agg #[.int .u64 a, .int .u64 b, .int .u64 c, .int .u64 d]) (.agg #[.int .u64 a', .int .u64 b', .int .u64 c', .int .u64 d'])).run Tryz.prog w
      = .ok (decide ((a = a' ∧ b = b') ∧ c = c' ∧ d = d')) w := by
  obtain ⟨i, hi⟩ : ∃ i, Tryz.prog.info? 31 = some i := Option.isSome_iff_exists.1 (by kernel_rfl)
  obtain ⟨f0, f1, hl⟩ := len_two (show (Tryz.prog.fieldsOf 31).toList.length = 2 by kernel_rfl)
  have hs : Tryz.prog.underlying 31 = some (.struct (Tryz.prog.fieldsOf 31)) := by kernel_rfl
  have hn : ((Tryz.prog.fieldsOf 31).toList.map fun f => f.name != "_") = [true, true] := by kernel_rfl
  have ho : ((Tryz.prog.fieldsOf 31).toList.map fun f => f.offset) = [0, 1] := by kernel_rfl
  have hu : ((Tryz.prog.fieldsOf 31).toList.map fun f => Tryz.prog.underlying f.type) = [some (.int .u64), some (.int .u64)] := by kernel_rfl
  have hc : Tryz.prog.cellsOf 31 = 2 := by kernel_rfl
  rw [hl] at hn ho hu
  simp only [List.map_cons, List.map_nil, List.cons.injEq, and_true, bne_iff_ne] at hn ho hu
  have he := fun (a b a' b' : Int) => run_two_eq (P := Tryz.prog) w 9997 (k := .u64) hs (by kernel_rfl) hl hn.1 hn.2 ho.1 ho.2 hu.1 hu.2 a b a' b'
  have run := run_equalIn_array (P := Tryz.prog) w 9999 (t := 32) (e := 31) (n := 2) #[.int .u64 a, .int .u64 b, .int .u64 c, .int .u64 d] #[.int .u64 a', .int .u64 b', .int .u64 c', .int .u64 d'] (by kernel_rfl) hi
  refine run.trans ?_
  rw [show List.range 2 = [0, 1] from rfl, hc]
  rw [Op.eqItems, Sem.run_bind, run_part_agg w hs hi, Result.andThen_ok, Sem.run_bind, run_part_agg w hs hi, Result.andThen_ok, Sem.run_bind, hc]
  refine (congrArg (fun r => Result.andThen r _) (he a b a' b')).trans ?_
  rw [Result.andThen_ok]
  by_cases h : a = a' ∧ b = b'
  · rw [decide_eq_true h]
    simp only [Bool.not_true, Bool.false_eq_true, if_false]
    rw [Op.eqItems, Sem.run_bind, run_part_agg w hs hi, Result.andThen_ok, Sem.run_bind, run_part_agg w hs hi, Result.andThen_ok, Sem.run_bind, hc]
    refine (congrArg (fun r => Result.andThen r _) (he c d c' d')).trans ?_
    rw [Result.andThen_ok]
    by_cases h2 : c = c' ∧ d = d'
    · simp [h, h2, Op.eqItems]
    · simp [h, h2]
  · simp [h]
end Go.Proofs.YthfkfgjhgicfeaaGreatDoor
