/-
  What prime.Sum and prime.Prod come to, as the field's: contracts for the walk.
-/
import Derived.Test.YteleepblfipncaaPow
import Derived.OwnWalk
import Derived.Below
import Derived.OpenShut
import Derived.Laws.OwnMore
namespace Go.Proofs.Yteleepblfipncaa
open Go.RowKit
set_option linter.unusedVariables false

def fsum : List F → F
  | [] => 0
  | x :: l => x + fsum l
def fprod : List F → F
  | [] => 1
  | x :: l => x * fprod l
theorem fsum_append (l m : List F) : fsum (l ++ m) = fsum l + fsum m := by
  induction l with
  | nil => simp only [List.nil_append, fsum]; grind
  | cons x l ih => simp only [List.cons_append, fsum, ih]; grind
theorem fprod_append (l m : List F) : fprod (l ++ m) = fprod l * fprod m := by
  induction l with
  | nil => simp only [List.nil_append, fprod]; grind
  | cons x l ih => simp only [List.cons_append, fprod, ih]; grind
theorem fsum_reverse (l : List F) : fsum l.reverse = fsum l := by
  induction l with
  | nil => rfl
  | cons x l ih => rw [List.reverse_cons, fsum_append, ih]; simp only [fsum]; grind
theorem fprod_reverse (l : List F) : fprod l.reverse = fprod l := by
  induction l with
  | nil => rfl
  | cons x l ih => rw [List.reverse_cons, fprod_append, ih]; simp only [fprod]; grind

/-- The first k numbers of a row, in the field. -/
def heads (zs : List Int) (k : Nat) : List F := (zs.take k).map toF
theorem heads_zero (zs : List Int) : heads zs 0 = [] := by simp [heads]
theorem heads_succ (zs : List Int) (k : Nat) (h : k < zs.length) : heads zs (k + 1) = heads zs k ++ [toF (zs.getD k 0)] := by
  unfold heads
  rw [List.take_succ_eq_append_getElem h, List.map_append]
  simp [List.getD, h]
theorem heads_all (zs : List Int) (k : Nat) (h : zs.length ≤ k) : heads zs k = zs.map toF := by
  unfold heads; rw [List.take_of_length_le h]

/-- A slice of numbers that reads as zs. -/
def Row (w : World) (v : Value) (zs : List Int) : Prop :=
  (v = .slice none 0 0 ∧ zs = []) ∨ (∃ a cap, v = .slice (some a) 0 cap ∧ zs = []) ∨ ∃ (b off cap : Nat), v = .slice (some ⟨b, off, none⟩) zs.length cap ∧ zs.length ≤ cap ∧ cap ≤ maxLen ∧ ∀ i, i < zs.length → w.cell? ⟨b, off + i, none⟩ = some (.int .u64 (zs.getD i 0))

theorem Row.below {w w' : World} {v : Value} {zs : List Int} (h : Row w v zs) (hb : Below w.heap.size w w') : Row w' v zs := by
  rcases h with h | h | ⟨b, off, cap, rfl, hc, hm, hcell⟩
  · exact Or.inl h
  · exact Or.inr (Or.inl h)
  · exact Or.inr (Or.inr ⟨b, off, cap, rfl, hc, hm, fun i hi => (hb.cell (World.block_lt_of_cell? w _ (hcell i hi))).trans (hcell i hi)⟩)

/-- What 'open_ints' gives of a slice that came in is such a slice. -/
theorem Row.came {w : World} {a : Option Addr} {len cap : Nat} {zs : List Int}
    (h : (a = none ∧ len = 0 ∧ cap = 0 ∧ zs = []) ∨ ∃ x, a = some x ∧ len ≤ cap ∧ cap ≤ maxLen ∧ zs.length = cap ∧ (∀ i, i < zs.length → w.cell? (x.add i) = some (.int .u64 (zs.getD i 0))) ∧ ∀ n ∈ zs, (Lit.int .u64 n).wf = true) :
    Row w (.slice a len cap) (zs.take len) ∧ (zs.take len).length = len ∧ ∀ n ∈ zs.take len, (Lit.int .u64 n).wf = true := by
  rcases h with ⟨rfl, rfl, rfl, rfl⟩ | ⟨x, rfl, hl, hm, hz, hcell, hwf⟩
  · exact ⟨Or.inl ⟨rfl, rfl⟩, rfl, by simp⟩
  · have hlen : (zs.take len).length = len := by rw [List.length_take]; omega
    refine ⟨?_, hlen, fun n hn => hwf n (List.mem_of_mem_take hn)⟩
    by_cases h0 : len = 0
    · subst h0; exact Or.inr (Or.inl ⟨x, cap, rfl, by simp⟩)
    · obtain ⟨b, off, rfl, hc⟩ := Go.ints_at hcell (by omega)
      refine Or.inr (Or.inr ⟨b, off, cap, by rw [hlen], by omega, hm, ?_⟩)
      intro i hi
      rw [hlen] at hi
      rw [hc i (by omega)]
      congr 2
      simp [List.getD, hi]

/-- A row of numbers that the call itself made is such a slice. -/
theorem Row.own {w : World} {base : Nat} {e : TypeId} {v : Value} {zs : List Int} (h : w.ownsRow base e 1 v zs.length (zs.map (Value.int .u64))) : Row w v zs := by
  rcases h.2 with ⟨rfl, h0⟩ | ⟨g, cap, cur, rfl, hb, hg, hn, hcap, hsz, ht⟩
  · exact Or.inl ⟨rfl, List.length_eq_zero_iff.mp h0⟩
  · refine Or.inr (Or.inr ⟨g, 0, cap, rfl, hn, hcap, ?_⟩)
    intro i hi
    have := h.cellAt i (by omega)
    rw [Nat.zero_add, this]
    simp [List.getD, hi]

theorem U_getD {zs : List Int} (h : ∀ n ∈ zs, U n) (k : Nat) (hk : k < zs.length) : U (zs.getD k 0) := by
  have : zs.getD k 0 = zs[k] := by simp [List.getD, hk]
  rw [this]; exact h _ (List.getElem_mem hk)

set_option maxHeartbeats 1000000 in
theorem sum_any (v : Value) (zs : List Int) (w : World) (hr : Row w v zs) (hu : ∀ n ∈ zs, U n) : Calls Try.prog 52 #[v] w fun e w' => e = .returned (.int .u64 (enc (fsum (zs.map toF)))) ∧ w = w' := by
  rcases hr with ⟨rfl, rfl⟩ | ⟨ad, cap, rfl, rfl⟩ | ⟨b, off, cap, rfl, hc, hm, hcell⟩
  · clear hu
    go_enter Try.func52, Try.ntmps52
    go_wp2
    go_loop [8, 3] (fun i o => i = .int .i64 0 ∧ o = .int .u64 0) (fun _ _ => 0)
    case atStart => exact ⟨rfl, rfl⟩
    case round =>
      obtain ⟨rfl, rfl⟩ := hrel
      go_wp2
      go_ret
      exact ⟨rfl, rfl⟩
  · clear hu
    go_enter Try.func52, Try.ntmps52
    go_wp2
    go_loop [8, 3] (fun i o => i = .int .i64 0 ∧ o = .int .u64 0) (fun _ _ => 0)
    case atStart => exact ⟨rfl, rfl⟩
    case round =>
      obtain ⟨rfl, rfl⟩ := hrel
      go_wp2
      go_ret
      exact ⟨rfl, rfl⟩
  · unfold maxLen at hm
    have hu' := fun k => U_getD hu k
    have hs := fun k => heads_succ zs k
    have ha := fun k => heads_all zs k
    have h00 : fsum (heads zs 0) = 0 := by rw [heads_zero]; rfl
    have HS := Lib.hid hs; have HA := Lib.hid ha; have HC := Lib.hid hcell; have HU := Lib.hid hu'; have H0 := Lib.hid h00
    clear hs ha hcell hu hu' h00
    generalize hzl : zs.length = len at *
    have HZ := Lib.hid hzl; clear hzl
    go_enter Try.func52, Try.ntmps52
    go_wp2
    go_loop [8, 3] (fun i o => ∃ k : Nat, k ≤ len ∧ i = .int .i64 k ∧ o = .int .u64 (enc (fsum (heads zs k)))) (fun i _ => len - (intOf i).toNat)
    case atStart => exact ⟨0, Nat.zero_le _, rfl, by rw [H0.out]; rfl⟩
    case round =>
      obtain ⟨k, hk, rfl, rfl⟩ := hrel
      by_cases hlt : k < len
      · have g := HC.out k hlt
        have gU := HU.out k hlt
        have m1 := fun w => add_any (enc (fsum (heads zs k))) (zs.getD k 0) (enc_U _) gU w
        have e2 := HS.out k hlt
        have E2 : Hid (fsum (heads zs (k + 1)) = fsum (heads zs k) + toF (zs.getD k 0)) := Lib.hid (by rw [e2, fsum_append]; simp only [fsum]; grind)
        clear e2
        simp only [toF_enc] at m1
        generalize zs.getD k 0 = z at *
        go_wp2_with (go_at_call 53; ((with_reducible refine (m1 _).mono ?_); rintro e w' ⟨rfl, rfl⟩))
        go_round
        case rel => exact ⟨k + 1, by omega, by go_num, by rw [E2.out]⟩
        case measure => simp [intOf]; omega
      · go_wp2
        go_ret
        exact ⟨ret_int (by rw [HA.out k (by omega)]), rfl⟩

set_option maxHeartbeats 1000000 in
theorem prod_any (v : Value) (zs : List Int) (w : World) (hr : Row w v zs) (hu : ∀ n ∈ zs, U n) : Calls Try.prog 54 #[v] w fun e w' => e = .returned (.int .u64 (enc (fprod (zs.map toF)))) ∧ w = w' := by
  rcases hr with ⟨rfl, rfl⟩ | ⟨ad, cap, rfl, rfl⟩ | ⟨b, off, cap, rfl, hc, hm, hcell⟩
  · clear hu
    go_enter Try.func54, Try.ntmps54
    go_wp2
    go_loop [8, 3] (fun i o => i = .int .i64 0 ∧ o = .int .u64 1) (fun _ _ => 0)
    case atStart => exact ⟨rfl, rfl⟩
    case round =>
      obtain ⟨rfl, rfl⟩ := hrel
      go_wp2
      go_ret
      exact ⟨rfl, rfl⟩
  · clear hu
    go_enter Try.func54, Try.ntmps54
    go_wp2
    go_loop [8, 3] (fun i o => i = .int .i64 0 ∧ o = .int .u64 1) (fun _ _ => 0)
    case atStart => exact ⟨rfl, rfl⟩
    case round =>
      obtain ⟨rfl, rfl⟩ := hrel
      go_wp2
      go_ret
      exact ⟨rfl, rfl⟩
  · unfold maxLen at hm
    have hu' := fun k => U_getD hu k
    have hs := fun k => heads_succ zs k
    have ha := fun k => heads_all zs k
    have h00 : fprod (heads zs 0) = 1 := by rw [heads_zero]; rfl
    have HS := Lib.hid hs; have HA := Lib.hid ha; have HC := Lib.hid hcell; have HU := Lib.hid hu'; have H0 := Lib.hid h00
    clear hs ha hcell hu hu' h00
    generalize hzl : zs.length = len at *
    have HZ := Lib.hid hzl; clear hzl
    go_enter Try.func54, Try.ntmps54
    go_wp2
    go_loop [8, 3] (fun i o => ∃ k : Nat, k ≤ len ∧ i = .int .i64 k ∧ o = .int .u64 (enc (fprod (heads zs k)))) (fun i _ => len - (intOf i).toNat)
    case atStart => exact ⟨0, Nat.zero_le _, rfl, by rw [H0.out]; rfl⟩
    case round =>
      obtain ⟨k, hk, rfl, rfl⟩ := hrel
      by_cases hlt : k < len
      · have g := HC.out k hlt
        have gU := HU.out k hlt
        have m1 := fun w => mul_any (enc (fprod (heads zs k))) (zs.getD k 0) (enc_U _) gU w
        have e2 := HS.out k hlt
        have E2 : Hid (fprod (heads zs (k + 1)) = fprod (heads zs k) * toF (zs.getD k 0)) := Lib.hid (by rw [e2, fprod_append]; simp only [fprod]; grind)
        clear e2
        simp only [toF_enc] at m1
        generalize zs.getD k 0 = z at *
        go_wp2_with (go_at_call 37; ((with_reducible refine (m1 _).mono ?_); rintro e w' ⟨rfl, rfl⟩))
        go_round
        case rel => exact ⟨k + 1, by omega, by go_num, by rw [E2.out]⟩
        case measure => simp [intOf]; omega
      · go_wp2
        go_ret
        exact ⟨ret_int (by rw [HA.out k (by omega)]), rfl⟩
end Go.Proofs.Yteleepblfipncaa
