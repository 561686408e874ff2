/-
  What pair.Sum comes to: a contract for the walk.
-/
import Derived.Test.YteleepblfipncaaPairPow
import Derived.OpenShut
namespace Go.Proofs.Yteleepblfipncaa
open Go.RowKit
set_option linter.unusedVariables false

/-- A slice of pairs that reads as zs. -/
def QRow (w : World) (v : Value) (zs : List (Int × Int)) : Prop :=
  (v = .slice none 0 0 ∧ zs = []) ∨ (∃ a cap, v = .slice (some a) 0 cap ∧ zs = []) ∨ ∃ (b off cap : Nat), v = .slice (some ⟨b, off, none⟩) zs.length cap ∧ zs.length ≤ cap ∧ cap ≤ maxLen ∧
    ∀ i, i < zs.length → w.cell? ⟨b, off + i * 2, none⟩ = some (.int .u64 (zs.getD i (0, 0)).1) ∧ w.cell? ⟨b, off + i * 2 + 1, none⟩ = some (.int .u64 (zs.getD i (0, 0)).2)
theorem QRow.keep {w w' : World} {v : Value} {zs : List (Int × Int)} (h : QRow w v zs) (hb : Below w.heap.size w w') : QRow w' v zs := by
  rcases h with h | h | ⟨b, off, cap, rfl, hc, hm, hcell⟩
  · exact Or.inl h
  · exact Or.inr (Or.inl h)
  · exact Or.inr (Or.inr ⟨b, off, cap, rfl, hc, hm, fun i hi => ⟨bkeep hb (hcell i hi).1, bkeep hb (hcell i hi).2⟩⟩)

def toQ (z : Int × Int) : F2 := ⟨toF z.1, toF z.2⟩
def qheads (zs : List (Int × Int)) (k : Nat) : List F2 := (zs.take k).map toQ
theorem qheads_zero (zs : List (Int × Int)) : qheads zs 0 = [] := by simp [qheads]
theorem qheads_succ (zs : List (Int × Int)) (k : Nat) (h : k < zs.length) : qheads zs (k + 1) = qheads zs k ++ [toQ (zs.getD k (0, 0))] := by
  unfold qheads
  rw [List.take_succ_eq_append_getElem h, List.map_append]
  simp [List.getD, h]
theorem qheads_all (zs : List (Int × Int)) (k : Nat) (h : zs.length ≤ k) : qheads zs k = zs.map toQ := by
  unfold qheads; rw [List.take_of_length_le h]
theorem qsum_snoc (zs : List (Int × Int)) (k : Nat) (h : k < zs.length) : qsum (qheads zs k) + toQ (zs.getD k (0, 0)) = qsum (qheads zs (k + 1)) := by
  rw [qheads_succ zs k h, qsum_append]; simp only [qsum]; rw [F2.add_zero]
theorem UU_getD {zs : List (Int × Int)} (h : ∀ n ∈ zs, U n.1 ∧ U n.2) (k : Nat) (hk : k < zs.length) : U (zs.getD k (0, 0)).1 ∧ U (zs.getD k (0, 0)).2 := by
  have : zs.getD k (0, 0) = zs[k] := by simp [List.getD, hk]
  rw [this]; exact h _ (List.getElem_mem hk)

/-- The loop of a sum over no pairs. -/
def SumNone (w : World) (g2 g3 : Nat) (i : Value) (W : World) : Prop := i = .int .i64 0 ∧ Below w.heap.size w W ∧ Var W g2 0 0 ∧ Var W g3 0 0
/-- The loop of a sum: how many are in, and what the sum's variable holds. -/
def SumHead (w : World) (zs : List (Int × Int)) (g2 g3 : Nat) (i : Value) (W : World) : Prop :=
  ∃ k : Nat, k ≤ zs.length ∧ i = .int .i64 k ∧ Below w.heap.size w W ∧ Var W g2 0 0 ∧ Var W g3 (enc (qsum (qheads zs k)).a) (enc (qsum (qheads zs k)).b)

set_option maxHeartbeats 1000000 in
theorem psum_none (v : Value) (hv : v = .slice none 0 0 ∨ ∃ a cap, v = .slice (some a) 0 cap) (w : World) : Calls Try.prog 38 #[v] w fun e w' => e = .returned (.agg #[.int .u64 0, .int .u64 0]) ∧ Below w.heap.size w w' := by
  rcases hv with rfl | ⟨a, cap, rfl⟩
  all_goals
    go_enter Try.func38, Try.ntmps38
    go_upto_region 3 with fail
    go_loopw [9] (SumNone w w.heap.size (w.heap.size + 1)) (fun _ _ => 0)
    case atStart => exact ⟨rfl, ((Below.refl _ _).alloc (Nat.le_refl _) _).alloc (by simp) _, (Var.new _ _ _ _).alloc _, by simpa using Var.new (w.alloc (.cells #[.int .u64 0, .int .u64 0] 24)) 0 0 24⟩
    case round =>
      obtain ⟨rfl, hB, h2, h3⟩ := hrel
      obtain ⟨c0, c1, f0, f1⟩ := h2
      obtain ⟨d0, d1, e0, e1⟩ := h3
      go_wp2
      exact bodyPost_ret (v := .agg #[.int .u64 0, .int .u64 0]) (by simp [results, Try.results38, go_sem, c0, c1]) rfl ⟨rfl, (hB.setCell (by simp) _).setCell (by simp) _⟩

set_option maxHeartbeats 1000000 in
theorem psum_q (v : Value) (zs : List (Int × Int)) (w : World) (hr : QRow w v zs) (hu : ∀ n ∈ zs, U n.1 ∧ U n.2) : Calls Try.prog 38 #[v] w fun e w' => e = .returned (.agg #[.int .u64 (enc (qsum (zs.map toQ)).a), .int .u64 (enc (qsum (zs.map toQ)).b)]) ∧ Below w.heap.size w w' := by
  have hr0 := hr
  rcases hr with ⟨rfl, rfl⟩ | ⟨ad, cap, rfl, rfl⟩ | ⟨b, off, cap, rfl, hc, hm, hcell⟩
  · exact psum_none _ (Or.inl rfl) w
  · exact psum_none _ (Or.inr ⟨ad, cap, rfl⟩) w
  · unfold maxLen at hm
    have HS := Lib.hid (qsum_snoc zs); have HA := Lib.hid (qheads_all zs); have HC := Lib.hid hcell; have HU := Lib.hid (UU_getD hu); have H0 := Lib.hid (qheads_zero zs)
    have HR := Lib.hid hr0
    clear hcell hu hr0
    generalize hzl : zs.length = len at *
    have HZ := Lib.hid hzl; clear hzl
    go_enter Try.func38, Try.ntmps38
    go_upto_region 3 with fail
    go_loopw [9] (SumHead w zs w.heap.size (w.heap.size + 1)) (fun i _ => len - (intOf i).toNat)
    case atStart => exact ⟨0, Nat.zero_le _, rfl, ((Below.refl _ _).alloc (Nat.le_refl _) _).alloc (by simp) _, (Var.new _ _ _ _).alloc _, by rw [H0.out, show enc (qsum []).a = 0 from rfl, show enc (qsum []).b = 0 from rfl]; simpa using Var.new (w.alloc (.cells #[.int .u64 0, .int .u64 0] 24)) 0 0 24⟩
    case round =>
      obtain ⟨k, hk, rfl, hB, h2, h3⟩ := hrel
      rw [HZ.out] at hk
      by_cases hlt : k < len
      · have g0 := bkeep hB (HC.out k hlt).1
        have g1 := bkeep hB (HC.out k hlt).2
        have gU := HU.out k hlt
        have e2 := HS.out k hlt
        have m1 := padd_q (enc (qsum (qheads zs k)).a) (enc (qsum (qheads zs k)).b) (zs.getD k (0, 0)).1 (zs.getD k (0, 0)).2 _ _ _ (rep_enc _) (rep_raw gU.1 gU.2) e2
        clear e2
        generalize (zs.getD k (0, 0)).1 = z0 at *
        generalize (zs.getD k (0, 0)).2 = z1 at *
        go_upto_region 5 with fail
        refine wp_gen (fun W => Below w.heap.size w W ∧ Var W w.heap.size 0 0 ∧ Var W (w.heap.size + 1) (enc (qsum (qheads zs k)).a) (enc (qsum (qheads zs k)).b) ∧ Var W wr.heap.size z0 z1) ⟨hB.alloc hB.size _, h2.alloc _, h3.alloc _, Var.new _ _ _ _⟩ ?_
        clear hB h2 h3 g0 g1
        rintro W ⟨hB, h2, ⟨d0, d1, e0, e1⟩, ⟨c0, c1, f0, f1⟩⟩
        go_upto_region 6 with ((go_at_call 58; ((with_reducible refine (m1 _).mono ?_); rintro e w1 ⟨rfl, hb⟩; replace e0 := bfree hb d0 e0; replace e1 := bfree hb d1 e1; replace d0 := bkeep hb d0; replace d1 := bkeep hb d1; replace h2 := h2.keep hb; replace hB := bthen hB hb; clear hb c0 c1 f0 f1)))
        refine wp_gen (fun W => Below w.heap.size w W ∧ Var W w.heap.size 0 0 ∧ Var W (w.heap.size + 1) (enc (qsum (qheads zs (k + 1))).a) (enc (qsum (qheads zs (k + 1))).b)) ⟨(hB.setCell (by simp) _).setCell (by simp) _, (h2.far (by omega) _ _).far (by omega) _ _, Var.set ⟨d0, d1, e0, e1⟩ _ _⟩ ?_
        clear hB h2 d0 d1 e0 e1
        rintro W2 ⟨hB, h2, h3⟩
        go_wp2
        go_roundw
        case rel => exact ⟨k + 1, by rw [HZ.out]; omega, by go_num, hB, h2, h3⟩
        case measure => simp [intOf]; omega
      · obtain ⟨c0, c1, f0, f1⟩ := h2
        obtain ⟨d0, d1, e0, e1⟩ := h3
        go_wp2
        exact bodyPost_ret (v := .agg #[.int .u64 (enc (qsum (qheads zs k)).a), .int .u64 (enc (qsum (qheads zs k)).b)]) (by simp [results, Try.results38, go_sem, c0, c1]) rfl ⟨by rw [HA.out k (by omega)], (hB.setCell (by simp) _).setCell (by simp) _⟩
end Go.Proofs.Yteleepblfipncaa
