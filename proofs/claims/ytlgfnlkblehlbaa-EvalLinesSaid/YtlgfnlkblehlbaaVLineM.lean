/-
  Along a line: what comes through the values is what is left: plain. A row put together, as a polynomial; a region with one call that tells one.
-/
import Derived.Test.YtlgfnlkblehlbaaVAw
import Derived.Test.YtlgfnlkblehlbaaPolyLemT
import Derived.Test.YtlgfnlkblehlbaaAppOp
namespace Go.Proofs.Ytlgfnlkblehlbaa
open Go Go.RowKit
set_option linter.unusedVariables false

abbrev lnX (t : Nat) : F2 := lift (toF (t : Int))
def lnZ (q0 q1 q2 q3 : List (Int × Int)) (zs : List Opn) (t : Nat) : F2 := evB pairA (fun i => rowQ q0 i + lnX t * rowQ q1 i) (fun i => rowQ q2 i + lnX t * rowQ q3 i) zs
theorem ln_enc {t : Nat} (h : t ≤ 1000) : enc (lnX t).a = (t : Int) := by
  show enc (toF (t : Int)) = _
  rw [enc_toF _ (by omega)]
  omega
theorem ln_apart {d : Nat} (hd : d ≤ 4) : Apart (mk (d + 1) lnX) := by
  intro i j hi hj h
  rw [mk_len] at hi
  rw [mk_at _ _ _ hi, mk_at _ _ _ (by omega)] at h
  have h2 := congrArg (fun x : F2 => enc x.a) h
  simp only [ln_enc (show i ≤ 1000 by omega), ln_enc (show j ≤ 1000 by omega)] at h2
  omega
theorem ln_key (q0 q1 q2 q3 : List (Int × Int)) {cols : Int} {zs : List Opn} {d : Nat} (hp : ∀ o ∈ zs, 0 ≤ o.2) (h : checkB zs cols true = (d, 0)) :
    d ≤ 4 ∧ thrB (mk (d + 1) lnX) (mk (d + 1) (lnZ q0 q1 q2 q3 zs)) = true ∧ atP (thrL (mk (d + 1) lnX) (mk (d + 1) (lnZ q0 q1 q2 q3 zs))) (lnX (d + 1)) = lnZ q0 q1 q2 q3 zs (d + 1) ∧ (thrL (mk (d + 1) lnX) (mk (d + 1) (lnZ q0 q1 q2 q3 zs))).length ≤ d + 1 := by
  have hd : d ≤ 4 := (checkB_ok h).2.2.2.2.1
  have ha := ln_apart hd
  have hl : (mk (d + 1) lnX).length = (mk (d + 1) (lnZ q0 q1 q2 q3 zs)).length := by rw [mk_len, mk_len]
  refine ⟨hd, ha.yes hl, ?_, by have := ha.len hl; rw [mk_len] at this; exact this⟩
  obtain ⟨c, hc, hx⟩ := evB_lines (rowQ q0) (rowQ q1) (rowQ q2) (rowQ q3) hp h
  rw [ha.thrL hl, atP_pl (lgr_upto _ _ _ _ (Nat.le_refl _))]
  have hlen : (mk (d + 1) lnX).length = d + 1 := mk_len _ _
  have key := fun i => through_one (n := (mk (d + 1) lnX).length) (lgr_upto _ (cq (mk (d + 1) lnX)) (cq (mk (d + 1) (lnZ q0 q1 q2 q3 zs))) _ (Nat.le_refl _)) (hlen.symm ▸ hc) (cq (mk (d + 1) lnX)) ha (fun j hj => by
    rw [lgr_eval _ _ _ ha j hj]
    rw [hlen] at hj ⊢
    rw [mk_at _ _ _ hj, mk_at _ _ _ hj]
    exact hx (lnX j)) i
  rw [funext key, hlen]
  exact (hx (lnX (d + 1))).symm
/-- A row of pairs that a call put together, as a polynomial; its first ones, too. -/
theorem own_isP {W : World} {B m : Nat} {e : TypeId} {v : Value} {f : Nat → F2} (h : W.ownsRow B e 2 v m (cellsK (fun j => stQ (f j)) m)) : ∃ a c, v = .slice a m c ∧ m ≤ c ∧ c ≤ maxLen ∧ (∀ j, 0 < j → j ≤ m → IsP W (.slice a j c) (mk j f)) ∧ QRowA W a m ((List.range m).map fun j => (enc (f j).a, enc (f j).b)) := by
  rcases id h.2 with ⟨hv, h0⟩ | ⟨g, cap, cur, hv, hb, hg, hn, hcap, hsz, ht⟩
  · subst h0
    exact ⟨none, 0, hv, Nat.le_refl _, by unfold maxLen; omega, fun j h1 h2 => by omega, ⟨by simp, by unfold maxLen; omega, fun k hk => by omega⟩⟩
  · have hc : ∀ k, k < m → W.cell? ⟨g, k * 2, none⟩ = some (.int .u64 (enc (f k).a)) ∧ W.cell? ⟨g, k * 2 + 1, none⟩ = some (.int .u64 (enc (f k).b)) := fun k hk => by
      subst hv
      have hF : ∀ j, ((fun j => stQ (f j)) j).length = 2 := fun _ => rfl
      constructor
      · have h0 := h.cellAt (k * 2) (by omega)
        have h1 := cellsK_at hF (k := m) (j := k) (i := 0) hk (by decide)
        rw [Nat.add_zero] at h1
        rw [h0, h1]
        rfl
      · have h0 := h.cellAt (k * 2 + 1) (by omega)
        have h1 := cellsK_at hF (k := m) (j := k) (i := 1) hk (by decide)
        rw [h0, h1]
        rfl
    refine ⟨some ⟨g, 0, none⟩, cap, hv, hn, hcap, fun j h1 h2 => ?_, ⟨by simp, by omega, fun k hk => ⟨g, 0, rfl, ?_, ?_⟩⟩⟩
    · refine Or.inr (Or.inr ⟨g, 0, cap, by rw [encL_len, mk_len], by rw [encL_len, mk_len]; omega, hcap, fun i hi => ?_⟩)
      rw [encL_len, mk_len] at hi
      rw [encL_at, mk_at _ _ _ hi, Nat.zero_add]
      exact hc i (by omega)
    · rw [Nat.zero_add, (hc k hk).1, range_getD _ _ _ _ hk]
    · rw [Nat.zero_add, (hc k hk).2, range_getD _ _ _ _ hk]
/-- A region with one call that tells a polynomial and that there is one. -/
structure CallT (W0 : World) (l : List F2) (T S simple : List Nat) (val : Nat → Value) (D : Nat → Bool) (σ : Nat → Value) (W : World) : Prop where
  bel : Below W0.heap.size W0 W
  tp : ∀ d, d ∈ T → D d = true → ∃ v, σ d = .tuple #[v, .bool true] ∧ IsP W v l
  sl : ∀ d, d ∈ S → D d = true → IsP W (σ d) l
  sv : ∀ d, d ∈ simple → D d = true → σ d = val d
theorem CallT.start {W0 W : World} {l : List F2} {T S simple : List Nat} {val : Nat → Value} (hb : Below W0.heap.size W0 W) (σ : Nat → Value) : CallT W0 l T S simple val (fun _ => false) σ W :=
  ⟨hb, fun _ _ h => absurd h Bool.false_ne_true, fun _ _ h => absurd h Bool.false_ne_true, fun _ _ h => absurd h Bool.false_ne_true⟩
theorem CallT.next {W0 W W' : World} {l : List F2} {T S simple : List Nat} {val : Nat → Value} {D : Nat → Bool} {σ : Nat → Value} {d : Nat} {x : Value} (h : CallT W0 l T S simple val D σ W) (hb : Below W.heap.size W W')
    (h1 : d ∈ T → ∃ v, x = .tuple #[v, .bool true] ∧ IsP W' v l) (h2 : d ∈ S → IsP W' x l) (h3 : d ∈ simple → x = val d) : CallT W0 l T S simple val (fun k => if k = d then true else D k) (fun k => if k = d then x else σ k) W' := by
  refine ⟨bthen h.bel hb, fun d' hd => ?_, fun d' hd => ?_, fun d' hd => ?_⟩
  · by_cases c : d' = d
    · subst c; intro _; simp only [if_pos]; exact h1 hd
    · simp only [if_neg c]
      intro q
      obtain ⟨v, e1, e2⟩ := h.tp d' hd q
      exact ⟨v, e1, e2.keep hb⟩
  · by_cases c : d' = d
    · subst c; intro _; simp only [if_pos]; exact h2 hd
    · simp only [if_neg c]; exact fun q => (h.sl d' hd q).keep hb
  · by_cases c : d' = d
    · subst c; intro _; simp only [if_pos]; exact h3 hd
    · simp only [if_neg c]; exact h.sv d' hd
end Go.Proofs.Ytlgfnlkblehlbaa
