/-
  What zero.among, Out come to: contracts for the walk. (Written by gen_zpt.py.)
-/
import Derived.Test.YtgnnliablgbgkaaDoorZPt
import Derived.Test.YtgnnliablgbgkaaDoorGNum
namespace Go.Proofs.YtgnnliablgbgkaaDoor
open Go.RowKit Go.Sort Go.BigFrame
set_option linter.unusedVariables false


/-- Two pairs' numbers, alike or not. -/
def EqB (a b c d : Int) (r : Bool) : Prop := (r = true ∧ a = c ∧ b = d) ∨ (r = false ∧ (a == c) = false) ∨ (r = false ∧ a = c ∧ (b == d) = false)
theorem eqB_enc (x y : F2) (r : Bool) (h : decide (x = y) = r) : EqB (enc x.a) (enc x.b) (enc y.a) (enc y.b) r := by
  by_cases h1 : x = y
  · exact Or.inl ⟨by rw [← h]; simpa using h1, by rw [h1], by rw [h1]⟩
  · have hr : r = false := by rw [← h]; simpa using h1
    by_cases ha : enc x.a = enc y.a
    · refine Or.inr (Or.inr ⟨hr, ha, ?_⟩)
      have : ¬ enc x.b = enc y.b := fun hb => h1 (F2.eq (enc_inj.mp ha) (enc_inj.mp hb))
      simpa using this
    · exact Or.inr (Or.inl ⟨hr, by simpa using ha⟩)

def AmongR (a b c k M pa pb q la lb : Int) (r : Bool) (sl : Nat) (v : Value) (W : World) : Prop :=
  match sl with
  | 7 => v = .agg #[.int .u64 a, .int .u64 b]
  | 8 => v = .int .i64 k
  | 9 => v = .int .u64 M
  | 10 => v = .agg #[.int .u64 pa, .int .u64 pb]
  | 11 => v = .int .u64 c
  | 12 => v = .int .i64 k
  | 13 => v = .int .u64 M
  | 14 => v = .int .u64 q
  | 15 => v = .agg #[.int .u64 la, .int .u64 lb]
  | _ => v = .bool r
theorem AmongR.keep {a b c k M pa pb q la lb : Int} {r : Bool} {sl : Nat} {v : Value} {W W' : World} (h : AmongR a b c k M pa pb q la lb r sl v W) (hb : Below W.heap.size W W') : AmongR a b c k M pa pb q la lb r sl v W' := h

set_option maxHeartbeats 1000000 in
theorem among_is (k : Nat) (a b c : Int) (x : F2) (r : Bool) (hk : k ≤ 32) (hx : Rep a b x) (hc : U c) (hr : decide (qpow x (2 ^ k) = lift (fpow (toF c) (2 ^ k))) = r) (w : World) : Calls Tryd.prog 37 #[.agg #[.int .u64 a, .int .u64 b], .int .u64 c, .int .i64 k] w fun e w' => e = .returned (.bool r) ∧ Below w.heap.size w w' := by
  obtain ⟨M, hM⟩ : ∃ M, ((2 ^ k : Nat) : Int) = M := ⟨_, rfl⟩
  have k1 := many_is k M hk hM
  have hMU : U M := by rw [← hM]; exact pow2_U hk
  have hMn : M.toNat = 2 ^ k := by rw [← hM, Int.toNat_natCast]
  have k2 := ppow_q a b M x hx hMU
  have k3 := pow_is c M (enc (fpow (toF c) (2 ^ k))) hc hMU (by rw [hMn])
  have k4 := lift_q (enc (fpow (toF c) (2 ^ k))) (lift (fpow (toF c) (2 ^ k))) (enc_U _) (by rw [toF_enc])
  rw [hMn] at k2
  have EB := eqB_enc _ _ r hr
  generalize enc (fpow (toF c) (2 ^ k)) = q at *
  generalize enc (qpow x (2 ^ k)).a = pa at *
  generalize enc (qpow x (2 ^ k)).b = pb at *
  generalize enc (lift (fpow (toF c) (2 ^ k))).a = la at *
  generalize enc (lift (fpow (toF c) (2 ^ k))).b = lb at *
  have EH := Lib.hid EB
  clear hx hc hr hM hMU hMn EB
  go_enter Tryd.func37, Tryd.ntmps37
  go_upto_region 1 with fail
  refine wp_gen (fun W => Below w.heap.size w W ∧ Var W w.heap.size a b) ⟨(Below.refl _ _).alloc (Nat.le_refl _) _, by simp [Var, go_sem]⟩ ?_
  rintro W ⟨hB, ⟨c0, c1, f0, f1⟩⟩
  refine wp_loose [(7, []), (8, []), (9, [8]), (10, [7, 9]), (11, []), (12, []), (13, [12]), (14, [11, 13]), (15, [14]), (16, [10, 15]), (6, [16])]
    (AmongR a b c k M pa pb q la lb r) (fun d => false) (by kernel_rfl) (by kernel_rfl) (fun _ _ _ _ h hb => h.keep hb) ?_ ?_
  · refine opsrun_cons ?_ (opsrun_cons ?_ (opsrun_cons ?_ (opsrun_cons ?_ (opsrun_cons ?_ (opsrun_cons ?_ (opsrun_cons ?_ (opsrun_cons ?_ (opsrun_cons ?_ (opsrun_cons ?_ (opsrun_cons ?_ opsrun_nil))))))))))
    all_goals
      refine OpRuns.any ?_
      intro Q0 σ W' K hb hn hK
      simp only [fill, List.map, Act.put, List.setIfInBounds_toArray, List.set_cons_zero, List.set_cons_succ] at hK ⊢
    · clear hn
      have c0' := bkeep hb c0
      have c1' := bkeep hb c1
      clear c0 c1
      go_simp
      exact hK _ _ rfl (Below.refl _ _) (fun h => absurd h (by decide))
    · clear hn
      go_simp
      exact hK _ _ rfl (Below.refl _ _) (fun h => absurd h (by decide))
    · have h8 : σ 8 = _ := hn 8 (by decide)
      clear hn
      simp only [h8] at hK
      go_simp
      go_at_call 48
      refine (k1 _).mono ?_
      rintro e w1 ⟨rfl, rfl⟩
      exact hK _ _ rfl (Below.refl _ _) (fun h => absurd h (by decide))
    · have h7 : σ 7 = _ := hn 7 (by decide)
      have h9 : σ 9 = _ := hn 9 (by decide)
      clear hn
      simp only [h7, h9] at hK
      go_simp
      go_at_call 47
      refine (k2 _).mono ?_
      rintro e w1 ⟨rfl, hb1⟩
      exact hK _ _ rfl hb1 (fun h => absurd h (by decide))
    · clear hn
      go_simp
      exact hK _ _ rfl (Below.refl _ _) (fun h => absurd h (by decide))
    · clear hn
      go_simp
      exact hK _ _ rfl (Below.refl _ _) (fun h => absurd h (by decide))
    · have h12 : σ 12 = _ := hn 12 (by decide)
      clear hn
      simp only [h12] at hK
      go_simp
      go_at_call 48
      refine (k1 _).mono ?_
      rintro e w1 ⟨rfl, rfl⟩
      exact hK _ _ rfl (Below.refl _ _) (fun h => absurd h (by decide))
    · have h11 : σ 11 = _ := hn 11 (by decide)
      have h13 : σ 13 = _ := hn 13 (by decide)
      clear hn
      simp only [h11, h13] at hK
      go_simp
      go_at_call 50
      refine (k3 _).mono ?_
      rintro e w1 ⟨rfl, rfl⟩
      exact hK _ _ rfl (Below.refl _ _) (fun h => absurd h (by decide))
    · have h14 : σ 14 = _ := hn 14 (by decide)
      clear hn
      simp only [h14] at hK
      go_simp
      go_at_call 49
      refine (k4 _).mono ?_
      rintro e w1 ⟨rfl, hb1⟩
      exact hK _ _ rfl hb1 (fun h => absurd h (by decide))
    · have h10 : σ 10 = _ := hn 10 (by decide)
      have h15 : σ 15 = _ := hn 15 (by decide)
      clear hn
      simp only [h10, h15] at hK
      rcases EH.out with ⟨rfl, rfl, rfl⟩ | ⟨rfl, h⟩ | ⟨rfl, rfl, h⟩
      all_goals
        go_simp
        exact hK _ _ rfl (Below.refl _ _) (fun h => absurd h (by decide))
    · have h16 : σ 16 = _ := hn 16 (by decide)
      clear hn
      simp only [h16] at hK
      go_simp
      exact hK _ _ rfl (Below.refl _ _) (fun h => absurd h (by decide))

  · intro σ W' hb hR' hF
    have h6 : σ 6 = _ := hR' 6 (by decide)
    replace hB := bthen hB hb
    clear hR' hF c0 c1 f0 f1 hb k1 k2 k3 k4
    simp only [fill, List.map, Act.put, List.setIfInBounds_toArray, List.set_cons_zero, List.set_cons_succ, List.length_cons, List.length_nil, List.drop_succ_cons, List.drop_zero, Nat.reduceAdd, h6]
    go_wp2
    go_ret
    exact ⟨rfl, hB⟩

theorem zq_one (W : World) (a b : Int) (t : TypeId) : QRow (W.alloc (.cells #[.int .u64 a, .int .u64 b] t)) (.slice (some ⟨W.heap.size, 0, none⟩) 1 1) [(a, b)] := by
  right; right
  refine ⟨W.heap.size, 0, 1, rfl, by simp, by unfold maxLen; omega, ?_⟩
  intro i hi
  have : i = 0 := by simp at hi; omega
  subst this; simp [go_sem]
theorem zpsum_one (a b : Int) (x : F2) (hx : Rep a b x) (W : World) (t : TypeId) : Calls Tryd.prog 36 #[.slice (some ⟨W.heap.size, 0, none⟩) 1 1] (W.alloc (.cells #[.int .u64 a, .int .u64 b] t)) fun z w' => z = .returned (.agg #[.int .u64 (enc x.a), .int .u64 (enc x.b)]) ∧ Below W.heap.size W w' := by
  have h := psum_q _ _ _ (zq_one W a b t) (by intro n hn; simp at hn; subst hn; exact ⟨hx.1, hx.2.1⟩)
  have e : qsum ([(a, b)].map toQ) = x := by
    simp only [List.map, qsum, toQ]
    rw [F2.add_zero]
    exact F2.eq hx.2.2.1 hx.2.2.2
  rw [e] at h
  exact h.mono fun z w' ⟨hz, hb⟩ => ⟨hz, bthen ((Below.refl _ _).alloc (Nat.le_refl _) _) hb⟩

/-- Whether a point lies out of rows and places, and isn't 0. -/
def outv (x : F2) (k m : Nat) : Bool := !decide (x = 0) && (!decide (qpow x (2 ^ k) = 1) && !decide (qpow x (2 ^ m) = lift (fpow 7 (2 ^ m))))
theorem zero_cases (x : F2) : (x = 0 ∧ enc x.a = 0 ∧ enc x.b = 0) ∨ (x ≠ 0 ∧ (enc x.a == 0) = false) ∨ (x ≠ 0 ∧ enc x.a = 0 ∧ (enc x.b == 0) = false) := by
  by_cases h : x = 0
  · exact Or.inl ⟨h, by rw [h]; rfl, by rw [h]; rfl⟩
  · by_cases h1 : enc x.a = 0
    · refine Or.inr (Or.inr ⟨h, h1, ?_⟩)
      have : ¬ enc x.b = 0 := fun h2 => h (F2.eq (enc_inj.mp (h1.trans enc_zero.symm)) (enc_inj.mp (h2.trans enc_zero.symm)))
      simpa using this
    · exact Or.inr (Or.inl ⟨h, by simpa using h1⟩)

set_option maxHeartbeats 1000000 in
theorem zout_is (k m : Nat) (a b : Int) (x : F2) (r : Bool) (hk : k ≤ 32) (hm : m ≤ 32) (hx : Rep a b x) (hr : outv x k m = r) (w : World) : Calls Tryd.prog 26 #[.agg #[.int .u64 a, .int .u64 b], .int .i64 k, .int .i64 m] w fun e w' => e = .returned (.bool r) ∧ Below w.heap.size w w' := by
  have s1 := zpsum_one a b x hx
  obtain ⟨r1, hr1⟩ : ∃ r1, decide (qpow x (2 ^ k) = 1) = r1 := ⟨_, rfl⟩
  obtain ⟨r2, hr2⟩ : ∃ r2, decide (qpow x (2 ^ m) = lift (fpow 7 (2 ^ m))) = r2 := ⟨_, rfl⟩
  have k1 := among_is k a b 1 x r1 hk hx (U_lit _ rfl rfl) (by rw [show toF 1 = 1 by decide +kernel, one_fpow, lift_one']; exact hr1)
  have k2 := among_is m a b 7 x r2 hm hx (U_lit _ rfl rfl) (by rw [show toF 7 = 7 by decide +kernel]; exact hr2)
  have z := zero_cases x
  unfold outv at hr
  rw [hr1, hr2] at hr
  clear hr1 hr2 hx
  generalize enc x.a = xa at *
  generalize enc x.b = xb at *
  rcases z with ⟨h0, rfl, rfl⟩ | ⟨h0, hz⟩ | ⟨h0, rfl, hz⟩
  · have hr' : r = false := by rw [← hr, h0]; rfl
    subst hr'
    clear hr h0 k1 k2
    go_enter Tryd.func26, Tryd.ntmps26
    go_upto_region 1 with fail
    refine wp_gen (fun W => Below w.heap.size w W ∧ Var W w.heap.size a b) ⟨(Below.refl _ _).alloc (Nat.le_refl _) _, by simp [Var, go_sem]⟩ ?_
    rintro W ⟨hB, ⟨c0, c1, f0, f1⟩⟩
    go_wp2_with (go_at_call 36; ((with_reducible refine (s1 _ _).mono ?_); rintro e w1 ⟨rfl, hb⟩; replace hB := bthen hB hb; clear hb c0 c1 f0 f1))
    go_ret
    exact ⟨rfl, hB⟩
  all_goals
    have hr' : r = (!r1 && !r2) := by rw [← hr, show decide (x = 0) = false by simpa using h0]; rfl
    clear hr h0
    cases r1
    all_goals
      subst hr'
      go_enter Tryd.func26, Tryd.ntmps26
      go_upto_region 1 with fail
      refine wp_gen (fun W => Below w.heap.size w W ∧ Var W w.heap.size a b) ⟨(Below.refl _ _).alloc (Nat.le_refl _) _, by simp [Var, go_sem]⟩ ?_
      rintro W ⟨hB, ⟨c0, c1, f0, f1⟩⟩
      go_wp2_with ((first
        | (go_at_call 36; (with_reducible refine (s1 _ _).mono ?_))
        | (go_at_call 37; (with_reducible refine (k1 _).mono ?_))
        | (go_at_call 37; (with_reducible refine (k2 _).mono ?_))); rintro e w1 ⟨rfl, hb⟩; replace c0 := bkeep hb c0; replace c1 := bkeep hb c1; replace hB := bthen hB hb; clear hb)
      go_ret
      exact ⟨by simp, hB⟩
end Go.Proofs.YtgnnliablgbgkaaDoor
