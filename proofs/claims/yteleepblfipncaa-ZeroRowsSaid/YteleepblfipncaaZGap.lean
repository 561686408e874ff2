/-
  What zero.Gap comes to: contracts for the walk. (Written by gen_zpt.py.)
-/
import Derived.Test.YteleepblfipncaaZPt
import Derived.Test.YteleepblfipncaaLoose
namespace Go.Proofs.Yteleepblfipncaa
open Go.RowKit Go.Sort Go.BigFrame
set_option linter.unusedVariables false


theorem zgap_no (k : Nat) (a b : Int) (x : F2) (hk : k ≤ 32) (hx : Rep a b x) (h : x - lift (last k) = 0) (w : World) : Calls Try.prog 10 #[.agg #[.int .u64 a, .int .u64 b], .int .i64 k] w fun e w' => e = .returned (.tuple #[.agg #[.int .u64 0, .int .u64 0], .bool false]) ∧ Below w.heap.size w w' := by
  obtain ⟨M, hM⟩ : ∃ M, ((2 ^ k : Nat) : Int) = M := ⟨_, rfl⟩
  have m0 := pow2_lt hk
  rw [hM] at m0
  obtain ⟨m0, m1⟩ := m0
  have k1 := many_is k M hk hM
  have k2 := zspot_is k (M - 1) a b x 0 ⟨by omega, by omega⟩ hx (by rw [rowv_last k M hk hM]; exact h)
  have k3 := pinv_no (enc (0 : F2).a) (enc (0 : F2).b) 0 (rep_enc 0) rfl
  clear hx h hM
  go_enter Try.func10, Try.ntmps10
  go_upto_region 1 with fail
  refine wp_gen (fun W => Below w.heap.size w W ∧ Var W w.heap.size a b ∧ Var W (w.heap.size + 1) 0 0) ⟨((Below.refl _ _).alloc (Nat.le_refl _) _).alloc (by simp) _, by simp [Var, go_sem], by simp [Var, go_sem]⟩ ?_
  rintro W ⟨hB, ⟨c0, c1, f0, f1⟩, hR⟩
  go_upto_region 3 with ((first
    | (go_at_call 27; ((with_reducible refine (k1 _).mono ?_); rintro e w' ⟨rfl, rfl⟩))
    | (go_at_call 16; ((with_reducible refine (k2 _).mono ?_); rintro e w1 ⟨rfl, hb⟩; replace hR := hR.keep hb; replace hB := bthen hB hb; clear hb c0 c1 f0 f1))
    | (go_at_call 28; ((with_reducible refine (k3 _).mono ?_); rintro e w1 ⟨rfl, hb⟩; replace hR := hR.keep hb; replace hB := bthen hB hb; clear hb))))
  refine wp_gen (fun W => Below w.heap.size w W ∧ Var W (w.heap.size + 1) 0 0) ⟨hB.alloc hB.size _, hR.alloc _⟩ ?_
  clear hB hR
  rintro W2 ⟨hB, d0, d1, e0, e1⟩
  go_wp2
  exact bodyPost_ret (v := .tuple #[.agg #[.int .u64 0, .int .u64 0], .bool false]) (by simp [results, Try.results10, go_sem, d0, d1]) rfl ⟨rfl, (hB.setCell (by simp) _).setCell (by simp) _⟩

def GapR (lo : Nat) (a b k M pa pb s t : Int) (sl : Nat) (v : Value) (W : World) : Prop :=
  match sl with
  | 25 => v = .agg #[.int .u64 a, .int .u64 b]
  | 26 => v = .int .i64 k
  | 27 => v = .int .u64 M
  | 28 => v = .agg #[.int .u64 pa, .int .u64 pb]
  | 29 => v = .agg #[.int .u64 1, .int .u64 0]
  | 30 => v = .agg #[.int .u64 s, .int .u64 t]
  | _ => ∃ g : Nat, v = .pointer (some ⟨g, 0, none⟩) ∧ lo ≤ g ∧ Var W g 0 0

theorem GapR.keep {lo : Nat} {a b k M pa pb s t : Int} {sl : Nat} {v : Value} {W W' : World} (h : GapR lo a b k M pa pb s t sl v W) (hb : Below W.heap.size W W') : GapR lo a b k M pa pb s t sl v W' := by
  unfold GapR at *
  split at h
  all_goals first | exact h | (obtain ⟨g, h1, h2, h3⟩ := h; exact ⟨g, h1, h2, h3.keep hb⟩)

set_option maxHeartbeats 1000000 in
theorem zgap_yes (k : Nat) (a b : Int) (x z : F2) (hk : k ≤ 32) (hx : Rep a b x) (h : x - lift (last k) ≠ 0) (hz : gapv x k = z) (w : World) : Calls Try.prog 10 #[.agg #[.int .u64 a, .int .u64 b], .int .i64 k] w fun e w' => e = .returned (.tuple #[.agg #[.int .u64 (enc z.a), .int .u64 (enc z.b)], .bool true]) ∧ Below w.heap.size w w' := by
  obtain ⟨M, hM⟩ : ∃ M, ((2 ^ k : Nat) : Int) = M := ⟨_, rfl⟩
  have m0 := pow2_lt hk
  rw [hM] at m0
  obtain ⟨m0, m1⟩ := m0
  obtain ⟨d, hd⟩ : ∃ d, x - lift (last k) = d := ⟨_, rfl⟩
  obtain ⟨i, hi⟩ : ∃ i, qinv d = i := ⟨_, rfl⟩
  obtain ⟨y, hy⟩ : ∃ y, qpow x (2 ^ k) = y := ⟨_, rfl⟩
  obtain ⟨n, hn⟩ : ∃ n, y - 1 = n := ⟨_, rfl⟩
  have k1 := many_is k M hk hM
  have k2 := zspot_is k (M - 1) a b x d ⟨by omega, by omega⟩ hx (by rw [rowv_last k M hk hM]; exact hd)
  have k3 := pinv_yes (enc d.a) (enc d.b) d i (rep_enc d) (by rw [← hd]; exact h) hi
  have k4 := ppow_q a b M x hx (by rw [← hM]; exact pow2_U hk)
  rw [show M.toNat = 2 ^ k by rw [← hM, Int.toNat_natCast], hy] at k4
  have k5 := lift_q 1 1 (U_lit _ rfl rfl) (by decide +kernel)
  have k6 := psub_q (enc y.a) (enc y.b) (enc (1 : F2).a) (enc (1 : F2).b) y 1 n (rep_enc y) (rep_enc 1) hn
  have k7 := pmul_q (enc n.a) (enc n.b) (enc i.a) (enc i.b) n i z (rep_enc n) (rep_enc i) (by rw [← hz]; unfold gapv; rw [hy, hn, hd, hi])
  rw [show enc (1 : F2).a = 1 from rfl, show enc (1 : F2).b = 0 from rfl] at k5 k6
  generalize enc z.a = za at *
  generalize enc z.b = zb at *
  generalize enc i.a = ia at *
  generalize enc i.b = ib at *
  generalize enc y.a = ya at *
  generalize enc y.b = yb at *
  generalize enc n.a = na at *
  generalize enc n.b = nb at *
  generalize enc d.a = da at *
  generalize enc d.b = db at *
  clear hx h hz hd hi hy hn hM
  go_enter Try.func10, Try.ntmps10
  go_upto_region 1 with fail
  refine wp_gen (fun W => Below w.heap.size w W ∧ Var W w.heap.size a b ∧ Var W (w.heap.size + 1) 0 0) ⟨((Below.refl _ _).alloc (Nat.le_refl _) _).alloc (by simp) _, by simp [Var, go_sem], by simp [Var, go_sem]⟩ ?_
  rintro W ⟨hB, hV, hR⟩
  have HV := Lib.hid hV
  obtain ⟨c0, c1, _, _⟩ := hV
  go_upto_region 3 with ((first
    | (go_at_call 27; ((with_reducible refine (k1 _).mono ?_); rintro e w' ⟨rfl, rfl⟩))
    | (go_at_call 16; ((with_reducible refine (k2 _).mono ?_); rintro e w1 ⟨rfl, hb⟩; replace hR := hR.keep hb; replace hB := bthen hB hb; replace HV := Lib.hid (HV.out.keep hb); clear hb c0 c1))
    | (go_at_call 28; ((with_reducible refine (k3 _).mono ?_); rintro e w1 ⟨rfl, hb⟩; replace hR := hR.keep hb; replace hB := bthen hB hb; replace HV := Lib.hid (HV.out.keep hb); clear hb))))
  refine wp_gen (fun W => Below w.heap.size w W ∧ Var W w.heap.size a b ∧ Var W (w.heap.size + 1) 0 0 ∧ Var W w1.heap.size ia ib) ⟨hB.alloc hB.size _, HV.out.alloc _, hR.alloc _, Var.new _ _ _ _⟩ ?_
  have lt7 := hB.size
  have l4 := hR.lt
  generalize w1.heap.size = g7 at *
  clear hB hR HV k2 k3
  rintro W2 ⟨hB, ⟨c0, c1, f0, f1⟩, hR, hI⟩
  go_upto_region 5 with fail
  refine wp_loose [(25, []), (26, []), (27, [26]), (28, [25, 27]), (29, []), (30, [28, 29]), (9, [])]
    (GapR W2.heap.size a b k M ya yb na nb) (fun d => false) (by kernel_rfl) (by kernel_rfl) (fun _ _ _ _ h hb => h.keep hb) ?_ ?_
  · refine opsrun_cons ?_ (opsrun_cons ?_ (opsrun_cons ?_ (opsrun_cons ?_ (opsrun_cons ?_ (opsrun_cons ?_ (opsrun_cons ?_ opsrun_nil))))))
    all_goals
      refine OpRuns.any ?_
      intro Q0 σ W' K hb hn hK
      simp only [fill, List.map, Act.put, List.setIfInBounds_toArray, List.set_cons_zero, List.set_cons_succ] at hK ⊢
    · clear hn
      have c0' := bkeep hb c0
      have c1' := bkeep hb c1
      clear c0 c1
      go_simp
      exact hK _ _ rfl (Below.refl _ _) (fun h => absurd h (by decide))
    · clear hn
      go_simp
      exact hK _ _ rfl (Below.refl _ _) (fun h => absurd h (by decide))
    · have h26 : σ 26 = _ := hn 26 (by decide)
      clear hn
      simp only [h26] at hK
      go_simp
      go_at_call 27
      refine (k1 _).mono ?_
      rintro e w1 ⟨rfl, rfl⟩
      exact hK _ _ rfl (Below.refl _ _) (fun h => absurd h (by decide))
    · have h25 : σ 25 = _ := hn 25 (by decide)
      have h27 : σ 27 = _ := hn 27 (by decide)
      clear hn
      simp only [h25, h27] at hK
      go_simp
      go_at_call 30
      refine (k4 _).mono ?_
      rintro e w1 ⟨rfl, hb1⟩
      exact hK _ _ rfl hb1 (fun h => absurd h (by decide))
    · clear hn
      go_simp
      go_at_call 31
      refine (k5 _).mono ?_
      rintro e w1 ⟨rfl, hb1⟩
      exact hK _ _ rfl hb1 (fun h => absurd h (by decide))
    · have h28 : σ 28 = _ := hn 28 (by decide)
      have h29 : σ 29 = _ := hn 29 (by decide)
      clear hn
      simp only [h28, h29] at hK
      go_simp
      go_at_call 29
      refine (k6 _).mono ?_
      rintro e w1 ⟨rfl, hb1⟩
      exact hK _ _ rfl hb1 (fun h => absurd h (by decide))
    · clear hn
      go_simp
      exact hK _ _ ⟨_, rfl, hb.size, Var.new _ _ _ _⟩ ((Below.refl _ _).alloc (Nat.le_refl _) _) (fun h => absurd h (by decide))

  · intro σ W' hb hR' hF
    have h30 : σ 30 = _ := hR' 30 (by decide)
    obtain ⟨g9, h9, l9, v9⟩ : ∃ g : Nat, σ 9 = .pointer (some ⟨g, 0, none⟩) ∧ W2.heap.size ≤ g ∧ Var W' g 0 0 := hR' 9 (by decide)
    have lR := hR.lt
    have lI := hI.lt
    replace hR := hR.keep hb
    replace hI := hI.keep hb
    replace hB := bthen hB hb
    have V9 := Lib.hid v9
    obtain ⟨p0, p1, q0, q1⟩ := v9
    clear hR' hF c0 c1 f0 f1 hb k1 k4 k5 k6
    simp only [fill, List.map, Act.put, List.setIfInBounds_toArray, List.set_cons_zero, List.set_cons_succ, List.length_cons, List.length_nil, List.drop_succ_cons, List.drop_zero, Nat.reduceAdd, h9]
    go_upto_region 6 with fail
    refine wp_gen (fun W => Below w.heap.size w W ∧ Var W (w.heap.size + 1) 0 0 ∧ Var W g7 ia ib ∧ Var W g9 na nb) ⟨(hB.setCell (by simp; omega) _).setCell (by simp; omega) _, (hR.far (by omega) _ _).far (by omega) _ _, (hI.far (by omega) _ _).far (by omega) _ _, V9.out.set _ _⟩ ?_
    clear hB hR hI V9 p0 p1 q0 q1
    rintro W3 ⟨hB, ⟨d0, d1, e0, e1⟩, ⟨i0, i1, _, _⟩, ⟨n0, n1, _, _⟩⟩
    go_wp2_with (go_at_call 32; ((with_reducible refine (k7 _).mono ?_); rintro e w3 ⟨rfl, hb⟩; replace e0 := bfree hb d0 e0; replace e1 := bfree hb d1 e1; replace d0 := bkeep hb d0; replace d1 := bkeep hb d1; replace hB := bthen hB hb; clear hb i0 i1 n0 n1))
    exact bodyPost_ret (v := .tuple #[.agg #[.int .u64 za, .int .u64 zb], .bool true]) (by simp [results, Try.results10, go_sem, d0, d1]) rfl ⟨rfl, (hB.setCell (by simp) _).setCell (by simp) _⟩
end Go.Proofs.Yteleepblfipncaa
