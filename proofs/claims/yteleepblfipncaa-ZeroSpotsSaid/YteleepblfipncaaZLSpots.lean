/-
  The walk of ZeroSpots: it answers true. (Written by gen_zlaws.py.)
-/
import Derived.Test.YteleepblfipncaaZAwake
import Derived.Test.YteleepblfipncaaZRef
import Derived.Test.YteleepblfipncaaZLaw
namespace Go.Proofs.Yteleepblfipncaa
open Go.RowKit Go.Sort Go.BigFrame
set_option linter.unusedVariables false

def SpotsR (a b n j s0 s1 pa pb qa qb : Int) (sl : Nat) (v : Value) (W : World) : Prop :=
  match sl with
  | 19 => v = .agg #[.int .u64 pa, .int .u64 pb]
  | 20 => v = .agg #[.int .u64 a, .int .u64 b]
  | 21 => v = .int .i64 n
  | 22 => v = .int .i64 j
  | 23 => v = .agg #[.int .u64 s0, .int .u64 s1]
  | _ => v = .agg #[.int .u64 qa, .int .u64 qb]
theorem SpotsR.keep {a b n j s0 s1 pa pb qa qb : Int} {sl : Nat} {v : Value} {W W' : World} (h : SpotsR a b n j s0 s1 pa pb qa qb sl v W) (hb : Below W.heap.size W W') : SpotsR a b n j s0 s1 pa pb qa qb sl v W' := h

/-- The loop: how many are in, and what their product is. -/
def SpotHead (w : World) (f : Nat → F2) (N : Nat) (a b : Int) (g6 : Nat) (i : Value) (W : World) : Prop :=
  ∃ j : Nat, j ≤ N ∧ i = .int .i64 j ∧ Below w.heap.size w W ∧ Var W w.heap.size a b ∧ Var W g6 (enc (pz j f).a) (enc (pz j f).b)
set_option maxHeartbeats 2000000 in
theorem zspots_walk (a b k : Int) (ha : U a) (hb : U b) (hk : 0 ≤ k ∧ k ≤ 255) (w : World) : Calls Try.prog 8 #[.agg #[.int .u64 a, .int .u64 b], .int .u8 k] w fun e w' => e = .returned (.bool true) ∧ Below w.heap.size w w' := by
  obtain ⟨n, hn, hlt⟩ := mod_nat k 5 hk.1 (by decide)
  have hq : Int.tmod k 5 = (n : Int) := by rw [Int.tmod_eq_emod_of_nonneg hk.1]; exact hn
  have hn32 : n ≤ 32 := by omega
  have hx := rep_raw ha hb
  obtain ⟨x, hxx⟩ : ∃ x : F2, ⟨toF a, toF b⟩ = x := ⟨_, rfl⟩
  rw [hxx] at hx
  obtain ⟨N, hN⟩ : ∃ N, 2 ^ n = N := ⟨_, rfl⟩
  have hp := Nat.pow_le_pow_right (n := 2) (by decide) (by omega : n ≤ 4)
  rw [hN] at hp
  have e1 := wrapu_pow hn32
  have e2 := wrapi_pow' hn32
  rw [hN] at e1 e2
  have hMU : U (N : Int) := by unfold U; omega
  obtain ⟨f, hf⟩ : ∃ f : Nat → F2, (fun i => x - lift (rw' n i)) = f := ⟨_, rfl⟩
  obtain ⟨y, hy⟩ : ∃ y, qpow x N = y := ⟨_, rfl⟩
  have hend := spots_all n hn32 x
  rw [hf, hN, hy] at hend
  have k1 := fun (j : Nat) (hj : j < N) => zspot_is n j a b x (f j) ⟨by omega, by omega⟩ hx (by rw [← hf, rowv_nat n j hn32])
  have k2 := fun (j : Nat) => rmul_q (enc (pz j f).a) (enc (pz j f).b) (enc (f j).a) (enc (f j).b) (pz j f) (f j) (pz (j + 1) f) (rep_enc _) (rep_enc _) rfl
  have k3 := rpow_q a b N x hx hMU
  rw [Int.toNat_natCast, hy] at k3
  have k4 := rsub_q (enc y.a) (enc y.b) 1 0 y 1 (y - 1) (rep_enc y) rep_one rfl
  rw [← hend] at k4
  have P0 : pz 0 f = 1 := rfl
  clear ha hb hxx hk hx hN hMU hf hy hend hn32
  go_enter Try.func8, Try.ntmps8
  go_upto_region 1 with fail
  refine wp_gen (fun W => Below w.heap.size w W ∧ Var W w.heap.size a b) ⟨(Below.refl _ _).alloc (Nat.le_refl _) _, by simp [Var, go_sem]⟩ ?_
  rintro W ⟨hB, hV⟩
  go_upto_region 3 with fail
  refine wp_gen (fun W' => Below w.heap.size w W' ∧ Var W' w.heap.size a b ∧ Var W' W.heap.size (enc (pz 0 f).a) (enc (pz 0 f).b)) ⟨hB.alloc hB.size _, hV.alloc _, by rw [P0]; exact Var.new _ _ _ _⟩ ?_
  have lt6 := hB.size
  have ltX := hV.lt
  generalize W.heap.size = g6 at *
  clear hB hV P0
  rintro W0 ⟨hB, hV, hP⟩
  go_upto_region 4 with fail
  go_loopw [7] (SpotHead w f N a b g6) (fun i _ => N - (intOf i).toNat)
  case atStart => exact ⟨0, Nat.zero_le _, rfl, hB, hV, hP⟩
  case round =>
    clear hB hV hP
    obtain ⟨j, hj, rfl, hB, hV, hP⟩ := hrel
    by_cases hlt : j < N
    · replace k1 := k1 j hlt
      replace k2 := k2 j
      generalize enc (f j).a = s0 at *
      generalize enc (f j).b = s1 at *
      have HX := Lib.hid hV; have HP := Lib.hid hP
      obtain ⟨c0, c1, _, _⟩ := hV
      obtain ⟨p0, p1, _, _⟩ := hP
      go_upto_region 6 with fail
      simp only [e2]
      refine wp_loose [(19, []), (20, []), (21, []), (22, []), (23, [20, 21, 22]), (24, [19, 23])]
        (SpotsR a b n j s0 s1 (enc (pz j f).a) (enc (pz j f).b) (enc (pz (j + 1) f).a) (enc (pz (j + 1) f).b)) (fun d => false) (by kernel_rfl) (by kernel_rfl) (fun _ _ _ _ h hb => h.keep hb) ?_ ?_
      · refine opsrun_cons ?_ (opsrun_cons ?_ (opsrun_cons ?_ (opsrun_cons ?_ (opsrun_cons ?_ (opsrun_cons ?_ opsrun_nil)))))
        all_goals
          refine OpRuns.any ?_
          intro Q0 σ W' K hb hn hK
          simp only [fill, List.map, Act.put, List.setIfInBounds_toArray, List.set_cons_zero, List.set_cons_succ] at hK ⊢
        · clear hn
          have p0' := bkeep hb p0
          have p1' := bkeep hb p1
          clear p0 p1
          go_simp
          exact hK _ _ rfl (Below.refl _ _) (fun h => absurd h (by decide))
        · clear hn
          have c0' := bkeep hb c0
          have c1' := bkeep hb c1
          clear c0 c1
          go_simp
          exact hK _ _ rfl (Below.refl _ _) (fun h => absurd h (by decide))
        · clear hn
          go_simp
          exact hK _ _ rfl (Below.refl _ _) (fun h => absurd h (by decide))
        · clear hn
          go_simp
          exact hK _ _ rfl (Below.refl _ _) (fun h => absurd h (by decide))
        · have h20 : σ 20 = _ := hn 20 (by decide)
          have h21 : σ 21 = _ := hn 21 (by decide)
          have h22 : σ 22 = _ := hn 22 (by decide)
          clear hn
          simp only [h20, h21, h22] at hK
          go_simp
          go_at_call 16
          refine (k1 _).mono ?_
          rintro e w1 ⟨rfl, hb1⟩
          exact hK _ _ rfl hb1 (fun h => absurd h (by decide))
        · have h19 : σ 19 = _ := hn 19 (by decide)
          have h23 : σ 23 = _ := hn 23 (by decide)
          clear hn
          simp only [h19, h23] at hK
          go_simp
          go_at_call 24
          refine (k2 _).mono ?_
          rintro e w1 ⟨rfl, hb1⟩
          exact hK _ _ rfl hb1 (fun h => absurd h (by decide))
      · intro σ W' hb hR' hF
        have h24 : σ 24 = _ := hR' 24 (by decide)
        replace HX := Lib.hid (HX.out.keep hb)
        replace HP := Lib.hid (HP.out.keep hb)
        replace hB := bthen hB hb
        clear hR' hF c0 c1 p0 p1 hb k1 k2
        simp only [fill, List.map, Act.put, List.setIfInBounds_toArray, List.set_cons_zero, List.set_cons_succ, List.length_cons, List.length_nil, List.drop_succ_cons, List.drop_zero, Nat.reduceAdd]
        have hP := HP.out
        obtain ⟨d0, d1, q0, q1⟩ := hP
        go_upto_region 5 with fail
        refine wp_gen (fun W => Below w.heap.size w W ∧ Var W w.heap.size a b ∧ Var W g6 (enc (pz (j + 1) f).a) (enc (pz (j + 1) f).b)) ⟨(hB.setCell (by simp; omega) _).setCell (by simp; omega) _, (HX.out.far (by omega) _ _).far (by omega) _ _, HP.out.set _ _⟩ ?_
        clear hB HX HP d0 d1 q0 q1
        rintro W2 ⟨hB, hV, hP⟩
        go_wp2
        go_roundw
        case rel => exact ⟨j + 1, by omega, by go_num, hB, hV, hP⟩
        case measure => simp [intOf]; omega
    · obtain rfl : j = N := by omega
      clear hlt k1 k2
      generalize enc (pz j f).a = ta at *
      generalize enc (pz j f).b = tb at *
      obtain ⟨c0, c1, _, _⟩ := hV
      obtain ⟨p0, p1, _, _⟩ := hP
      go_upto_region 7 with fail
      replace c0 := fun q : Regrown => cell_regrown c0 q.d q.os
      replace c1 := fun q : Regrown => cell_regrown c1 q.d q.os
      replace p0 := fun q : Regrown => cell_regrown p0 q.d q.os
      replace p1 := fun q : Regrown => cell_regrown p1 q.d q.os
      refine wp_region_quiet_below (by kernel_rfl) (by kernel_rfl) ?_
      repeat (first | go_big_quiet_step (first
        | (go_at_call 9; (with_reducible exact Calls.regrown_of (zawake_any _)))
        | (go_at_call 26; (with_reducible exact Calls.regrown_of (k3 _)))
        | (go_at_call 25; (with_reducible exact Calls.regrown_of (k4 _)))) | quiet_step (fail))
      refine wpQuiet_nil ?_
      rintro _ ⟨pq, rfl⟩
      go_wp2
      go_ret
      exact ⟨by simp, bthen hB (below_regrown _ _ _)⟩
end Go.Proofs.Yteleepblfipncaa
