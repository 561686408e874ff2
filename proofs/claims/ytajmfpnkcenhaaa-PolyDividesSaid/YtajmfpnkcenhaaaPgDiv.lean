/-
  What the program's Divide of package poly comes to: a contract for the walk. (Written by gen_pg3.py.)
-/
import Derived.Test.YtajmfpnkcenhaaaPgScale
import Derived.Test.YtajmfpnkcenhaaaPgMul
namespace Go.Proofs.Ytajmfpnkcenhaaa
open Go.RowKit
set_option linter.unusedVariables false

def PgDivR (g n k : Nat) (o0 o1 x0 x1 m0 m1 z0 z1 n0 n1 : Int) (sl : Nat) (v : Value) (W : World) : Prop :=
  match sl with
  | 19 => v = .slice (some ⟨g, 0, none⟩) n n
  | 20 => v = .int .i64 k
  | 21 => v = .agg #[.int .u64 o0, .int .u64 o1]
  | 22 => v = .agg #[.int .u64 o0, .int .u64 o1]
  | 23 => v = .agg #[.int .u64 x0, .int .u64 x1]
  | 24 => v = .agg #[.int .u64 m0, .int .u64 m1]
  | 25 => v = .slice (some ⟨g, 0, none⟩) n n
  | 26 => v = .int .i64 k
  | 27 => v = .pointer (some ⟨g, k * 2, none⟩)
  | 28 => v = .agg #[.int .u64 z0, .int .u64 z1]
  | 29 => v = .agg #[.int .u64 n0, .int .u64 n1]
  | _ => v = .pointer (some ⟨g, k * 2, none⟩)
theorem PgDivR.keep {g n k : Nat} {o0 o1 x0 x1 m0 m1 z0 z1 n0 n1 : Int} {sl : Nat} {v : Value} {W W' : World} (h : PgDivR g n k o0 o1 x0 x1 m0 m1 z0 z1 n0 n1 sl v W) (hb : Below W.heap.size W W') : PgDivR g n k o0 o1 x0 x1 m0 m1 z0 z1 n0 n1 sl v W' := h

def PgDivR7 (n g B : Nat) (l : List F2) (r0 r1 : Int) (sl : Nat) (v : Value) (W : World) : Prop :=
  match sl with
  | 31 => v = .slice (some ⟨g, 0, none⟩) n n
  | 33 => v = .agg #[.int .u64 r0, .int .u64 r1]
  | _ => IsP W v l ∧ Fresh B v
theorem PgDivR7.keep {n g B : Nat} {l : List F2} {r0 r1 : Int} {sl : Nat} {v : Value} {W W' : World} (h : PgDivR7 n g B l r0 r1 sl v W) (hb : Below W.heap.size W W') : PgDivR7 n g B l r0 r1 sl v W' := by
  unfold PgDivR7 at *
  split at h
  all_goals first | exact h | exact ⟨IsP.keep h.1 hb, h.2⟩
/-- The row from place k on turned into the quotient's. -/
def dvs (n : Nat) (f : Nat → F2) (x : F2) (k j : Nat) : Int × Int := if k ≤ j then encP (hq n f x (j + 1)) else encP (f j)
theorem dvs_start (n : Nat) (f : Nat → F2) (x : F2) (j : Nat) (h : j < n) : encP (f j) = dvs n f x n j := (if_neg (by omega)).symm
theorem dvs_end (n : Nat) (f : Nat → F2) (x : F2) (j : Nat) : dvs n f x 0 j = encP (dq n f x j) := if_pos (Nat.zero_le _)
theorem dvs_at (n : Nat) (f : Nat → F2) (x : F2) (k : Nat) : dvs n f x (k + 1) k = encP (f k) := if_neg (by omega)
theorem dvs_step {n : Nat} {f : Nat → F2} {x : F2} {k : Nat} {y : F2} (hy : hq n f x (k + 1) = y) (j : Nat) : (if j = k then (enc y.a, enc y.b) else dvs n f x (k + 1) j) = dvs n f x k j := by
  unfold dvs
  by_cases e : j = k
  · subst e; rw [if_pos rfl, if_pos (Nat.le_refl _), hy]; rfl
  · rw [if_neg e]
    by_cases h : k + 1 ≤ j
    · rw [if_pos h, if_pos (by omega)]
    · rw [if_neg h, if_neg (by omega)]
def PgDivDown (w : World) (f : Nat → F2) (x : F2) (n : Nat) (x0 x1 : Int) (g gl : Nat) (i : Value) (W : World) : Prop :=
  ∃ k : Nat, k ≤ n ∧ i = .int .i64 ((k : Int) - 1) ∧ Below w.heap.size w W ∧ Var W w.heap.size x0 x1 ∧ Var W (w.heap.size + 1) 0 0 ∧ Var W gl (enc (hq n f x k).a) (enc (hq n f x k).b) ∧ Arr W g (n * 2) (pc (dvs n f x k))
theorem hq_more {n m : Nat} {f : Nat → F2} (hu : Upto n f) (h : n ≤ m) (x : F2) (j : Nat) : hq m f x j = hq n f x j := by
  unfold hq
  by_cases c : j ≤ n
  · exact qe_more x (by omega) (fun i hi => hu _ (by omega))
  · rw [show n - j = 0 by omega]
    exact (qe_more x (Nat.zero_le _) (fun i hi => hu _ (by omega)))
theorem divP_trim (l : List F2) (x : F2) : pl (trimP l).length (dq (trimP l).length (cq (trimP l)) x) = divP l x := by
  have hu : Upto (trimP l).length (cq (trimP l)) := cq_upto _
  have e : cq (trimP l) = cq l := funext (trimP_cq l)
  have hu2 : Upto (trimP l).length (cq l) := e ▸ hu
  rw [e]
  refine pl_same (fun i hi => ?_) (dq_upto _ _ _) fun i => ?_
  · exact hq_end _ _ _ _ (by omega)
  · exact (hq_more hu2 (trimP_len l) x (i + 1)).symm
theorem atP_trim (l : List F2) (x : F2) : qe (trimP l).length (cq (trimP l)) x = atP l x := by
  have e : cq (trimP l) = cq l := funext (trimP_cq l)
  have hu2 : Upto (trimP l).length (cq l) := e ▸ cq_upto (trimP l)
  rw [e]
  exact (qe_more x (trimP_len l) (fun i hi => hu2 i hi)).symm

set_option maxHeartbeats 8000000 in
theorem pdiv_core (a : Option Addr) (cap len : Nat) (l : List F2) (x0 x1 : Int) (x : F2) (w : World) (h : Poly w (.slice a len cap) l) (hx : Rep x0 x1 x) (hl : l.length ≤ 4294967296) :
    Calls Try.prog 23 #[.slice a len cap, .agg #[.int .u64 x0, .int .u64 x1]] w (RetD (divP l x) (atP l x) w) := by
  have T1 := fun W (hb : Below w.heap.size w W) => ptrim_new _ l W (h.keep hb) hl
  have hn : (trimP l).length ≤ 4294967296 := Nat.le_trans (trimP_len l) hl
  rw [← divP_trim, ← atP_trim]
  generalize trimP l = L at *
  have HTR : Hid (∀ (W : World) (g : Nat), Arr W g (L.length * 2) (pc fun j => encP (dq L.length (cq L) x j)) → Calls Try.prog 19 #[.slice (some ⟨g, 0, none⟩) L.length L.length] W (RetF (pl L.length (dq L.length (cq L) x)) W)) := Lib.hid (fun W g hA =>
    (ptrim_arr (f := dq L.length (cq L) x) (fun i hi => hq_end _ _ _ _ (by omega)) hn W g _ (Nat.le_refl _) (by unfold maxLen; omega) hA).mono fun _ _ hr => hr.retF (by rw [pl_len]; have := tn_le (dq L.length (cq L) x) L.length; unfold maxLen; omega))
  generalize hres : pl L.length (dq L.length (cq L) x) = res at *
  unfold RetA at T1
  generalize cq L = f at *
  generalize L.length = n at *
  have hS := Lib.hid (hq_step n f x); have hE := Lib.hid (hq_end n f x); have hZ := Lib.hid (hq_zero n f x)
  have hnI : (n : Int) ≤ 4294967296 := by omega
  clear h hl hres
  go_enter Try.func23, Try.ntmps23
  go_upto_region 1 with fail
  refine wp_gen (fun W => Below w.heap.size w W ∧ Var W w.heap.size x0 x1 ∧ Var W (w.heap.size + 1) 0 0 ∧ w.heap.size + 2 ≤ W.heap.size) ⟨((Below.refl _ _).alloc (Nat.le_refl _) _).alloc (by simp) _, by simp [Var, go_sem], by simp [Var, go_sem], by simp⟩ ?_
  rintro W1 ⟨hB, hX, hZ0, hsz⟩
  have T := T1 W1 hB
  clear T1
  go_upto_region 2 with (go_at_call 19; ((with_reducible refine T.mono ?_); rintro e W2 ⟨g, rfl, hg, hb, hA⟩; clear T))
  refine wp_gen (fun W => Below w.heap.size w W ∧ Var W w.heap.size x0 x1 ∧ Var W (w.heap.size + 1) 0 0 ∧ Arr W g (n * 2) (pc fun j => encP (f j)) ∧ w.heap.size + 2 ≤ W.heap.size) ⟨bthen hB hb, hX.keep hb, hZ0.keep hb, hA, Nat.le_trans hsz hb.size⟩ ?_
  have hg2 : w.heap.size + 2 ≤ g := Nat.le_trans hsz hg
  clear hB hX hZ0 hsz hg hb hA
  rintro W3 ⟨hB, hX, hZ0, hA, hsz⟩
  have hgl : 0 < n → g < W3.heap.size := fun h0 => hA.lt (by omega)
  go_upto_region 4 with fail
  refine wp_gen (fun W => Below w.heap.size w W ∧ Var W w.heap.size x0 x1 ∧ Var W (w.heap.size + 1) 0 0 ∧ Var W W3.heap.size (enc (hq n f x n).a) (enc (hq n f x n).b) ∧ Arr W g (n * 2) (pc (dvs n f x n))) ⟨hB.alloc hB.size _, hX.alloc _, hZ0.alloc _, by rw [hE.out n (Nat.le_refl _)]; exact Var.new _ _ _ _, (hA.alloc _).same (pc_same fun j hj => dvs_start n f x j hj)⟩ ?_
  clear hB hX hZ0 hA
  rintro W4 ⟨hB, hX, hZ0, hO, hA⟩
  generalize W3.heap.size = gl at *
  have hglw : w.heap.size + 1 < gl := by omega
  go_loopw [8] (PgDivDown w f x n x0 x1 g gl) (fun i _ => (intOf i + 1).toNat)
  case atStart => exact ⟨n, Nat.le_refl _, by rfl, hB, hX, hZ0, hO, hA⟩
  case round =>
    clear hB hX hZ0 hO hA
    obtain ⟨k1, hk, rfl, hB, hX, hZ0, hO, hA⟩ := hrel
    rcases Nat.eq_zero_or_pos k1 with hk0 | hk0
    · subst hk0
      rw [hZ.out] at hO
      have p0 : ((0 : Nat) : Int) - 1 = -1 := by omega
      rw [p0]
      have HS0 : Hid (w.heap.size + 1 < wr.heap.size) := Lib.hid (hZ0.lt)
      have T := fun W (hb : Below wr.heap.size wr W) => HTR.out W _ ((hA.keep hb).same (pc_same (fun j _ => dvs_end n f x j)))
      have HB := Lib.hid hB; have HZ0 := Lib.hid hZ0
      generalize hqq : qe n f x = r at *
      obtain ⟨c0, c1, f0, f1⟩ := hO
      clear hX hA hB hZ0 hqq
      go_upto_region 7 with fail
      refine wp_loose [(31, []), (32, [31]), (33, []), (4, [32])]
        (PgDivR7 n g wr.heap.size res (enc r.a) (enc r.b)) (fun d => false) (by kernel_rfl) (by kernel_rfl) (fun _ _ _ _ h hb => h.keep hb) ?_ ?_
      · refine opsrun_cons ?_ (opsrun_cons ?_ (opsrun_cons ?_ (opsrun_cons ?_ opsrun_nil)))
        all_goals
          refine OpRuns.any ?_
          intro Q0 σ W' K hb hn hK
          simp only [fill, List.map, Act.put, List.setIfInBounds_toArray, List.set_cons_zero, List.set_cons_succ] at hK ⊢
        · clear hn
          go_simp
          exact hK _ _ rfl (Below.refl _ _) (fun h => absurd h (by decide))
        · have h31 : σ 31 = _ := hn 31 (by decide)
          clear hn
          simp only [h31] at hK
          go_simp
          go_at_call 19
          refine (T _ hb).mono ?_
          rintro e w1 ⟨v1, rfl, hb1, hp, hfr⟩
          exact hK _ _ ⟨hp, hfr.less hb.size⟩ hb1 (fun h => absurd h (by decide))
        · clear hn
          have c0' := bkeep hb c0
          have c1' := bkeep hb c1
          clear c0 c1
          go_simp
          exact hK _ _ rfl (Below.refl _ _) (fun h => absurd h (by decide))
        · have h32 : IsP W' (σ 32) res ∧ Fresh wr.heap.size (σ 32) := hn 32 (by decide)
          clear hn
          go_simp
          exact hK _ _ h32 (Below.refl _ _) (fun h => absurd h (by decide))
      · intro σ W' hb hR' hF
        have h33 : σ 33 = _ := hR' 33 (by decide)
        obtain ⟨hp, hfr⟩ : IsP W' (σ 4) res ∧ Fresh wr.heap.size (σ 4) := hR' 4 (by decide)
        generalize hv1 : σ 4 = v1 at *
        have HP := Lib.hid hp
        have hZ0 := HZ0.out.keep hb
        replace HB := Lib.hid (bthen HB.out hb)
        obtain ⟨d0, d1, e0, e1⟩ := hZ0
        clear hR' hF c0 c1 f0 f1 hb hp T
        simp only [fill, List.map, Act.put, List.setIfInBounds_toArray, List.set_cons_zero, List.set_cons_succ, List.length_cons, List.length_nil, List.drop_succ_cons, List.drop_zero, Nat.reduceAdd, h33, hv1]
        clear h33 hv1
        have hws := HS0.out
        go_wp2_with fail
        exact bodyPost_ret (v := .tuple #[v1, .agg #[.int .u64 (enc r.a), .int .u64 (enc r.b)]]) (by simp [results, Try.results23, go_sem, d0, d1]) rfl ⟨v1, rfl, (HB.out.setCell (by show w.heap.size ≤ w.heap.size + 1; omega) _).setCell (by show w.heap.size ≤ w.heap.size + 1; omega) _, (HP.out.far (hfr.less (Nat.le_refl _)) hws _ _).far (hfr.less (Nat.le_refl _)) hws _ _⟩
    · obtain ⟨k, rfl⟩ : ∃ k, k1 = k + 1 := ⟨k1 - 1, by omega⟩
      have p1 : ((k + 1 : Nat) : Int) - 1 = (k : Int) := by omega
      rw [p1]
      have hkn : k < n := by omega
      have hgg : g ≠ gl := by have := hgl (by omega); omega
      have hgg' : gl ≠ g := fun h => hgg h.symm
      have e := hS.out k hkn
      have HST := Lib.hid (fun y (hy : hq n f x (k + 1) = y) j => dvs_step hy j)
      obtain ⟨z0c, z1c, _, _⟩ := hA.cells k hkn
      rw [dvs_at] at z0c z1c
      simp only [encP] at z0c z1c
      generalize hO1 : hq n f x (k + 1) = o at *
      generalize hO' : hq n f x k = o' at *
      generalize hfz : f k = z at *
      obtain ⟨m, hmm⟩ : ∃ m, o * x = m := ⟨_, rfl⟩
      rw [hmm] at e
      have m1 := pmul_q (enc o.a) (enc o.b) x0 x1 o x m (rep_enc o) hx hmm
      have a1 := padd_q (enc m.a) (enc m.b) (enc z.a) (enc z.b) m z o' (rep_enc m) (rep_enc z) e.symm
      have HO' := Lib.hid hO'
      have HS2 := Lib.hid (HST.out o rfl)
      have HXX := Lib.hid hX; have HOO := Lib.hid hO; have HZ0 := Lib.hid hZ0; have HB := Lib.hid hB; have HA := Lib.hid hA
      obtain ⟨x0c, x1c, _, _⟩ := hX
      obtain ⟨o0c, o1c, _, _⟩ := hO
      have hk1 : (k : Int) < (n : Int) := by omega
      have hk0' : (0 : Int) ≤ (k : Int) := by omega
      clear e hmm hO' hO1 hZ0 hB p1 hk0 hA HST hfz
      go_upto_region 6 with fail
      refine wp_loose [(19, []), (20, []), (21, []), (22, []), (23, []), (24, [22, 23]), (25, []), (26, []), (27, [25, 26]), (28, [27]), (29, [24, 28]), (30, [19, 20])]
        (PgDivR g n k (enc o.a) (enc o.b) x0 x1 (enc m.a) (enc m.b) (enc z.a) (enc z.b) (enc o'.a) (enc o'.b)) (fun d => false) (by kernel_rfl) (by kernel_rfl) (fun _ _ _ _ h hb => h.keep hb) ?_ ?_
      · refine opsrun_cons ?_ (opsrun_cons ?_ (opsrun_cons ?_ (opsrun_cons ?_ (opsrun_cons ?_ (opsrun_cons ?_ (opsrun_cons ?_ (opsrun_cons ?_ (opsrun_cons ?_ (opsrun_cons ?_ (opsrun_cons ?_ (opsrun_cons ?_ opsrun_nil)))))))))))
        all_goals
          refine OpRuns.any ?_
          intro Q0 σ W' K hb hn hK
          simp only [fill, List.map, Act.put, List.setIfInBounds_toArray, List.set_cons_zero, List.set_cons_succ] at hK ⊢
        · clear hn
          go_simp
          exact hK _ _ rfl (Below.refl _ _) (fun h => absurd h (by decide))
        · clear hn
          go_simp
          exact hK _ _ rfl (Below.refl _ _) (fun h => absurd h (by decide))
        · clear hn
          have o0c' := bkeep hb o0c
          have o1c' := bkeep hb o1c
          clear o0c o1c
          go_simp
          exact hK _ _ rfl (Below.refl _ _) (fun h => absurd h (by decide))
        · clear hn
          have o0c' := bkeep hb o0c
          have o1c' := bkeep hb o1c
          clear o0c o1c
          go_simp
          exact hK _ _ rfl (Below.refl _ _) (fun h => absurd h (by decide))
        · clear hn
          have x0c' := bkeep hb x0c
          have x1c' := bkeep hb x1c
          clear x0c x1c
          go_simp
          exact hK _ _ rfl (Below.refl _ _) (fun h => absurd h (by decide))
        · have h22 : σ 22 = _ := hn 22 (by decide)
          have h23 : σ 23 = _ := hn 23 (by decide)
          clear hn
          simp only [h22, h23] at hK
          go_simp
          go_at_call 34
          refine (m1 _).mono ?_
          rintro e w1 ⟨rfl, hb1⟩
          exact hK _ _ rfl hb1 (fun h => absurd h (by decide))
        · clear hn
          go_simp
          exact hK _ _ rfl (Below.refl _ _) (fun h => absurd h (by decide))
        · clear hn
          go_simp
          exact hK _ _ rfl (Below.refl _ _) (fun h => absurd h (by decide))
        · have h25 : σ 25 = _ := hn 25 (by decide)
          have h26 : σ 26 = _ := hn 26 (by decide)
          clear hn
          simp only [h25, h26] at hK
          go_simp
          exact hK _ _ rfl (Below.refl _ _) (fun h => absurd h (by decide))
        · have h27 : σ 27 = _ := hn 27 (by decide)
          clear hn
          simp only [h27] at hK
          have z0c' := bkeep hb z0c
          have z1c' := bkeep hb z1c
          clear z0c z1c
          go_simp
          exact hK _ _ rfl (Below.refl _ _) (fun h => absurd h (by decide))
        · have h24 : σ 24 = _ := hn 24 (by decide)
          have h28 : σ 28 = _ := hn 28 (by decide)
          clear hn
          simp only [h24, h28] at hK
          go_simp
          go_at_call 33
          refine (a1 _).mono ?_
          rintro e w1 ⟨rfl, hb1⟩
          exact hK _ _ rfl hb1 (fun h => absurd h (by decide))
        · have h19 : σ 19 = _ := hn 19 (by decide)
          have h20 : σ 20 = _ := hn 20 (by decide)
          clear hn
          simp only [h19, h20] at hK
          go_simp
          exact hK _ _ rfl (Below.refl _ _) (fun h => absurd h (by decide))
      · intro σ W' hb hR' hF
        have h21 : σ 21 = _ := hR' 21 (by decide)
        have h29 : σ 29 = _ := hR' 29 (by decide)
        have h30 : σ 30 = _ := hR' 30 (by decide)
        replace HB := Lib.hid (bthen HB.out hb)
        replace HXX := Lib.hid (HXX.out.keep hb)
        replace HZ0 := Lib.hid (HZ0.out.keep hb)
        have hO := HOO.out.keep hb
        have HO := Lib.hid hO
        have hA := HA.out.keep hb
        replace HA := Lib.hid hA
        obtain ⟨c0, c1, f0, f1⟩ := hA.cells k hkn
        obtain ⟨d0, d1, e0, e1⟩ := hO
        clear hR' hF x0c x1c o0c o1c z0c z1c hb m1 a1 hA HOO
        simp only [fill, List.map, Act.put, List.setIfInBounds_toArray, List.set_cons_zero, List.set_cons_succ, List.length_cons, List.length_nil, List.drop_succ_cons, List.drop_zero, Nat.reduceAdd, h21, h29, h30]
        clear h21 h29 h30
        go_wp2_with fail
        go_roundw
        case rel => exact ⟨k, by omega, by rfl, (((HB.out.setCell (by show w.heap.size ≤ g; omega) _).setCell (by show w.heap.size ≤ g; omega) _).setCell (by show w.heap.size ≤ gl; omega) _).setCell (by show w.heap.size ≤ gl; omega) _, (((HXX.out.far (by omega) _ _).far (by omega) _ _).far (by omega) _ _).far (by omega) _ _, (((HZ0.out.far (by omega) _ _).far (by omega) _ _).far (by omega) _ _).far (by omega) _ _, by rw [HO'.out]; exact ((HO.out.far hgg _ _).far hgg _ _).set _ _, ((((HA.out.setq k (enc o.a) (enc o.b) hkn).same (pc_same fun j _ => HS2.out j)).far hgg' _ _).far hgg' _ _)⟩
        case measure => simp [intOf]
theorem pdivide_is (v : Value) (l : List F2) (x0 x1 : Int) (x : F2) (w : World) (h : Poly w v l) (hx : Rep x0 x1 x) (hl : l.length ≤ 4294967296) : Calls Try.prog 23 #[v, .agg #[.int .u64 x0, .int .u64 x1]] w (RetD (divP l x) (atP l x) w) := by
  obtain ⟨a, ca, rfl⟩ := h.slice
  exact pdiv_core a ca _ l x0 x1 x w h hx hl
end Go.Proofs.Ytajmfpnkcenhaaa
