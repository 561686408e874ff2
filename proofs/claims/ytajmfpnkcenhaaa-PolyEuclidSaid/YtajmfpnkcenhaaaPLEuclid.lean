/-
  The walk of PolyEuclid: it answers true, where the program's calls do what is asked of them. (Written by gen_plaw_euclid.py.)
-/
import Derived.Test.YtajmfpnkcenhaaaPolyLem
namespace Go.Proofs.Ytajmfpnkcenhaaa
open Go.RowKit Go.Sort Go.BigFrame
set_option linter.unusedVariables false

def EucR4 (v7 : Value) (x0 x1 : Int) (nx r : F2) (lM lT : List F2) (sl : Nat) (v : Value) (W : World) : Prop :=
  match sl with
  | 20 => v = v7
  | 21 => v = .agg #[.int .u64 x0, .int .u64 x1]
  | 22 => v = .agg #[.int .u64 (enc nx.a), .int .u64 (enc nx.b)]
  | 23 => v = .agg #[.int .u64 1, .int .u64 0]
  | 24 => IsP W v [nx, 1]
  | 25 => IsP W v lM
  | 26 => v = .agg #[.int .u64 (enc r.a), .int .u64 (enc r.b)]
  | 27 => IsP W v [r]
  | 28 => IsP W v lT
  | 9 => IsP W v lT
  | _ => v = .bool true
theorem EucR4.keep {v7 : Value} {x0 x1 : Int} {nx r : F2} {lM lT : List F2} {sl : Nat} {v : Value} {W W' : World} (h : EucR4 v7 x0 x1 nx r lM lT sl v W) (hb : Below W.heap.size W W') : EucR4 v7 x0 x1 nx r lM lT sl v W' := by
  unfold EucR4 at *
  split at h
  all_goals first | exact h | exact IsP.keep h hb
def EucR5 (a : Option Addr) (la ca : Nat) (v7 v9 : Value) (x0 x1 y0 y1 dq' dl : Int) (r ml al aq su : F2) (lT lP lA : List F2) (sl : Nat) (v : Value) (W : World) : Prop :=
  match sl with
  | 32 => v = .slice a la ca
  | 38 => v = .slice a la ca
  | 46 => v = .slice a la ca
  | 53 => v = .slice a la ca
  | 58 => v = .slice a la ca
  | 68 => v = .slice a la ca
  | 73 => v = .slice a la ca
  | 44 => v = v7
  | 54 => v = v7
  | 61 => v = v7
  | 69 => v = v7
  | 76 => v = v7
  | 31 => v = v9
  | 33 => IsP W v lT
  | 37 => v = .agg #[.int .u64 (enc r.a), .int .u64 (enc r.b)]
  | 39 => v = .agg #[.int .u64 x0, .int .u64 x1]
  | 40 => v = .agg #[.int .u64 (enc r.a), .int .u64 (enc r.b)]
  | 45 => v = .int .i64 dq'
  | 47 => v = .int .i64 dl
  | 48 => v = .int .i64 (dl - 1)
  | 49 => v = .int .i64 dq'
  | 56 => v = .agg #[.int .u64 y0, .int .u64 y1]
  | 59 => v = .agg #[.int .u64 y0, .int .u64 y1]
  | 62 => v = .agg #[.int .u64 y0, .int .u64 y1]
  | 71 => v = .agg #[.int .u64 y0, .int .u64 y1]
  | 74 => v = .agg #[.int .u64 y0, .int .u64 y1]
  | 77 => v = .agg #[.int .u64 y0, .int .u64 y1]
  | 55 => IsP W v lP
  | 57 => v = .agg #[.int .u64 (enc ml.a), .int .u64 (enc ml.b)]
  | 60 => v = .agg #[.int .u64 (enc al.a), .int .u64 (enc al.b)]
  | 63 => v = .agg #[.int .u64 (enc aq.a), .int .u64 (enc aq.b)]
  | 64 => v = .agg #[.int .u64 (enc ml.a), .int .u64 (enc ml.b)]
  | 70 => IsP W v lA
  | 72 => v = .agg #[.int .u64 (enc su.a), .int .u64 (enc su.b)]
  | 75 => v = .agg #[.int .u64 (enc al.a), .int .u64 (enc al.b)]
  | 78 => v = .agg #[.int .u64 (enc aq.a), .int .u64 (enc aq.b)]
  | 79 => v = .agg #[.int .u64 (enc su.a), .int .u64 (enc su.b)]
  | _ => v = .bool true
theorem EucR5.keep {a : Option Addr} {la ca : Nat} {v7 v9 : Value} {x0 x1 y0 y1 dq' dl : Int} {r ml al aq su : F2} {lT lP lA : List F2} {sl : Nat} {v : Value} {W W' : World} (h : EucR5 a la ca v7 v9 x0 x1 y0 y1 dq' dl r ml al aq su lT lP lA sl v W) (hb : Below W.heap.size W W') : EucR5 a la ca v7 v9 x0 x1 y0 y1 dq' dl r ml al aq su lT lP lA sl v W' := by
  unfold EucR5 at *
  split at h
  all_goals first | exact h | exact IsP.keep h hb

set_option maxRecDepth 100000 in
set_option maxHeartbeats 8000000 in
theorem peuclid_body (hA : AskPoly) (aw : ∀ W, Calls Try.prog 9 #[] W fun e w' => e = .returned (.bool true) ∧ Below W.heap.size W w') (a : Option Addr) (la ca : Nat) (l : List F2) (x0 x1 y0 y1 : Int) (x y : F2) (w : World) (h1 : Poly w (.slice a la ca) l) (hx : Rep x0 x1 x) (hy : Rep y0 y1 y) :
    Calls Try.prog 5 #[.slice a la ca, .agg #[.int .u64 x0, .int .u64 x1], .agg #[.int .u64 y0, .int .u64 y1]] w fun e w' => e = .returned (.bool true) ∧ Below w.heap.size w w' := by
  have e1 := h1.at.1
  by_cases hc : la ≤ 30
  · have hq : (divP l x).length ≤ 30 := by unfold divP; rw [pl_len]; exact Nat.le_trans (tn_le _ _) (by omega)
    have n1' : (la : Int) ≤ 30 := by omega
    have D1 := fun W (h : Poly W (.slice a la ca) l) => hA.divide _ l x0 x1 x W h hx (by omega)
    have HH1 := Lib.hid h1
    clear h1
    go_enter Try.func5, Try.ntmps5
    have hb0 := ((Below.refl w.heap.size w).alloc (Nat.le_refl _) (.cells #[.int .u64 x0, .int .u64 x1] 25)).alloc (by simp) (.cells #[.int .u64 y0, .int .u64 y1] 25)
    go_upto_region 3 with fail
    refine wp_gen (fun W => Below w.heap.size w W ∧ Var W w.heap.size x0 x1 ∧ Var W (w.heap.size + 1) y0 y1) ⟨hb0, (Var.new w x0 x1 _).alloc _, by simpa using Var.new (w.alloc (.cells #[.int .u64 x0, .int .u64 x1] 25)) y0 y1 25⟩ ?_
    clear hb0
    rintro W0 ⟨hB0, hX0, hY0⟩
    have D := D1 W0 (HH1.out.keep hB0)
    have HX0 := Lib.hid hX0; have HY0 := Lib.hid hY0; have HB0 := Lib.hid hB0
    obtain ⟨xc0, xc1, _, _⟩ := hX0
    clear hY0 hB0 D1
    go_upto_region 4 with ((go_at_call 23; ((with_reducible refine D.mono ?_); rintro e W1 ⟨v7, rfl, hb, hp⟩)))
    refine wp_gen (fun W => Below w.heap.size w W ∧ Var W w.heap.size x0 x1 ∧ Var W (w.heap.size + 1) y0 y1 ∧ Var W W1.heap.size (enc (atP l x).a) (enc (atP l x).b) ∧ IsP W v7 (divP l x) ∧ Poly W (.slice a la ca) l) ⟨(bthen HB0.out hb).alloc (bthen HB0.out hb).size _, (HX0.out.keep hb).alloc _, (HY0.out.keep hb).alloc _, Var.new _ _ _ _, hp.keep ((Below.refl _ _).alloc (Nat.le_refl _) _), (HH1.out.keep (bthen HB0.out hb)).keep ((Below.refl _ _).alloc (Nat.le_refl _) _)⟩ ?_
    clear HX0 HY0 HB0 D hb hp xc0 xc1
    rintro W2 ⟨hB, hX, hY, hR, h7, hl⟩
    generalize hg8 : W1.heap.size = g8 at *
    have er := euclidP l x
    have edq := degP_div l x
    have edl := degP_nn l
    have em := fun z => atP_mul l (divP l x) z
    have ea := fun z => atP_add l (divP l x) z
    generalize hqq : divP l x = q at *
    generalize hrr : atP l x = r at *
    obtain ⟨nx, hnx⟩ : ∃ nx, -x = nx := ⟨_, rfl⟩
    rw [hnx] at er
    have hMl : (mulP q [nx, 1]).length ≤ 60 := by unfold mulP; rw [pl_len]; exact Nat.le_trans (tn_le _ _) (by simp; omega)
    have n1 := fun W => rneg_q x0 x1 x nx hx hnx W
    have k2 := fun W v24 (hb : Below W2.heap.size W2 W) (hp : IsP W v24 [nx, 1]) => hA.mul v7 v24 q [nx, 1] W (h7.keep hb).poly hp.poly (by omega) (by simp)
    have k3 := fun W v25 v27 (h25 : IsP W v25 (mulP q [nx, 1])) (h27 : IsP W v27 [r]) => hA.add v25 v27 (mulP q [nx, 1]) [r] W h25.poly h27.poly (by omega) (by simp)
    rw [er] at k3
    have HB := Lib.hid hB; have HX := Lib.hid hX; have HY := Lib.hid hY; have HR := Lib.hid hR; have H7 := Lib.hid h7; have HL := Lib.hid hl
    have EDQ := Lib.hid edq; have EDL := Lib.hid edl; have EM := Lib.hid em; have EA := Lib.hid ea; have HRR := Lib.hid hrr
    obtain ⟨xc0, xc1, _, _⟩ := hX
    obtain ⟨rc0, rc1, _, _⟩ := hR
    generalize mulP q [nx, 1] = lM at *
    generalize hlT : trimP l = lT at *
    have HLT := Lib.hid hlT
    clear hB hY h7 hl er edq edl em ea hqq hrr hnx hlT
    refine wp_loose [(20, []), (21, []), (22, [21]), (23, []), (24, [22, 23]), (25, [20, 24]), (26, []), (27, [26]), (28, [25, 27]), (9, [28])]
      (EucR4 v7 x0 x1 nx r lM lT) (fun d => false) (by kernel_rfl) (by kernel_rfl) (fun _ _ _ _ h hb => h.keep hb) ?_ ?_
    · refine opsrun_cons ?_ (opsrun_cons ?_ (opsrun_cons ?_ (opsrun_cons ?_ (opsrun_cons ?_ (opsrun_cons ?_ (opsrun_cons ?_ (opsrun_cons ?_ (opsrun_cons ?_ (opsrun_cons ?_ opsrun_nil)))))))))
      all_goals
        refine OpRuns.any ?_
        intro Q0 σ W' K hb hn hK
        simp only [fill, List.map, Act.put, List.setIfInBounds_toArray, List.set_cons_zero, List.set_cons_succ] at hK ⊢
      · clear hn
        go_simp
        exact hK _ _ rfl (Below.refl _ _) (fun h => absurd h (by decide))
      · clear hn
        have xc0' := bkeep hb xc0
        have xc1' := bkeep hb xc1
        clear xc0 xc1
        go_simp
        exact hK _ _ rfl (Below.refl _ _) (fun h => absurd h (by decide))
      · have h21 : σ 21 = _ := hn 21 (by decide)
        clear hn
        simp only [h21] at hK
        go_simp
        go_at_call 29
        refine (n1 _).mono ?_
        rintro e w1 ⟨rfl, hb1⟩
        exact hK _ _ rfl hb1 (fun h => absurd h (by decide))
      · clear hn
        go_simp
        exact hK _ _ rfl (Below.refl _ _) (fun h => absurd h (by decide))
      · have h22 : σ 22 = _ := hn 22 (by decide)
        have h23 : σ 23 = _ := hn 23 (by decide)
        clear hn
        simp only [h22, h23] at hK
        go_simp
        exact hK _ _ (isP_two (by simp [go_sem]) (by simp [go_sem]) (by simp [go_sem]; rfl) (by simp [go_sem]; rfl)) ((Below.refl _ _).alloc (Nat.le_refl _) _) (fun h => absurd h (by decide))
      · have h20 : σ 20 = _ := hn 20 (by decide)
        have p24 : IsP W' (σ 24) [nx, 1] := hn 24 (by decide)
        clear hn
        simp only [h20] at hK
        go_simp
        go_at_call 13
        refine (k2 _ _ hb p24).mono ?_
        rintro e w1 ⟨v1, rfl, hb1, hp⟩
        exact hK _ _ hp hb1 (fun h => absurd h (by decide))
      · clear hn
        have rc0' := bkeep hb rc0
        have rc1' := bkeep hb rc1
        clear rc0 rc1
        go_simp
        exact hK _ _ rfl (Below.refl _ _) (fun h => absurd h (by decide))
      · have h26 : σ 26 = _ := hn 26 (by decide)
        clear hn
        simp only [h26] at hK
        go_simp
        exact hK _ _ (isP_one (by simp [go_sem]) (by simp [go_sem])) ((Below.refl _ _).alloc (Nat.le_refl _) _) (fun h => absurd h (by decide))
      · have p25 : IsP W' (σ 25) lM := hn 25 (by decide)
        have p27 : IsP W' (σ 27) [r] := hn 27 (by decide)
        clear hn
        go_simp
        go_at_call 11
        refine (k3 _ _ _ p25 p27).mono ?_
        rintro e w1 ⟨v1, rfl, hb1, hp⟩
        exact hK _ _ hp hb1 (fun h => absurd h (by decide))
      · have p28 : IsP W' (σ 28) lT := hn 28 (by decide)
        clear hn
        go_simp
        exact hK _ _ p28 (Below.refl _ _) (fun h => absurd h (by decide))
    · intro σ W' hb hR' hF
      have h9 : IsP W' (σ 9) lT := hR' 9 (by decide)
      generalize hv9 : σ 9 = v9 at *
      simp only [fill, List.map, Act.put, List.setIfInBounds_toArray, List.set_cons_zero, List.set_cons_succ, List.length_cons, List.length_nil, List.drop_succ_cons, List.drop_zero, Nat.reduceAdd, hv9]
      clear hv9
      go_upto_region 5 with fail
      refine wp_gen (fun W => Below w.heap.size w W ∧ Var W w.heap.size x0 x1 ∧ Var W (w.heap.size + 1) y0 y1 ∧ Var W g8 (enc r.a) (enc r.b) ∧ IsP W v7 q ∧ IsP W v9 lT ∧ Poly W (.slice a la ca) l) ⟨bthen HB.out hb, HX.out.keep hb, HY.out.keep hb, HR.out.keep hb, H7.out.keep hb, h9, HL.out.keep hb⟩ ?_
      clear hR' hF hb HB HX HY HR H7 HL h9 xc0 xc1 rc0 rc1 n1 k2 k3
      rintro W3 ⟨hB, ⟨xc0, xc1, _, _⟩, ⟨yc0, yc1, _, _⟩, ⟨rc0, rc1, _, _⟩, h7, h9, hl⟩
      have HMX : Hid ((-1 ≤ degP l - 1 ∧ degP q = degP l - 1) ∨ (degP l - 1 < -1 ∧ degP q = -1)) := Lib.hid (by have := EDQ.out; omega)
      have V9 := fun W (hb : Below W3.heap.size W3 W) => h9.keep hb
      have c33 := fun W (hb : Below W3.heap.size W3 W) => hA.trim _ l W (hl.keep hb) (by omega)
      have c40 := fun W (hb : Below W3.heap.size W3 W) => hA.at' _ l x0 x1 x W (hl.keep hb) hx (by omega)
      have c45 := fun W (hb : Below W3.heap.size W3 W) => hA.degree _ q W (h7.keep hb).poly (by omega)
      have c47 := fun W (hb : Below W3.heap.size W3 W) => hA.degree _ l W (hl.keep hb) (by omega)
      have c55 := fun W (hb : Below W3.heap.size W3 W) => hA.mul _ _ l q W (hl.keep hb) (h7.keep hb).poly (by omega) (by omega)
      have hPl : (mulP l q).length ≤ 60 := by unfold mulP; rw [pl_len]; exact Nat.le_trans (tn_le _ _) (by omega)
      have hAl : (addP l q).length ≤ 60 := by unfold addP; rw [pl_len]; exact Nat.le_trans (tn_le _ _) (by omega)
      have c57 := fun W v (h : IsP W v (mulP l q)) => hA.at' _ (mulP l q) y0 y1 y W h.poly hy (by omega)
      have c60 := fun W (hb : Below W3.heap.size W3 W) => hA.at' _ l y0 y1 y W (hl.keep hb) hy (by omega)
      have c63 := fun W (hb : Below W3.heap.size W3 W) => hA.at' _ q y0 y1 y W (h7.keep hb).poly hy (by omega)
      have c64 := fun W => rmul_q (enc (atP l y).a) (enc (atP l y).b) (enc (atP q y).a) (enc (atP q y).b) (atP l y) (atP q y) (atP (mulP l q) y) (rep_enc _) (rep_enc _) (EM.out y).symm W
      have c70 := fun W (hb : Below W3.heap.size W3 W) => hA.add _ _ l q W (hl.keep hb) (h7.keep hb).poly (by omega) (by omega)
      have c72 := fun W v (h : IsP W v (addP l q)) => hA.at' _ (addP l q) y0 y1 y W h.poly hy (by omega)
      have c79 := fun W => radd_q (enc (atP l y).a) (enc (atP l y).b) (enc (atP q y).a) (enc (atP q y).b) (atP l y) (atP q y) (atP (addP l q) y) (rep_enc _) (rep_enc _) (EA.out y).symm W
      rw [HLT.out] at c33
      rw [HRR.out] at c40
      have dl0 := EDL.out.1
      have dl1 : degP l ≤ 30 := by have := EDL.out.2; omega
      generalize degP l = dl at *
      generalize degP q = dq' at *
      have HW48 : Hid (IntKind.i64.wrap (dl - 1) = dl - 1) := Lib.hid (IntWalk.i64_in _ (by omega))
      generalize atP (mulP l q) y = ml at *
      generalize atP (addP l q) y = su at *
      generalize atP l y = al at *
      generalize atP q y = aq at *
      generalize mulP l q = lP at *
      generalize addP l q = lA at *
      have HB := Lib.hid hB
      clear hB h7 h9 hl EDQ EDL EM EA HLT HRR hA
      refine wp_loose [(29, []), (30, [29]), (31, [30]), (32, [30]), (33, [30, 32]), (34, [30, 31, 33]), (35, [30, 34]), (36, [35]), (37, [36]), (38, [36]), (39, [36]), (40, [36, 38, 39]), (41, [36, 37, 40]), (42, [36, 41]), (43, [42]), (44, [43]), (45, [43, 44]), (46, [43]), (47, [43, 46]), (48, [43, 47]), (49, [43, 48]), (50, [43, 45, 49]), (51, [43, 50]), (52, [51]), (53, [52]), (54, [52]), (55, [52, 53, 54]), (56, [52]), (57, [52, 55, 56]), (58, [52]), (59, [52]), (60, [52, 58, 59]), (61, [52]), (62, [52]), (63, [52, 61, 62]), (64, [52, 60, 63]), (65, [52, 57, 64]), (66, [52, 65]), (67, [66]), (68, [67]), (69, [67]), (70, [67, 68, 69]), (71, [67]), (72, [67, 70, 71]), (73, [67]), (74, [67]), (75, [67, 73, 74]), (76, [67]), (77, [67]), (78, [67, 76, 77]), (79, [67, 75, 78]), (80, [67, 72, 79]), (81, [67, 80]), (6, [81])]
        (EucR5 a la ca v7 v9 x0 x1 y0 y1 dq' dl r ml al aq su lT lP lA) (fun d => false) (by kernel_rfl) (by kernel_rfl) (fun _ _ _ _ h hb => h.keep hb) ?_ ?_
      · refine opsrun_cons ?_ (opsrun_cons ?_ (opsrun_cons ?_ (opsrun_cons ?_ (opsrun_cons ?_ (opsrun_cons ?_ (opsrun_cons ?_ (opsrun_cons ?_ (opsrun_cons ?_ (opsrun_cons ?_ (opsrun_cons ?_ (opsrun_cons ?_ (opsrun_cons ?_ (opsrun_cons ?_ (opsrun_cons ?_ (opsrun_cons ?_ (opsrun_cons ?_ (opsrun_cons ?_ (opsrun_cons ?_ (opsrun_cons ?_ (opsrun_cons ?_ (opsrun_cons ?_ (opsrun_cons ?_ (opsrun_cons ?_ (opsrun_cons ?_ (opsrun_cons ?_ (opsrun_cons ?_ (opsrun_cons ?_ (opsrun_cons ?_ (opsrun_cons ?_ (opsrun_cons ?_ (opsrun_cons ?_ (opsrun_cons ?_ (opsrun_cons ?_ (opsrun_cons ?_ (opsrun_cons ?_ (opsrun_cons ?_ (opsrun_cons ?_ (opsrun_cons ?_ (opsrun_cons ?_ (opsrun_cons ?_ (opsrun_cons ?_ (opsrun_cons ?_ (opsrun_cons ?_ (opsrun_cons ?_ (opsrun_cons ?_ (opsrun_cons ?_ (opsrun_cons ?_ (opsrun_cons ?_ (opsrun_cons ?_ (opsrun_cons ?_ (opsrun_cons ?_ (opsrun_cons ?_ (opsrun_cons ?_ opsrun_nil)))))))))))))))))))))))))))))))))))))))))))))))))))))
        all_goals
          refine OpRuns.any ?_
          intro Q0 σ W' K hb hn hK
          simp only [fill, List.map, Act.put, List.setIfInBounds_toArray, List.set_cons_zero, List.set_cons_succ] at hK ⊢
        · clear hn
          go_simp
          go_at_call 9
          refine (aw W').mono ?_
          rintro e w1 ⟨rfl, hb1⟩
          exact hK _ _ rfl hb1 (fun h => absurd h (by decide))
        · have h29 : σ 29 = _ := hn 29 (by decide)
          clear hn
          simp only [h29] at hK
          go_simp
          exact hK _ _ rfl (Below.refl _ _) (fun h => absurd h (by decide))
        · have h30 : σ 30 = _ := hn 30 (by decide)
          clear hn
          simp only [h30] at hK
          go_simp
          exact hK _ _ rfl (Below.refl _ _) (fun h => absurd h (by decide))
        · have h30 : σ 30 = _ := hn 30 (by decide)
          clear hn
          simp only [h30] at hK
          go_simp
          exact hK _ _ rfl (Below.refl _ _) (fun h => absurd h (by decide))
        · have h30 : σ 30 = _ := hn 30 (by decide)
          have h32 : σ 32 = _ := hn 32 (by decide)
          clear hn
          simp only [h30, h32] at hK
          go_simp
          go_at_call 19
          refine (c33 _ hb).mono ?_
          rintro e w1 ⟨v1, rfl, hb1, hp⟩
          exact hK _ _ hp hb1 (fun h => absurd h (by decide))
        · have h30 : σ 30 = _ := hn 30 (by decide)
          have h31 : σ 31 = _ := hn 31 (by decide)
          have p33 : IsP W' (σ 33) lT := hn 33 (by decide)
          clear hn
          simp only [h30, h31] at hK
          go_simp
          go_at_call 10
          refine (sameP _ _ _ _ (V9 _ hb) p33).mono ?_
          rintro e w1 ⟨rfl, hb1⟩
          exact hK _ _ rfl hb1 (fun h => absurd h (by decide))
        · have h30 : σ 30 = _ := hn 30 (by decide)
          have h34 : σ 34 = _ := hn 34 (by decide)
          clear hn
          simp only [h30, h34] at hK
          go_simp
          exact hK _ _ rfl (Below.refl _ _) (fun h => absurd h (by decide))
        · have h35 : σ 35 = _ := hn 35 (by decide)
          clear hn
          simp only [h35] at hK
          go_simp
          exact hK _ _ rfl (Below.refl _ _) (fun h => absurd h (by decide))
        · have h36 : σ 36 = _ := hn 36 (by decide)
          clear hn
          simp only [h36] at hK
          have rc0' := bkeep hb rc0
          have rc1' := bkeep hb rc1
          clear rc0 rc1
          go_simp
          exact hK _ _ rfl (Below.refl _ _) (fun h => absurd h (by decide))
        · have h36 : σ 36 = _ := hn 36 (by decide)
          clear hn
          simp only [h36] at hK
          go_simp
          exact hK _ _ rfl (Below.refl _ _) (fun h => absurd h (by decide))
        · have h36 : σ 36 = _ := hn 36 (by decide)
          clear hn
          simp only [h36] at hK
          have xc0' := bkeep hb xc0
          have xc1' := bkeep hb xc1
          clear xc0 xc1
          go_simp
          exact hK _ _ rfl (Below.refl _ _) (fun h => absurd h (by decide))
        · have h36 : σ 36 = _ := hn 36 (by decide)
          have h38 : σ 38 = _ := hn 38 (by decide)
          have h39 : σ 39 = _ := hn 39 (by decide)
          clear hn
          simp only [h36, h38, h39] at hK
          go_simp
          go_at_call 21
          refine (c40 _ hb).mono ?_
          rintro e w1 ⟨rfl, hb1⟩
          exact hK _ _ rfl hb1 (fun h => absurd h (by decide))
        · have h36 : σ 36 = _ := hn 36 (by decide)
          have h37 : σ 37 = _ := hn 37 (by decide)
          have h40 : σ 40 = _ := hn 40 (by decide)
          clear hn
          simp only [h36, h37, h40] at hK
          go_simp
          exact hK _ _ rfl (Below.refl _ _) (fun h => absurd h (by decide))
        · have h36 : σ 36 = _ := hn 36 (by decide)
          have h41 : σ 41 = _ := hn 41 (by decide)
          clear hn
          simp only [h36, h41] at hK
          go_simp
          exact hK _ _ rfl (Below.refl _ _) (fun h => absurd h (by decide))
        · have h42 : σ 42 = _ := hn 42 (by decide)
          clear hn
          simp only [h42] at hK
          go_simp
          exact hK _ _ rfl (Below.refl _ _) (fun h => absurd h (by decide))
        · have h43 : σ 43 = _ := hn 43 (by decide)
          clear hn
          simp only [h43] at hK
          go_simp
          exact hK _ _ rfl (Below.refl _ _) (fun h => absurd h (by decide))
        · have h43 : σ 43 = _ := hn 43 (by decide)
          have h44 : σ 44 = _ := hn 44 (by decide)
          clear hn
          simp only [h43, h44] at hK
          go_simp
          go_at_call 17
          refine (c45 _ hb).mono ?_
          rintro e w1 ⟨rfl, hb1⟩
          exact hK _ _ rfl hb1 (fun h => absurd h (by decide))
        · have h43 : σ 43 = _ := hn 43 (by decide)
          clear hn
          simp only [h43] at hK
          go_simp
          exact hK _ _ rfl (Below.refl _ _) (fun h => absurd h (by decide))
        · have h43 : σ 43 = _ := hn 43 (by decide)
          have h46 : σ 46 = _ := hn 46 (by decide)
          clear hn
          simp only [h43, h46] at hK
          go_simp
          go_at_call 17
          refine (c47 _ hb).mono ?_
          rintro e w1 ⟨rfl, hb1⟩
          exact hK _ _ rfl hb1 (fun h => absurd h (by decide))
        · have h43 : σ 43 = _ := hn 43 (by decide)
          have h47 : σ 47 = _ := hn 47 (by decide)
          clear hn
          simp only [h43, h47] at hK
          go_simp
          exact hK _ _ (congrArg (Value.int .i64) HW48.out) (Below.refl _ _) (fun h => absurd h (by decide))
        · have h43 : σ 43 = _ := hn 43 (by decide)
          have h48 : σ 48 = _ := hn 48 (by decide)
          clear hn
          simp only [h43, h48] at hK
          rcases HMX.out with ⟨c1, c2⟩ | ⟨c1, c2⟩
          · have c3 : ¬ dl - 1 < -1 := by omega
            have c4 : 0 ≤ dl := by omega
            have c5 : ¬ dl < 0 := by omega
            have HC2 := Lib.hid c2
            clear c2
            go_simp
            exact hK _ _ (congrArg (Value.int .i64) (by have := HC2.out; omega)) (Below.refl _ _) (fun h => absurd h (by decide))
          · have c4 : ¬ 0 ≤ dl := by omega
            have c5 : dl < 0 := by omega
            have HC2 := Lib.hid c2
            clear c2
            go_simp
            exact hK _ _ (congrArg (Value.int .i64) (by have := HC2.out; omega)) (Below.refl _ _) (fun h => absurd h (by decide))
        · have h43 : σ 43 = _ := hn 43 (by decide)
          have h45 : σ 45 = _ := hn 45 (by decide)
          have h49 : σ 49 = _ := hn 49 (by decide)
          clear hn
          simp only [h43, h45, h49] at hK
          go_simp
          exact hK _ _ rfl (Below.refl _ _) (fun h => absurd h (by decide))
        · have h43 : σ 43 = _ := hn 43 (by decide)
          have h50 : σ 50 = _ := hn 50 (by decide)
          clear hn
          simp only [h43, h50] at hK
          go_simp
          exact hK _ _ rfl (Below.refl _ _) (fun h => absurd h (by decide))
        · have h51 : σ 51 = _ := hn 51 (by decide)
          clear hn
          simp only [h51] at hK
          go_simp
          exact hK _ _ rfl (Below.refl _ _) (fun h => absurd h (by decide))
        · have h52 : σ 52 = _ := hn 52 (by decide)
          clear hn
          simp only [h52] at hK
          go_simp
          exact hK _ _ rfl (Below.refl _ _) (fun h => absurd h (by decide))
        · have h52 : σ 52 = _ := hn 52 (by decide)
          clear hn
          simp only [h52] at hK
          go_simp
          exact hK _ _ rfl (Below.refl _ _) (fun h => absurd h (by decide))
        · have h52 : σ 52 = _ := hn 52 (by decide)
          have h53 : σ 53 = _ := hn 53 (by decide)
          have h54 : σ 54 = _ := hn 54 (by decide)
          clear hn
          simp only [h52, h53, h54] at hK
          go_simp
          go_at_call 13
          refine (c55 _ hb).mono ?_
          rintro e w1 ⟨v1, rfl, hb1, hp⟩
          exact hK _ _ hp hb1 (fun h => absurd h (by decide))
        · have h52 : σ 52 = _ := hn 52 (by decide)
          clear hn
          simp only [h52] at hK
          have yc0' := bkeep hb yc0
          have yc1' := bkeep hb yc1
          clear yc0 yc1
          go_simp
          exact hK _ _ rfl (Below.refl _ _) (fun h => absurd h (by decide))
        · have h52 : σ 52 = _ := hn 52 (by decide)
          have p55 : IsP W' (σ 55) lP := hn 55 (by decide)
          have h56 : σ 56 = _ := hn 56 (by decide)
          clear hn
          simp only [h52, h56] at hK
          go_simp
          go_at_call 21
          refine (c57 _ _ p55).mono ?_
          rintro e w1 ⟨rfl, hb1⟩
          exact hK _ _ rfl hb1 (fun h => absurd h (by decide))
        · have h52 : σ 52 = _ := hn 52 (by decide)
          clear hn
          simp only [h52] at hK
          go_simp
          exact hK _ _ rfl (Below.refl _ _) (fun h => absurd h (by decide))
        · have h52 : σ 52 = _ := hn 52 (by decide)
          clear hn
          simp only [h52] at hK
          have yc0' := bkeep hb yc0
          have yc1' := bkeep hb yc1
          clear yc0 yc1
          go_simp
          exact hK _ _ rfl (Below.refl _ _) (fun h => absurd h (by decide))
        · have h52 : σ 52 = _ := hn 52 (by decide)
          have h58 : σ 58 = _ := hn 58 (by decide)
          have h59 : σ 59 = _ := hn 59 (by decide)
          clear hn
          simp only [h52, h58, h59] at hK
          go_simp
          go_at_call 21
          refine (c60 _ hb).mono ?_
          rintro e w1 ⟨rfl, hb1⟩
          exact hK _ _ rfl hb1 (fun h => absurd h (by decide))
        · have h52 : σ 52 = _ := hn 52 (by decide)
          clear hn
          simp only [h52] at hK
          go_simp
          exact hK _ _ rfl (Below.refl _ _) (fun h => absurd h (by decide))
        · have h52 : σ 52 = _ := hn 52 (by decide)
          clear hn
          simp only [h52] at hK
          have yc0' := bkeep hb yc0
          have yc1' := bkeep hb yc1
          clear yc0 yc1
          go_simp
          exact hK _ _ rfl (Below.refl _ _) (fun h => absurd h (by decide))
        · have h52 : σ 52 = _ := hn 52 (by decide)
          have h61 : σ 61 = _ := hn 61 (by decide)
          have h62 : σ 62 = _ := hn 62 (by decide)
          clear hn
          simp only [h52, h61, h62] at hK
          go_simp
          go_at_call 21
          refine (c63 _ hb).mono ?_
          rintro e w1 ⟨rfl, hb1⟩
          exact hK _ _ rfl hb1 (fun h => absurd h (by decide))
        · have h52 : σ 52 = _ := hn 52 (by decide)
          have h60 : σ 60 = _ := hn 60 (by decide)
          have h63 : σ 63 = _ := hn 63 (by decide)
          clear hn
          simp only [h52, h60, h63] at hK
          go_simp
          go_at_call 30
          refine (c64 _).mono ?_
          rintro e w1 ⟨rfl, hb1⟩
          exact hK _ _ rfl hb1 (fun h => absurd h (by decide))
        · have h52 : σ 52 = _ := hn 52 (by decide)
          have h57 : σ 57 = _ := hn 57 (by decide)
          have h64 : σ 64 = _ := hn 64 (by decide)
          clear hn
          simp only [h52, h57, h64] at hK
          go_simp
          exact hK _ _ rfl (Below.refl _ _) (fun h => absurd h (by decide))
        · have h52 : σ 52 = _ := hn 52 (by decide)
          have h65 : σ 65 = _ := hn 65 (by decide)
          clear hn
          simp only [h52, h65] at hK
          go_simp
          exact hK _ _ rfl (Below.refl _ _) (fun h => absurd h (by decide))
        · have h66 : σ 66 = _ := hn 66 (by decide)
          clear hn
          simp only [h66] at hK
          go_simp
          exact hK _ _ rfl (Below.refl _ _) (fun h => absurd h (by decide))
        · have h67 : σ 67 = _ := hn 67 (by decide)
          clear hn
          simp only [h67] at hK
          go_simp
          exact hK _ _ rfl (Below.refl _ _) (fun h => absurd h (by decide))
        · have h67 : σ 67 = _ := hn 67 (by decide)
          clear hn
          simp only [h67] at hK
          go_simp
          exact hK _ _ rfl (Below.refl _ _) (fun h => absurd h (by decide))
        · have h67 : σ 67 = _ := hn 67 (by decide)
          have h68 : σ 68 = _ := hn 68 (by decide)
          have h69 : σ 69 = _ := hn 69 (by decide)
          clear hn
          simp only [h67, h68, h69] at hK
          go_simp
          go_at_call 11
          refine (c70 _ hb).mono ?_
          rintro e w1 ⟨v1, rfl, hb1, hp⟩
          exact hK _ _ hp hb1 (fun h => absurd h (by decide))
        · have h67 : σ 67 = _ := hn 67 (by decide)
          clear hn
          simp only [h67] at hK
          have yc0' := bkeep hb yc0
          have yc1' := bkeep hb yc1
          clear yc0 yc1
          go_simp
          exact hK _ _ rfl (Below.refl _ _) (fun h => absurd h (by decide))
        · have h67 : σ 67 = _ := hn 67 (by decide)
          have p70 : IsP W' (σ 70) lA := hn 70 (by decide)
          have h71 : σ 71 = _ := hn 71 (by decide)
          clear hn
          simp only [h67, h71] at hK
          go_simp
          go_at_call 21
          refine (c72 _ _ p70).mono ?_
          rintro e w1 ⟨rfl, hb1⟩
          exact hK _ _ rfl hb1 (fun h => absurd h (by decide))
        · have h67 : σ 67 = _ := hn 67 (by decide)
          clear hn
          simp only [h67] at hK
          go_simp
          exact hK _ _ rfl (Below.refl _ _) (fun h => absurd h (by decide))
        · have h67 : σ 67 = _ := hn 67 (by decide)
          clear hn
          simp only [h67] at hK
          have yc0' := bkeep hb yc0
          have yc1' := bkeep hb yc1
          clear yc0 yc1
          go_simp
          exact hK _ _ rfl (Below.refl _ _) (fun h => absurd h (by decide))
        · have h67 : σ 67 = _ := hn 67 (by decide)
          have h73 : σ 73 = _ := hn 73 (by decide)
          have h74 : σ 74 = _ := hn 74 (by decide)
          clear hn
          simp only [h67, h73, h74] at hK
          go_simp
          go_at_call 21
          refine (c60 _ hb).mono ?_
          rintro e w1 ⟨rfl, hb1⟩
          exact hK _ _ rfl hb1 (fun h => absurd h (by decide))
        · have h67 : σ 67 = _ := hn 67 (by decide)
          clear hn
          simp only [h67] at hK
          go_simp
          exact hK _ _ rfl (Below.refl _ _) (fun h => absurd h (by decide))
        · have h67 : σ 67 = _ := hn 67 (by decide)
          clear hn
          simp only [h67] at hK
          have yc0' := bkeep hb yc0
          have yc1' := bkeep hb yc1
          clear yc0 yc1
          go_simp
          exact hK _ _ rfl (Below.refl _ _) (fun h => absurd h (by decide))
        · have h67 : σ 67 = _ := hn 67 (by decide)
          have h76 : σ 76 = _ := hn 76 (by decide)
          have h77 : σ 77 = _ := hn 77 (by decide)
          clear hn
          simp only [h67, h76, h77] at hK
          go_simp
          go_at_call 21
          refine (c63 _ hb).mono ?_
          rintro e w1 ⟨rfl, hb1⟩
          exact hK _ _ rfl hb1 (fun h => absurd h (by decide))
        · have h67 : σ 67 = _ := hn 67 (by decide)
          have h75 : σ 75 = _ := hn 75 (by decide)
          have h78 : σ 78 = _ := hn 78 (by decide)
          clear hn
          simp only [h67, h75, h78] at hK
          go_simp
          go_at_call 31
          refine (c79 _).mono ?_
          rintro e w1 ⟨rfl, hb1⟩
          exact hK _ _ rfl hb1 (fun h => absurd h (by decide))
        · have h67 : σ 67 = _ := hn 67 (by decide)
          have h72 : σ 72 = _ := hn 72 (by decide)
          have h79 : σ 79 = _ := hn 79 (by decide)
          clear hn
          simp only [h67, h72, h79] at hK
          go_simp
          exact hK _ _ rfl (Below.refl _ _) (fun h => absurd h (by decide))
        · have h67 : σ 67 = _ := hn 67 (by decide)
          have h80 : σ 80 = _ := hn 80 (by decide)
          clear hn
          simp only [h67, h80] at hK
          go_simp
          exact hK _ _ rfl (Below.refl _ _) (fun h => absurd h (by decide))
        · have h81 : σ 81 = _ := hn 81 (by decide)
          clear hn
          simp only [h81] at hK
          go_simp
          exact hK _ _ rfl (Below.refl _ _) (fun h => absurd h (by decide))
      · intro σ W' hb hR' hF
        have h6 : σ 6 = _ := hR' 6 (by decide)
        replace HB := Lib.hid (bthen HB.out hb)
        clear hR' hF hb xc0 xc1 yc0 yc1 rc0 rc1 c33 c40 c45 c47 c55 c57 c60 c63 c64 c70 c72 c79 V9
        simp only [fill, List.map, Act.put, List.setIfInBounds_toArray, List.set_cons_zero, List.set_cons_succ, List.length_cons, List.length_nil, List.drop_succ_cons, List.drop_zero, Nat.reduceAdd, h6]
        clear h6
        go_wp2_with fail
        go_ret
        exact ⟨rfl, HB.out⟩
  · have c2 : 30 < la := by omega
    clear h1 hx hy hA e1 hc
    go_enter Try.func5, Try.ntmps5
    go_wp2_with (go_at_call 9; ((with_reducible refine (aw _).mono ?_); rintro e w1 ⟨rfl, hb⟩; have HB := Lib.hid ((((Below.refl w.heap.size w).alloc (Nat.le_refl _) _).alloc (by simp) _).trans (hb.mono (by simp; omega))); clear hb))
    go_ret
    exact ⟨rfl, HB.out⟩
end Go.Proofs.Ytajmfpnkcenhaaa
