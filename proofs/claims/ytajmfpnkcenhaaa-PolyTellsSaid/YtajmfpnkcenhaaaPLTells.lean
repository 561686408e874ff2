/-
  The walk of PolyTells: it answers true, where the program's calls do what is asked of them. (Written by gen_plaws.py.)
-/
import Derived.Test.YtajmfpnkcenhaaaPolyAsk
namespace Go.Proofs.Ytajmfpnkcenhaaa
open Go.RowKit Go.Sort Go.BigFrame
set_option linter.unusedVariables false

def TellsR (a b : Option Addr) (la lb ca cb : Nat) (x0 x1 y0 y1 d : Int) (lA lM lS lT : List F2) (sl : Nat) (v : Value) (W : World) : Prop :=
  match sl with
  | 18 => v = .slice a la ca
  | 21 => v = .slice a la ca
  | 27 => v = .slice a la ca
  | 30 => v = .slice a la ca
  | 36 => v = .slice a la ca
  | 39 => v = .slice a la ca
  | 45 => v = .slice a la ca
  | 47 => v = .slice a la ca
  | 52 => v = .slice a la ca
  | 54 => v = .slice a la ca
  | 59 => v = .slice a la ca
  | 62 => v = .slice a la ca
  | 19 => v = .slice b lb cb
  | 22 => v = .slice b lb cb
  | 28 => v = .slice b lb cb
  | 31 => v = .slice b lb cb
  | 37 => v = .agg #[.int .u64 x0, .int .u64 x1]
  | 40 => v = .agg #[.int .u64 x0, .int .u64 x1]
  | 60 => v = .agg #[.int .u64 x0, .int .u64 x1]
  | 63 => v = .agg #[.int .u64 x0, .int .u64 x1]
  | 61 => v = .agg #[.int .u64 y0, .int .u64 y1]
  | 64 => v = .agg #[.int .u64 y0, .int .u64 y1]
  | 20 => IsP W v lA
  | 23 => IsP W v lA
  | 29 => IsP W v lM
  | 32 => IsP W v lM
  | 38 => IsP W v lS
  | 41 => IsP W v lS
  | 53 => IsP W v lT
  | 55 => IsP W v lT
  | 46 => v = .int .i64 d
  | 48 => v = .int .i64 d
  | _ => v = .bool true
theorem TellsR.keep {a b : Option Addr} {la lb ca cb : Nat} {x0 x1 y0 y1 d : Int} {lA lM lS lT : List F2} {sl : Nat} {v : Value} {W W' : World} (h : TellsR a b la lb ca cb x0 x1 y0 y1 d lA lM lS lT sl v W) (hb : Below W.heap.size W W') : TellsR a b la lb ca cb x0 x1 y0 y1 d lA lM lS lT sl v W' := by
  unfold TellsR at *
  split at h
  all_goals first | exact h | exact IsP.keep h hb

set_option maxRecDepth 100000 in
set_option maxHeartbeats 8000000 in
theorem ptells_body (hA : AskPoly) (aw : ∀ W, Calls Try.prog 9 #[] W fun e w' => e = .returned (.bool true) ∧ Below W.heap.size W w') (a b : Option Addr) (la lb ca cb : Nat) (l m : List F2) (x0 x1 : Int) (x : F2) (w : World) (h1 : Poly w (.slice a la ca) l) (h2 : Poly w (.slice b lb cb) m) (hx : Rep x0 x1 x) :
    Calls Try.prog 3 #[.slice a la ca, .slice b lb cb, .agg #[.int .u64 x0, .int .u64 x1]] w fun e w' => e = .returned (.bool true) ∧ Below w.heap.size w w' := by
  have e1 := h1.at.1
  have e2 := h2.at.1
  by_cases hc : la ≤ 30 ∧ lb ≤ 30
  · obtain ⟨l1, l2⟩ := hc
    have hbx := (Below.refl w.heap.size w).alloc (Nat.le_refl _) (.cells #[.int .u64 x0, .int .u64 x1] 25)
    generalize hW0 : w.alloc (.cells #[.int .u64 x0, .int .u64 x1] 25) = W0 at hbx
    have h1' := h1.keep hbx
    have h2' := h2.keep hbx
    have k1 := fun W (hb : Below W0.heap.size W0 W) => hA.add _ _ l m W (h1'.keep hb) (h2'.keep hb) (by omega) (by omega)
    have k2 := fun W (hb : Below W0.heap.size W0 W) => dadd _ _ l m W (h1'.keep hb) (h2'.keep hb) (by omega) (by omega)
    have k3 := fun W (hb : Below W0.heap.size W0 W) => hA.mul _ _ l m W (h1'.keep hb) (h2'.keep hb) (by omega) (by omega)
    have k4 := fun W (hb : Below W0.heap.size W0 W) => dmul _ _ l m W (h1'.keep hb) (h2'.keep hb) (by omega) (by omega)
    have k5 := fun W (hb : Below W0.heap.size W0 W) => hA.scale _ l x0 x1 x W (h1'.keep hb) hx (by omega)
    have k6 := fun W (hb : Below W0.heap.size W0 W) => dscale _ l x0 x1 x W (h1'.keep hb) hx (by omega)
    have k7 := fun W (hb : Below W0.heap.size W0 W) => hA.degree _ l W (h1'.keep hb) (by omega)
    have k8 := fun W (hb : Below W0.heap.size W0 W) => ddegree _ l W (h1'.keep hb) (by omega)
    have k9 := fun W (hb : Below W0.heap.size W0 W) => hA.trim _ l W (h1'.keep hb) (by omega)
    have k10 := fun W (hb : Below W0.heap.size W0 W) => dtrim _ l W (h1'.keep hb) (by omega)
    have k11 := fun W (hb : Below W0.heap.size W0 W) => hA.at' _ l x0 x1 x W (h1'.keep hb) hx (by omega)
    have k12 := fun W (hb : Below W0.heap.size W0 W) => dat _ l x0 x1 x W (h1'.keep hb) hx (by omega)
    generalize addP l m = lA at *
    generalize mulP l m = lM at *
    generalize scaP l x = lS at *
    generalize trimP l = lT at *
    generalize degP l = d at *
    generalize atP l x = y at *
    subst hW0
    have n1 : (la : Int) ≤ 30 := by omega
    have n2 : (lb : Int) ≤ 30 := by omega
    have HB := Lib.hid hbx
    clear h1 h2 h1' h2' hx e1 e2 hA hbx
    go_enter Try.func3, Try.ntmps3
    go_upto_region 3 with fail
    have x0c : (w.alloc (.cells #[.int .u64 x0, .int .u64 x1] 25)).cell? ⟨w.heap.size, 0, none⟩ = some (.int .u64 x0) := by simp [go_sem]
    have x1c : (w.alloc (.cells #[.int .u64 x0, .int .u64 x1] 25)).cell? ⟨w.heap.size, 1, none⟩ = some (.int .u64 x1) := by simp [go_sem]
    generalize w.alloc (.cells #[.int .u64 x0, .int .u64 x1] 25) = W0 at *
    refine wp_loose [(16, []), (17, [16]), (18, [17]), (19, [17]), (20, [17, 18, 19]), (21, [17]), (22, [17]), (23, [17, 21, 22]), (24, [17, 20, 23]), (25, [17, 24]), (26, [25]), (27, [26]), (28, [26]), (29, [26, 27, 28]), (30, [26]), (31, [26]), (32, [26, 30, 31]), (33, [26, 29, 32]), (34, [26, 33]), (35, [34]), (36, [35]), (37, [35]), (38, [35, 36, 37]), (39, [35]), (40, [35]), (41, [35, 39, 40]), (42, [35, 38, 41]), (43, [35, 42]), (44, [43]), (45, [44]), (46, [44, 45]), (47, [44]), (48, [44, 47]), (49, [44, 46, 48]), (50, [44, 49]), (51, [50]), (52, [51]), (53, [51, 52]), (54, [51]), (55, [51, 54]), (56, [51, 53, 55]), (57, [51, 56]), (58, [57]), (59, [58]), (60, [58]), (61, [58, 59, 60]), (62, [58]), (63, [58]), (64, [58, 62, 63]), (65, [58, 61, 64]), (66, [58, 65]), (6, [66])]
      (TellsR a b la lb ca cb x0 x1 (enc y.a) (enc y.b) d lA lM lS lT) (fun d => false) (by kernel_rfl) (by kernel_rfl) (fun _ _ _ _ h hb => h.keep hb) ?_ ?_
    · refine opsrun_cons ?_ (opsrun_cons ?_ (opsrun_cons ?_ (opsrun_cons ?_ (opsrun_cons ?_ (opsrun_cons ?_ (opsrun_cons ?_ (opsrun_cons ?_ (opsrun_cons ?_ (opsrun_cons ?_ (opsrun_cons ?_ (opsrun_cons ?_ (opsrun_cons ?_ (opsrun_cons ?_ (opsrun_cons ?_ (opsrun_cons ?_ (opsrun_cons ?_ (opsrun_cons ?_ (opsrun_cons ?_ (opsrun_cons ?_ (opsrun_cons ?_ (opsrun_cons ?_ (opsrun_cons ?_ (opsrun_cons ?_ (opsrun_cons ?_ (opsrun_cons ?_ (opsrun_cons ?_ (opsrun_cons ?_ (opsrun_cons ?_ (opsrun_cons ?_ (opsrun_cons ?_ (opsrun_cons ?_ (opsrun_cons ?_ (opsrun_cons ?_ (opsrun_cons ?_ (opsrun_cons ?_ (opsrun_cons ?_ (opsrun_cons ?_ (opsrun_cons ?_ (opsrun_cons ?_ (opsrun_cons ?_ (opsrun_cons ?_ (opsrun_cons ?_ (opsrun_cons ?_ (opsrun_cons ?_ (opsrun_cons ?_ (opsrun_cons ?_ (opsrun_cons ?_ (opsrun_cons ?_ (opsrun_cons ?_ (opsrun_cons ?_ (opsrun_cons ?_ opsrun_nil)))))))))))))))))))))))))))))))))))))))))))))))))))
      all_goals
        refine OpRuns.any ?_
        intro Q0 σ W' K hb hn hK
        simp only [fill, List.map, Act.put, List.setIfInBounds_toArray, List.set_cons_zero, List.set_cons_succ] at hK ⊢
      · clear hn
        go_simp
        go_at_call 9
        refine (aw W').mono ?_
        rintro e w1 ⟨rfl, hb1⟩
        exact hK _ _ rfl hb1 (fun h => absurd h (by decide))
      · have h16 : σ 16 = _ := hn 16 (by decide)
        clear hn
        simp only [h16] at hK
        go_simp
        exact hK _ _ rfl (Below.refl _ _) (fun h => absurd h (by decide))
      · have h17 : σ 17 = _ := hn 17 (by decide)
        clear hn
        simp only [h17] at hK
        go_simp
        exact hK _ _ rfl (Below.refl _ _) (fun h => absurd h (by decide))
      · have h17 : σ 17 = _ := hn 17 (by decide)
        clear hn
        simp only [h17] at hK
        go_simp
        exact hK _ _ rfl (Below.refl _ _) (fun h => absurd h (by decide))
      · have h17 : σ 17 = _ := hn 17 (by decide)
        have h18 : σ 18 = _ := hn 18 (by decide)
        have h19 : σ 19 = _ := hn 19 (by decide)
        clear hn
        simp only [h17, h18, h19] at hK
        go_simp
        go_at_call 11
        refine (k1 _ hb).mono ?_
        rintro e w1 ⟨v1, rfl, hb1, hp⟩
        exact hK _ _ hp hb1 (fun h => absurd h (by decide))
      · have h17 : σ 17 = _ := hn 17 (by decide)
        clear hn
        simp only [h17] at hK
        go_simp
        exact hK _ _ rfl (Below.refl _ _) (fun h => absurd h (by decide))
      · have h17 : σ 17 = _ := hn 17 (by decide)
        clear hn
        simp only [h17] at hK
        go_simp
        exact hK _ _ rfl (Below.refl _ _) (fun h => absurd h (by decide))
      · have h17 : σ 17 = _ := hn 17 (by decide)
        have h21 : σ 21 = _ := hn 21 (by decide)
        have h22 : σ 22 = _ := hn 22 (by decide)
        clear hn
        simp only [h17, h21, h22] at hK
        go_simp
        go_at_call 12
        refine (k2 _ hb).mono ?_
        rintro e w1 ⟨v1, rfl, hb1, hp⟩
        exact hK _ _ hp hb1 (fun h => absurd h (by decide))
      · have h17 : σ 17 = _ := hn 17 (by decide)
        have p20 : IsP W' (σ 20) lA := hn 20 (by decide)
        have p23 : IsP W' (σ 23) lA := hn 23 (by decide)
        clear hn
        simp only [h17] at hK
        go_simp
        go_at_call 10
        refine (sameP _ _ _ _ p20 p23).mono ?_
        rintro e w1 ⟨rfl, hb1⟩
        exact hK _ _ rfl hb1 (fun h => absurd h (by decide))
      · have h17 : σ 17 = _ := hn 17 (by decide)
        have h24 : σ 24 = _ := hn 24 (by decide)
        clear hn
        simp only [h17, h24] at hK
        go_simp
        exact hK _ _ rfl (Below.refl _ _) (fun h => absurd h (by decide))
      · have h25 : σ 25 = _ := hn 25 (by decide)
        clear hn
        simp only [h25] at hK
        go_simp
        exact hK _ _ rfl (Below.refl _ _) (fun h => absurd h (by decide))
      · have h26 : σ 26 = _ := hn 26 (by decide)
        clear hn
        simp only [h26] at hK
        go_simp
        exact hK _ _ rfl (Below.refl _ _) (fun h => absurd h (by decide))
      · have h26 : σ 26 = _ := hn 26 (by decide)
        clear hn
        simp only [h26] at hK
        go_simp
        exact hK _ _ rfl (Below.refl _ _) (fun h => absurd h (by decide))
      · have h26 : σ 26 = _ := hn 26 (by decide)
        have h27 : σ 27 = _ := hn 27 (by decide)
        have h28 : σ 28 = _ := hn 28 (by decide)
        clear hn
        simp only [h26, h27, h28] at hK
        go_simp
        go_at_call 13
        refine (k3 _ hb).mono ?_
        rintro e w1 ⟨v1, rfl, hb1, hp⟩
        exact hK _ _ hp hb1 (fun h => absurd h (by decide))
      · have h26 : σ 26 = _ := hn 26 (by decide)
        clear hn
        simp only [h26] at hK
        go_simp
        exact hK _ _ rfl (Below.refl _ _) (fun h => absurd h (by decide))
      · have h26 : σ 26 = _ := hn 26 (by decide)
        clear hn
        simp only [h26] at hK
        go_simp
        exact hK _ _ rfl (Below.refl _ _) (fun h => absurd h (by decide))
      · have h26 : σ 26 = _ := hn 26 (by decide)
        have h30 : σ 30 = _ := hn 30 (by decide)
        have h31 : σ 31 = _ := hn 31 (by decide)
        clear hn
        simp only [h26, h30, h31] at hK
        go_simp
        go_at_call 14
        refine (k4 _ hb).mono ?_
        rintro e w1 ⟨v1, rfl, hb1, hp⟩
        exact hK _ _ hp hb1 (fun h => absurd h (by decide))
      · have h26 : σ 26 = _ := hn 26 (by decide)
        have p29 : IsP W' (σ 29) lM := hn 29 (by decide)
        have p32 : IsP W' (σ 32) lM := hn 32 (by decide)
        clear hn
        simp only [h26] at hK
        go_simp
        go_at_call 10
        refine (sameP _ _ _ _ p29 p32).mono ?_
        rintro e w1 ⟨rfl, hb1⟩
        exact hK _ _ rfl hb1 (fun h => absurd h (by decide))
      · have h26 : σ 26 = _ := hn 26 (by decide)
        have h33 : σ 33 = _ := hn 33 (by decide)
        clear hn
        simp only [h26, h33] at hK
        go_simp
        exact hK _ _ rfl (Below.refl _ _) (fun h => absurd h (by decide))
      · have h34 : σ 34 = _ := hn 34 (by decide)
        clear hn
        simp only [h34] at hK
        go_simp
        exact hK _ _ rfl (Below.refl _ _) (fun h => absurd h (by decide))
      · have h35 : σ 35 = _ := hn 35 (by decide)
        clear hn
        simp only [h35] at hK
        go_simp
        exact hK _ _ rfl (Below.refl _ _) (fun h => absurd h (by decide))
      · have h35 : σ 35 = _ := hn 35 (by decide)
        clear hn
        simp only [h35] at hK
        have x0c' := bkeep hb x0c
        have x1c' := bkeep hb x1c
        clear x0c x1c
        go_simp
        exact hK _ _ rfl (Below.refl _ _) (fun h => absurd h (by decide))
      · have h35 : σ 35 = _ := hn 35 (by decide)
        have h36 : σ 36 = _ := hn 36 (by decide)
        have h37 : σ 37 = _ := hn 37 (by decide)
        clear hn
        simp only [h35, h36, h37] at hK
        go_simp
        go_at_call 15
        refine (k5 _ hb).mono ?_
        rintro e w1 ⟨v1, rfl, hb1, hp⟩
        exact hK _ _ hp hb1 (fun h => absurd h (by decide))
      · have h35 : σ 35 = _ := hn 35 (by decide)
        clear hn
        simp only [h35] at hK
        go_simp
        exact hK _ _ rfl (Below.refl _ _) (fun h => absurd h (by decide))
      · have h35 : σ 35 = _ := hn 35 (by decide)
        clear hn
        simp only [h35] at hK
        have x0c' := bkeep hb x0c
        have x1c' := bkeep hb x1c
        clear x0c x1c
        go_simp
        exact hK _ _ rfl (Below.refl _ _) (fun h => absurd h (by decide))
      · have h35 : σ 35 = _ := hn 35 (by decide)
        have h39 : σ 39 = _ := hn 39 (by decide)
        have h40 : σ 40 = _ := hn 40 (by decide)
        clear hn
        simp only [h35, h39, h40] at hK
        go_simp
        go_at_call 16
        refine (k6 _ hb).mono ?_
        rintro e w1 ⟨v1, rfl, hb1, hp⟩
        exact hK _ _ hp hb1 (fun h => absurd h (by decide))
      · have h35 : σ 35 = _ := hn 35 (by decide)
        have p38 : IsP W' (σ 38) lS := hn 38 (by decide)
        have p41 : IsP W' (σ 41) lS := hn 41 (by decide)
        clear hn
        simp only [h35] at hK
        go_simp
        go_at_call 10
        refine (sameP _ _ _ _ p38 p41).mono ?_
        rintro e w1 ⟨rfl, hb1⟩
        exact hK _ _ rfl hb1 (fun h => absurd h (by decide))
      · have h35 : σ 35 = _ := hn 35 (by decide)
        have h42 : σ 42 = _ := hn 42 (by decide)
        clear hn
        simp only [h35, h42] at hK
        go_simp
        exact hK _ _ rfl (Below.refl _ _) (fun h => absurd h (by decide))
      · have h43 : σ 43 = _ := hn 43 (by decide)
        clear hn
        simp only [h43] at hK
        go_simp
        exact hK _ _ rfl (Below.refl _ _) (fun h => absurd h (by decide))
      · have h44 : σ 44 = _ := hn 44 (by decide)
        clear hn
        simp only [h44] at hK
        go_simp
        exact hK _ _ rfl (Below.refl _ _) (fun h => absurd h (by decide))
      · have h44 : σ 44 = _ := hn 44 (by decide)
        have h45 : σ 45 = _ := hn 45 (by decide)
        clear hn
        simp only [h44, h45] at hK
        go_simp
        go_at_call 17
        refine (k7 _ hb).mono ?_
        rintro e w1 ⟨rfl, hb1⟩
        exact hK _ _ rfl hb1 (fun h => absurd h (by decide))
      · have h44 : σ 44 = _ := hn 44 (by decide)
        clear hn
        simp only [h44] at hK
        go_simp
        exact hK _ _ rfl (Below.refl _ _) (fun h => absurd h (by decide))
      · have h44 : σ 44 = _ := hn 44 (by decide)
        have h47 : σ 47 = _ := hn 47 (by decide)
        clear hn
        simp only [h44, h47] at hK
        go_simp
        go_at_call 18
        refine (k8 _ hb).mono ?_
        rintro e w1 ⟨rfl, hb1⟩
        exact hK _ _ rfl hb1 (fun h => absurd h (by decide))
      · have h44 : σ 44 = _ := hn 44 (by decide)
        have h46 : σ 46 = _ := hn 46 (by decide)
        have h48 : σ 48 = _ := hn 48 (by decide)
        clear hn
        simp only [h44, h46, h48] at hK
        go_simp
        exact hK _ _ rfl (Below.refl _ _) (fun h => absurd h (by decide))
      · have h44 : σ 44 = _ := hn 44 (by decide)
        have h49 : σ 49 = _ := hn 49 (by decide)
        clear hn
        simp only [h44, h49] at hK
        go_simp
        exact hK _ _ rfl (Below.refl _ _) (fun h => absurd h (by decide))
      · have h50 : σ 50 = _ := hn 50 (by decide)
        clear hn
        simp only [h50] at hK
        go_simp
        exact hK _ _ rfl (Below.refl _ _) (fun h => absurd h (by decide))
      · have h51 : σ 51 = _ := hn 51 (by decide)
        clear hn
        simp only [h51] at hK
        go_simp
        exact hK _ _ rfl (Below.refl _ _) (fun h => absurd h (by decide))
      · have h51 : σ 51 = _ := hn 51 (by decide)
        have h52 : σ 52 = _ := hn 52 (by decide)
        clear hn
        simp only [h51, h52] at hK
        go_simp
        go_at_call 19
        refine (k9 _ hb).mono ?_
        rintro e w1 ⟨v1, rfl, hb1, hp⟩
        exact hK _ _ hp hb1 (fun h => absurd h (by decide))
      · have h51 : σ 51 = _ := hn 51 (by decide)
        clear hn
        simp only [h51] at hK
        go_simp
        exact hK _ _ rfl (Below.refl _ _) (fun h => absurd h (by decide))
      · have h51 : σ 51 = _ := hn 51 (by decide)
        have h54 : σ 54 = _ := hn 54 (by decide)
        clear hn
        simp only [h51, h54] at hK
        go_simp
        go_at_call 20
        refine (k10 _ hb).mono ?_
        rintro e w1 ⟨v1, rfl, hb1, hp⟩
        exact hK _ _ hp hb1 (fun h => absurd h (by decide))
      · have h51 : σ 51 = _ := hn 51 (by decide)
        have p53 : IsP W' (σ 53) lT := hn 53 (by decide)
        have p55 : IsP W' (σ 55) lT := hn 55 (by decide)
        clear hn
        simp only [h51] at hK
        go_simp
        go_at_call 10
        refine (sameP _ _ _ _ p53 p55).mono ?_
        rintro e w1 ⟨rfl, hb1⟩
        exact hK _ _ rfl hb1 (fun h => absurd h (by decide))
      · have h51 : σ 51 = _ := hn 51 (by decide)
        have h56 : σ 56 = _ := hn 56 (by decide)
        clear hn
        simp only [h51, h56] at hK
        go_simp
        exact hK _ _ rfl (Below.refl _ _) (fun h => absurd h (by decide))
      · have h57 : σ 57 = _ := hn 57 (by decide)
        clear hn
        simp only [h57] at hK
        go_simp
        exact hK _ _ rfl (Below.refl _ _) (fun h => absurd h (by decide))
      · have h58 : σ 58 = _ := hn 58 (by decide)
        clear hn
        simp only [h58] at hK
        go_simp
        exact hK _ _ rfl (Below.refl _ _) (fun h => absurd h (by decide))
      · have h58 : σ 58 = _ := hn 58 (by decide)
        clear hn
        simp only [h58] at hK
        have x0c' := bkeep hb x0c
        have x1c' := bkeep hb x1c
        clear x0c x1c
        go_simp
        exact hK _ _ rfl (Below.refl _ _) (fun h => absurd h (by decide))
      · have h58 : σ 58 = _ := hn 58 (by decide)
        have h59 : σ 59 = _ := hn 59 (by decide)
        have h60 : σ 60 = _ := hn 60 (by decide)
        clear hn
        simp only [h58, h59, h60] at hK
        go_simp
        go_at_call 21
        refine (k11 _ hb).mono ?_
        rintro e w1 ⟨rfl, hb1⟩
        exact hK _ _ rfl hb1 (fun h => absurd h (by decide))
      · have h58 : σ 58 = _ := hn 58 (by decide)
        clear hn
        simp only [h58] at hK
        go_simp
        exact hK _ _ rfl (Below.refl _ _) (fun h => absurd h (by decide))
      · have h58 : σ 58 = _ := hn 58 (by decide)
        clear hn
        simp only [h58] at hK
        have x0c' := bkeep hb x0c
        have x1c' := bkeep hb x1c
        clear x0c x1c
        go_simp
        exact hK _ _ rfl (Below.refl _ _) (fun h => absurd h (by decide))
      · have h58 : σ 58 = _ := hn 58 (by decide)
        have h62 : σ 62 = _ := hn 62 (by decide)
        have h63 : σ 63 = _ := hn 63 (by decide)
        clear hn
        simp only [h58, h62, h63] at hK
        go_simp
        go_at_call 22
        refine (k12 _ hb).mono ?_
        rintro e w1 ⟨rfl, hb1⟩
        exact hK _ _ rfl hb1 (fun h => absurd h (by decide))
      · have h58 : σ 58 = _ := hn 58 (by decide)
        have h61 : σ 61 = _ := hn 61 (by decide)
        have h64 : σ 64 = _ := hn 64 (by decide)
        clear hn
        simp only [h58, h61, h64] at hK
        go_simp
        exact hK _ _ rfl (Below.refl _ _) (fun h => absurd h (by decide))
      · have h58 : σ 58 = _ := hn 58 (by decide)
        have h65 : σ 65 = _ := hn 65 (by decide)
        clear hn
        simp only [h58, h65] at hK
        go_simp
        exact hK _ _ rfl (Below.refl _ _) (fun h => absurd h (by decide))
      · have h66 : σ 66 = _ := hn 66 (by decide)
        clear hn
        simp only [h66] at hK
        go_simp
        exact hK _ _ rfl (Below.refl _ _) (fun h => absurd h (by decide))
    · intro σ W' hb hR' hF
      have h6 : σ 6 = _ := hR' 6 (by decide)
      replace HB := Lib.hid (bthen HB.out hb)
      clear hR' hF hb x0c x1c k1 k2 k3 k4 k5 k6 k7 k8 k9 k10 k11 k12
      simp only [fill, List.map, Act.put, List.setIfInBounds_toArray, List.set_cons_zero, List.set_cons_succ, List.length_cons, List.length_nil, List.drop_succ_cons, List.drop_zero, Nat.reduceAdd, h6]
      clear h6
      go_wp2_with fail
      go_ret
      exact ⟨rfl, HB.out⟩
  · clear h1 h2 hx hA e1 e2
    by_cases c1 : la ≤ 30
    · have c2 : 30 < lb := by omega
      clear hc
      go_enter Try.func3, Try.ntmps3
      go_wp2_with (go_at_call 9; ((with_reducible refine (aw _).mono ?_); rintro e w1 ⟨rfl, hb⟩; have HB := Lib.hid (((Below.refl w.heap.size w).alloc (Nat.le_refl _) _).trans (hb.mono (by simp))); clear hb))
      go_ret
      exact ⟨rfl, HB.out⟩
    · have c2 : 30 < la := by omega
      clear hc
      go_enter Try.func3, Try.ntmps3
      go_wp2_with (go_at_call 9; ((with_reducible refine (aw _).mono ?_); rintro e w1 ⟨rfl, hb⟩; have HB := Lib.hid (((Below.refl w.heap.size w).alloc (Nat.le_refl _) _).trans (hb.mono (by simp))); clear hb))
      go_ret
      exact ⟨rfl, HB.out⟩
end Go.Proofs.Ytajmfpnkcenhaaa
