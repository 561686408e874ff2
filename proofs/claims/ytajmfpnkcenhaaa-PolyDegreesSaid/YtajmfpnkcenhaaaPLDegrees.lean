/-
  The walk of PolyDegrees: it answers true, where the program's calls do what is asked of them. (Written by gen_plaw_degrees.py.)
-/
import Derived.Test.YtajmfpnkcenhaaaPolyLem
namespace Go.Proofs.Ytajmfpnkcenhaaa
open Go.RowKit Go.Sort Go.BigFrame
set_option linter.unusedVariables false

def DegR (a b : Option Addr) (la lb ca cb g : Nat) (z0 z1 x0 x1 wt dA dl dm mx : Int) (ml al : F2) (lM lA lS : List F2) (sl : Nat) (v : Value) (W : World) : Prop :=
  match sl with
  | 34 => v = .slice a la ca
  | 42 => v = .slice a la ca
  | 52 => v = .slice a la ca
  | 61 => v = .slice a la ca
  | 35 => v = .slice b lb cb
  | 43 => v = .slice b lb cb
  | 36 => IsP W v lM
  | 37 => v = .int .i64 wt
  | 38 => v = .int .i64 wt
  | 44 => IsP W v lA
  | 45 => v = .int .i64 dA
  | 46 => v = .int .i64 dl
  | 47 => v = .int .i64 dm
  | 48 => v = .int .i64 mx
  | 53 => v = .pointer (some ⟨g, 0, none⟩)
  | 59 => v = .pointer (some ⟨g, 0, none⟩)
  | 56 => v = .pointer (some ⟨g, 2, none⟩)
  | 62 => v = .pointer (some ⟨g, 2, none⟩)
  | 54 => v = .agg #[.int .u64 z0, .int .u64 z1]
  | 60 => v = .agg #[.int .u64 z0, .int .u64 z1]
  | 57 => v = .agg #[.int .u64 x0, .int .u64 x1]
  | 63 => v = .agg #[.int .u64 x0, .int .u64 x1]
  | 55 => IsP W v lS
  | 58 => v = .agg #[.int .u64 (enc ml.a), .int .u64 (enc ml.b)]
  | 64 => v = .agg #[.int .u64 (enc al.a), .int .u64 (enc al.b)]
  | 65 => v = .agg #[.int .u64 (enc ml.a), .int .u64 (enc ml.b)]
  | _ => v = .bool true
theorem DegR.keep {a b : Option Addr} {la lb ca cb g : Nat} {z0 z1 x0 x1 wt dA dl dm mx : Int} {ml al : F2} {lM lA lS : List F2} {sl : Nat} {v : Value} {W W' : World} (h : DegR a b la lb ca cb g z0 z1 x0 x1 wt dA dl dm mx ml al lM lA lS sl v W) (hb : Below W.heap.size W W') : DegR a b la lb ca cb g z0 z1 x0 x1 wt dA dl dm mx ml al lM lA lS sl v W' := by
  unfold DegR at *
  split at h
  all_goals first | exact h | exact IsP.keep h hb

set_option maxRecDepth 100000 in
set_option maxHeartbeats 16000000 in
theorem pdegrees_body (hA : AskPoly) (aw : ∀ W, Calls Try.prog 9 #[] W fun e w' => e = .returned (.bool true) ∧ Below W.heap.size W w') (a b : Option Addr) (la lb ca cb : Nat) (l m : List F2) (z0 z1 x0 x1 : Int) (z x : F2) (w : World) (h1 : Poly w (.slice a la ca) l) (h2 : Poly w (.slice b lb cb) m) (hz : Rep z0 z1 z) (hx : Rep x0 x1 x) :
    Calls Try.prog 7 #[.slice a la ca, .slice b lb cb, .agg #[.int .u64 z0, .int .u64 z1, .int .u64 x0, .int .u64 x1]] w fun e w' => e = .returned (.bool true) ∧ Below w.heap.size w w' := by
  have e1 := h1.at.1
  have e2 := h2.at.1
  by_cases hc : la ≤ 30 ∧ lb ≤ 30
  · obtain ⟨l1, l2⟩ := hc
    have hb0 := (Below.refl w.heap.size w).alloc (Nat.le_refl _) (.cells #[.int .u64 z0, .int .u64 z1, .int .u64 x0, .int .u64 x1] 36)
    have xc0 : (w.alloc (.cells #[.int .u64 z0, .int .u64 z1, .int .u64 x0, .int .u64 x1] 36)).cell? ⟨w.heap.size, 0, none⟩ = some (.int .u64 z0) := by simp [go_sem]
    have xc1 : (w.alloc (.cells #[.int .u64 z0, .int .u64 z1, .int .u64 x0, .int .u64 x1] 36)).cell? ⟨w.heap.size, 1, none⟩ = some (.int .u64 z1) := by simp [go_sem]
    have xc2 : (w.alloc (.cells #[.int .u64 z0, .int .u64 z1, .int .u64 x0, .int .u64 x1] 36)).cell? ⟨w.heap.size, 2, none⟩ = some (.int .u64 x0) := by simp [go_sem]
    have xc3 : (w.alloc (.cells #[.int .u64 z0, .int .u64 z1, .int .u64 x0, .int .u64 x1] 36)).cell? ⟨w.heap.size, 3, none⟩ = some (.int .u64 x1) := by simp [go_sem]
    have d1 := fun W h => hA.degree (.slice a la ca) l W h (by omega)
    have d2 := fun W h => hA.degree (.slice b lb cb) m W h (by omega)
    have c36 := fun W h h' => hA.mul (.slice a la ca) (.slice b lb cb) l m W h h' (by omega) (by omega)
    have c44 := fun W h h' => hA.add (.slice a la ca) (.slice b lb cb) l m W h h' (by omega) (by omega)
    have hMl : (mulP l m).length ≤ 60 := by unfold mulP; rw [pl_len]; exact Nat.le_trans (tn_le _ _) (by omega)
    have hAl : (addP l m).length ≤ 60 := by unfold addP; rw [pl_len]; exact Nat.le_trans (tn_le _ _) (by omega)
    have hSl : (scaP l z).length ≤ 60 := by unfold scaP; rw [pl_len]; exact Nat.le_trans (tn_le _ _) (by omega)
    have c37 := fun W v (h : IsP W v (mulP l m)) => hA.degree v (mulP l m) W h.poly (by omega)
    have c45 := fun W v (h : IsP W v (addP l m)) => hA.degree v (addP l m) W h.poly (by omega)
    have c55 := fun W h => hA.scale (.slice a la ca) l z0 z1 z W h hz (by omega)
    have c58 := fun W v (h : IsP W v (scaP l z)) => hA.at' v (scaP l z) x0 x1 x W h.poly hx (by omega)
    have c64 := fun W h => hA.at' (.slice a la ca) l x0 x1 x W h hx (by omega)
    have c65 := fun W => rmul_q z0 z1 (enc (atP l x).a) (enc (atP l x).b) z (atP l x) (atP (scaP l z) x) hz (rep_enc _) (atP_sca l z x).symm W
    have hwt := degP_mul l m
    have hdl := degP_nn l
    have hdm := degP_nn m
    have hle := degP_add l m
    have hdl2 : degP l ≤ 30 := by omega
    have hdm2 : degP m ≤ 30 := by omega
    replace hdl := hdl.1
    replace hdm := hdm.1
    generalize degP (mulP l m) = wt at *
    generalize degP (addP l m) = dA at *
    generalize degP l = dl at *
    generalize degP m = dm at *
    generalize mulP l m = lM at *
    generalize addP l m = lA at *
    generalize scaP l z = lS at *
    generalize atP lS x = ml at *
    generalize atP l x = al at *
    obtain ⟨mx, hmx⟩ : ∃ mx, max dl dm = mx := ⟨_, rfl⟩
    rw [hmx] at hle
    have HMX := Lib.hid hmx
    have hcs : (dl < 0 ∧ -1 = wt) ∨ (¬ dl < 0 ∧ dm < 0 ∧ -1 = wt) ∨ (¬ dl < 0 ∧ ¬ dm < 0 ∧ dl + dm = wt) := by
      by_cases q1 : dl < 0
      · left; rw [if_pos (Or.inl q1)] at hwt; exact ⟨q1, hwt.symm⟩
      · by_cases q2 : dm < 0
        · right; left; rw [if_pos (Or.inr q2)] at hwt; exact ⟨q1, q2, hwt.symm⟩
        · right; right; rw [if_neg (by omega)] at hwt; exact ⟨q1, q2, hwt.symm⟩
    have n1 : (la : Int) ≤ 30 := by omega
    have n2 : (lb : Int) ≤ 30 := by omega
    have H1 := Lib.hid (h1.keep hb0); have H2 := Lib.hid (h2.keep hb0); have HB := Lib.hid hb0
    clear h1 h2 hz hx e1 e2 hA hb0 hwt hmx
    rcases hcs with ⟨q1, q3⟩ | ⟨q1, q2, q3⟩ | ⟨q1, q2, q3⟩
    all_goals
      have HWT := Lib.hid q3.symm
      clear q3
      go_enter Try.func7, Try.ntmps7
      go_upto_region 3 with fail
      generalize w.alloc (.cells #[.int .u64 z0, .int .u64 z1, .int .u64 x0, .int .u64 x1] 36) = W0 at *
      have D1 := d1 W0 H1.out
      go_upto_region 7 with (first
        | (go_at_call 17; ((with_reducible refine D1.mono ?_); rintro e W1 ⟨rfl, hb1⟩; have D2 := d2 W1 (H2.out.keep hb1); clear D1))
        | (go_at_call 17; ((with_reducible refine D2.mono ?_); rintro e W2 ⟨rfl, hb2⟩; clear D2)))
      have hb := hb1.trans (hb2.mono hb1.size)
      replace HB := Lib.hid (HB.out.trans (hb.mono HB.out.size))
      replace xc0 := bkeep hb xc0
      replace xc1 := bkeep hb xc1
      replace xc2 := bkeep hb xc2
      replace xc3 := bkeep hb xc3
      have P1 := H1.out.keep hb
      have P2 := H2.out.keep hb
      replace c36 := fun W (hb : Below W2.heap.size W2 W) => c36 W (P1.keep hb) (P2.keep hb)
      replace c44 := fun W (hb : Below W2.heap.size W2 W) => c44 W (P1.keep hb) (P2.keep hb)
      replace c55 := fun W (hb : Below W2.heap.size W2 W) => c55 W (P1.keep hb)
      replace c64 := fun W (hb : Below W2.heap.size W2 W) => c64 W (P1.keep hb)
      clear hb1 hb2 hb P1 P2 d1 d2 H1 H2
      refine wp_loose [(32, []), (33, [32]), (34, [33]), (35, [33]), (36, [33, 34, 35]), (37, [33, 36]), (38, [33]), (39, [33, 37, 38]), (40, [33, 39]), (41, [40]), (42, [41]), (43, [41]), (44, [41, 42, 43]), (45, [41, 44]), (46, [41]), (47, [41]), (48, [41, 46, 47]), (49, [41, 45, 48]), (50, [41, 49]), (51, [50]), (52, [51]), (53, [51]), (54, [51, 53]), (55, [51, 52, 54]), (56, [51]), (57, [51, 56]), (58, [51, 55, 57]), (59, [51]), (60, [51, 59]), (61, [51]), (62, [51]), (63, [51, 62]), (64, [51, 61, 63]), (65, [51, 60, 64]), (66, [51, 58, 65]), (67, [51, 66]), (6, [67])]
        (DegR a b la lb ca cb w.heap.size z0 z1 x0 x1 wt dA dl dm mx ml al lM lA lS) (fun d => false) (by kernel_rfl) (by kernel_rfl) (fun _ _ _ _ h hb => h.keep hb) ?_ ?_
      · refine opsrun_cons ?_ (opsrun_cons ?_ (opsrun_cons ?_ (opsrun_cons ?_ (opsrun_cons ?_ (opsrun_cons ?_ (opsrun_cons ?_ (opsrun_cons ?_ (opsrun_cons ?_ (opsrun_cons ?_ (opsrun_cons ?_ (opsrun_cons ?_ (opsrun_cons ?_ (opsrun_cons ?_ (opsrun_cons ?_ (opsrun_cons ?_ (opsrun_cons ?_ (opsrun_cons ?_ (opsrun_cons ?_ (opsrun_cons ?_ (opsrun_cons ?_ (opsrun_cons ?_ (opsrun_cons ?_ (opsrun_cons ?_ (opsrun_cons ?_ (opsrun_cons ?_ (opsrun_cons ?_ (opsrun_cons ?_ (opsrun_cons ?_ (opsrun_cons ?_ (opsrun_cons ?_ (opsrun_cons ?_ (opsrun_cons ?_ (opsrun_cons ?_ (opsrun_cons ?_ (opsrun_cons ?_ (opsrun_cons ?_ opsrun_nil))))))))))))))))))))))))))))))))))))
        all_goals
          refine OpRuns.any ?_
          intro Q0 σ W' K hb hn hK
          simp only [fill, List.map, Act.put, List.setIfInBounds_toArray, List.set_cons_zero, List.set_cons_succ] at hK ⊢
        · clear hn
          go_simp
          go_at_call 9
          refine (aw W').mono ?_
          rintro e w1 ⟨rfl, hb1⟩
          exact hK _ _ rfl hb1 (fun h => absurd h (by decide))
        · have h32 : σ 32 = _ := hn 32 (by decide)
          clear hn
          simp only [h32] at hK
          go_simp
          exact hK _ _ rfl (Below.refl _ _) (fun h => absurd h (by decide))
        · have h33 : σ 33 = _ := hn 33 (by decide)
          clear hn
          simp only [h33] at hK
          go_simp
          exact hK _ _ rfl (Below.refl _ _) (fun h => absurd h (by decide))
        · have h33 : σ 33 = _ := hn 33 (by decide)
          clear hn
          simp only [h33] at hK
          go_simp
          exact hK _ _ rfl (Below.refl _ _) (fun h => absurd h (by decide))
        · have h33 : σ 33 = _ := hn 33 (by decide)
          have h34 : σ 34 = _ := hn 34 (by decide)
          have h35 : σ 35 = _ := hn 35 (by decide)
          clear hn
          simp only [h33, h34, h35] at hK
          go_simp
          go_at_call 13
          refine (c36 _ hb).mono ?_
          rintro e w1 ⟨v1, rfl, hb1, hp⟩
          exact hK _ _ hp hb1 (fun h => absurd h (by decide))
        · have h33 : σ 33 = _ := hn 33 (by decide)
          have p36 : IsP W' (σ 36) lM := hn 36 (by decide)
          clear hn
          simp only [h33] at hK
          go_simp
          go_at_call 17
          refine (c37 _ _ p36).mono ?_
          rintro e w1 ⟨rfl, hb1⟩
          exact hK _ _ rfl hb1 (fun h => absurd h (by decide))
        · have h33 : σ 33 = _ := hn 33 (by decide)
          clear hn
          simp only [h33] at hK
          go_simp
          exact hK _ _ (congrArg (Value.int .i64) HWT.out.symm) (Below.refl _ _) (fun h => absurd h (by decide))
        · have h33 : σ 33 = _ := hn 33 (by decide)
          have h37 : σ 37 = _ := hn 37 (by decide)
          have h38 : σ 38 = _ := hn 38 (by decide)
          clear hn
          simp only [h33, h37, h38] at hK
          go_simp
          exact hK _ _ rfl (Below.refl _ _) (fun h => absurd h (by decide))
        · have h33 : σ 33 = _ := hn 33 (by decide)
          have h39 : σ 39 = _ := hn 39 (by decide)
          clear hn
          simp only [h33, h39] at hK
          go_simp
          exact hK _ _ rfl (Below.refl _ _) (fun h => absurd h (by decide))
        · have h40 : σ 40 = _ := hn 40 (by decide)
          clear hn
          simp only [h40] at hK
          go_simp
          exact hK _ _ rfl (Below.refl _ _) (fun h => absurd h (by decide))
        · have h41 : σ 41 = _ := hn 41 (by decide)
          clear hn
          simp only [h41] at hK
          go_simp
          exact hK _ _ rfl (Below.refl _ _) (fun h => absurd h (by decide))
        · have h41 : σ 41 = _ := hn 41 (by decide)
          clear hn
          simp only [h41] at hK
          go_simp
          exact hK _ _ rfl (Below.refl _ _) (fun h => absurd h (by decide))
        · have h41 : σ 41 = _ := hn 41 (by decide)
          have h42 : σ 42 = _ := hn 42 (by decide)
          have h43 : σ 43 = _ := hn 43 (by decide)
          clear hn
          simp only [h41, h42, h43] at hK
          go_simp
          go_at_call 11
          refine (c44 _ hb).mono ?_
          rintro e w1 ⟨v1, rfl, hb1, hp⟩
          exact hK _ _ hp hb1 (fun h => absurd h (by decide))
        · have h41 : σ 41 = _ := hn 41 (by decide)
          have p44 : IsP W' (σ 44) lA := hn 44 (by decide)
          clear hn
          simp only [h41] at hK
          go_simp
          go_at_call 17
          refine (c45 _ _ p44).mono ?_
          rintro e w1 ⟨rfl, hb1⟩
          exact hK _ _ rfl hb1 (fun h => absurd h (by decide))
        · have h41 : σ 41 = _ := hn 41 (by decide)
          clear hn
          simp only [h41] at hK
          go_simp
          exact hK _ _ rfl (Below.refl _ _) (fun h => absurd h (by decide))
        · have h41 : σ 41 = _ := hn 41 (by decide)
          clear hn
          simp only [h41] at hK
          go_simp
          exact hK _ _ rfl (Below.refl _ _) (fun h => absurd h (by decide))
        · have h41 : σ 41 = _ := hn 41 (by decide)
          have h46 : σ 46 = _ := hn 46 (by decide)
          have h47 : σ 47 = _ := hn 47 (by decide)
          clear hn
          simp only [h41, h46, h47] at hK
          rcases Int.lt_or_le dl dm with c1' | c1'
          · have c3' : ¬ dm ≤ dl := by omega
            have c4' : ¬ dm < dl := by omega
            have c5' : dl ≤ dm := by omega
            go_simp
            exact hK _ _ (congrArg (Value.int .i64) (by have := HMX.out; omega)) (Below.refl _ _) (fun h => absurd h (by decide))
          · have c3' : ¬ dl < dm := by omega
            go_simp
            first
              | exact hK _ _ (congrArg (Value.int .i64) (by have := HMX.out; omega)) (Below.refl _ _) (fun h => absurd h (by decide))
              | (split <;> exact hK _ _ (congrArg (Value.int .i64) (by have := HMX.out; omega)) (Below.refl _ _) (fun h => absurd h (by decide)))
        · have h41 : σ 41 = _ := hn 41 (by decide)
          have h45 : σ 45 = _ := hn 45 (by decide)
          have h48 : σ 48 = _ := hn 48 (by decide)
          clear hn
          simp only [h41, h45, h48] at hK
          go_simp
          exact hK _ _ rfl (Below.refl _ _) (fun h => absurd h (by decide))
        · have h41 : σ 41 = _ := hn 41 (by decide)
          have h49 : σ 49 = _ := hn 49 (by decide)
          clear hn
          simp only [h41, h49] at hK
          go_simp
          exact hK _ _ rfl (Below.refl _ _) (fun h => absurd h (by decide))
        · have h50 : σ 50 = _ := hn 50 (by decide)
          clear hn
          simp only [h50] at hK
          go_simp
          exact hK _ _ rfl (Below.refl _ _) (fun h => absurd h (by decide))
        · have h51 : σ 51 = _ := hn 51 (by decide)
          clear hn
          simp only [h51] at hK
          go_simp
          exact hK _ _ rfl (Below.refl _ _) (fun h => absurd h (by decide))
        · have h51 : σ 51 = _ := hn 51 (by decide)
          clear hn
          simp only [h51] at hK
          go_simp
          exact hK _ _ rfl (Below.refl _ _) (fun h => absurd h (by decide))
        · have h51 : σ 51 = _ := hn 51 (by decide)
          have h53 : σ 53 = _ := hn 53 (by decide)
          clear hn
          simp only [h51, h53] at hK
          have xc0' := bkeep hb xc0
          have xc1' := bkeep hb xc1
          clear xc0 xc1
          go_simp
          exact hK _ _ rfl (Below.refl _ _) (fun h => absurd h (by decide))
        · have h51 : σ 51 = _ := hn 51 (by decide)
          have h52 : σ 52 = _ := hn 52 (by decide)
          have h54 : σ 54 = _ := hn 54 (by decide)
          clear hn
          simp only [h51, h52, h54] at hK
          go_simp
          go_at_call 15
          refine (c55 _ hb).mono ?_
          rintro e w1 ⟨v1, rfl, hb1, hp⟩
          exact hK _ _ hp hb1 (fun h => absurd h (by decide))
        · have h51 : σ 51 = _ := hn 51 (by decide)
          clear hn
          simp only [h51] at hK
          go_simp
          exact hK _ _ rfl (Below.refl _ _) (fun h => absurd h (by decide))
        · have h51 : σ 51 = _ := hn 51 (by decide)
          have h56 : σ 56 = _ := hn 56 (by decide)
          clear hn
          simp only [h51, h56] at hK
          have xc2' := bkeep hb xc2
          have xc3' := bkeep hb xc3
          clear xc2 xc3
          go_simp
          exact hK _ _ rfl (Below.refl _ _) (fun h => absurd h (by decide))
        · have h51 : σ 51 = _ := hn 51 (by decide)
          have p55 : IsP W' (σ 55) lS := hn 55 (by decide)
          have h57 : σ 57 = _ := hn 57 (by decide)
          clear hn
          simp only [h51, h57] at hK
          go_simp
          go_at_call 21
          refine (c58 _ _ p55).mono ?_
          rintro e w1 ⟨rfl, hb1⟩
          exact hK _ _ rfl hb1 (fun h => absurd h (by decide))
        · have h51 : σ 51 = _ := hn 51 (by decide)
          clear hn
          simp only [h51] at hK
          go_simp
          exact hK _ _ rfl (Below.refl _ _) (fun h => absurd h (by decide))
        · have h51 : σ 51 = _ := hn 51 (by decide)
          have h59 : σ 59 = _ := hn 59 (by decide)
          clear hn
          simp only [h51, h59] at hK
          have xc0' := bkeep hb xc0
          have xc1' := bkeep hb xc1
          clear xc0 xc1
          go_simp
          exact hK _ _ rfl (Below.refl _ _) (fun h => absurd h (by decide))
        · have h51 : σ 51 = _ := hn 51 (by decide)
          clear hn
          simp only [h51] at hK
          go_simp
          exact hK _ _ rfl (Below.refl _ _) (fun h => absurd h (by decide))
        · have h51 : σ 51 = _ := hn 51 (by decide)
          clear hn
          simp only [h51] at hK
          go_simp
          exact hK _ _ rfl (Below.refl _ _) (fun h => absurd h (by decide))
        · have h51 : σ 51 = _ := hn 51 (by decide)
          have h62 : σ 62 = _ := hn 62 (by decide)
          clear hn
          simp only [h51, h62] at hK
          have xc2' := bkeep hb xc2
          have xc3' := bkeep hb xc3
          clear xc2 xc3
          go_simp
          exact hK _ _ rfl (Below.refl _ _) (fun h => absurd h (by decide))
        · have h51 : σ 51 = _ := hn 51 (by decide)
          have h61 : σ 61 = _ := hn 61 (by decide)
          have h63 : σ 63 = _ := hn 63 (by decide)
          clear hn
          simp only [h51, h61, h63] at hK
          go_simp
          go_at_call 21
          refine (c64 _ hb).mono ?_
          rintro e w1 ⟨rfl, hb1⟩
          exact hK _ _ rfl hb1 (fun h => absurd h (by decide))
        · have h51 : σ 51 = _ := hn 51 (by decide)
          have h60 : σ 60 = _ := hn 60 (by decide)
          have h64 : σ 64 = _ := hn 64 (by decide)
          clear hn
          simp only [h51, h60, h64] at hK
          go_simp
          go_at_call 30
          refine (c65 _).mono ?_
          rintro e w1 ⟨rfl, hb1⟩
          exact hK _ _ rfl hb1 (fun h => absurd h (by decide))
        · have h51 : σ 51 = _ := hn 51 (by decide)
          have h58 : σ 58 = _ := hn 58 (by decide)
          have h65 : σ 65 = _ := hn 65 (by decide)
          clear hn
          simp only [h51, h58, h65] at hK
          go_simp
          exact hK _ _ rfl (Below.refl _ _) (fun h => absurd h (by decide))
        · have h51 : σ 51 = _ := hn 51 (by decide)
          have h66 : σ 66 = _ := hn 66 (by decide)
          clear hn
          simp only [h51, h66] at hK
          go_simp
          exact hK _ _ rfl (Below.refl _ _) (fun h => absurd h (by decide))
        · have h67 : σ 67 = _ := hn 67 (by decide)
          clear hn
          simp only [h67] at hK
          go_simp
          exact hK _ _ rfl (Below.refl _ _) (fun h => absurd h (by decide))
      · intro σ W' hb hR' hF
        have h6 : σ 6 = _ := hR' 6 (by decide)
        replace HB := Lib.hid (bthen HB.out hb)
        clear hR' hF hb xc0 xc1 xc2 xc3 c36 c37 c44 c45 c55 c58 c64 c65
        simp only [fill, List.map, Act.put, List.setIfInBounds_toArray, List.set_cons_zero, List.set_cons_succ, List.length_cons, List.length_nil, List.drop_succ_cons, List.drop_zero, Nat.reduceAdd, h6]
        clear h6
        go_wp2_with fail
        go_ret
        exact ⟨rfl, HB.out⟩
  · clear h1 h2 hx hz hA e1 e2
    by_cases c1 : la ≤ 30
    · have c2 : 30 < lb := by omega
      clear hc
      go_enter Try.func7, Try.ntmps7
      go_wp2_with (go_at_call 9; ((with_reducible refine (aw _).mono ?_); rintro e w1 ⟨rfl, hb⟩; have HB := Lib.hid (((Below.refl w.heap.size w).alloc (Nat.le_refl _) _).trans (hb.mono (by simp))); clear hb))
      go_ret
      exact ⟨rfl, HB.out⟩
    · have c2 : 30 < la := by omega
      clear hc
      go_enter Try.func7, Try.ntmps7
      go_wp2_with (go_at_call 9; ((with_reducible refine (aw _).mono ?_); rintro e w1 ⟨rfl, hb⟩; have HB := Lib.hid (((Below.refl w.heap.size w).alloc (Nat.le_refl _) _).trans (hb.mono (by simp))); clear hb))
      go_ret
      exact ⟨rfl, HB.out⟩
end Go.Proofs.Ytajmfpnkcenhaaa
