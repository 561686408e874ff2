/-
  The walk of PolyRoots: it answers true, where the program's calls do what is asked of them. (Written by gen_plaw_roots.py.)
-/
import Derived.Test.YtajmfpnkcenhaaaPolyLem
namespace Go.Proofs.Ytajmfpnkcenhaaa
open Go.RowKit Go.Sort Go.BigFrame
set_option linter.unusedVariables false

def RootR1 (b off la ca k : Nat) (z0 z1 x0 x1 s0 s1 : Int) (sl : Nat) (v : Value) (W : World) : Prop :=
  match sl with
  | 32 => v = .bool true
  | 33 => v = .bool true
  | 34 => v = undef
  | 35 => v = undef
  | 36 => v = undef
  | 37 => v = undef
  | 38 => v = undef
  | 39 => v = undef
  | 40 => v = undef
  | 41 => v = undef
  | 42 => v = .bool true
  | _ => v = .bool true
theorem RootR1.keep {b off la ca k : Nat} {z0 z1 x0 x1 s0 s1 : Int} {sl : Nat} {v : Value} {W W' : World} (h : RootR1 b off la ca k z0 z1 x0 x1 s0 s1 sl v W) (hb : Below W.heap.size W W') : RootR1 b off la ca k z0 z1 x0 x1 s0 s1 sl v W' := by
  unfold RootR1 at *
  split at h
  all_goals first | exact h | exact IsP.keep h hb
def RootR2 (b off la ca k : Nat) (z0 z1 x0 x1 s0 s1 : Int) (sl : Nat) (v : Value) (W : World) : Prop :=
  match sl with
  | 32 => v = .bool false
  | 33 => v = .bool false
  | 34 => v = .slice (some ⟨b, off, none⟩) la ca
  | 35 => v = .int .i64 k
  | 36 => v = .pointer (some ⟨b, off + k * 2, none⟩)
  | 37 => v = .agg #[.int .u64 z0, .int .u64 z1]
  | 38 => v = .agg #[.int .u64 x0, .int .u64 x1]
  | 39 => v = .agg #[.int .u64 s0, .int .u64 s1]
  | 40 => v = .agg #[.int .u64 0, .int .u64 0]
  | 41 => v = .bool true
  | 42 => v = .bool true
  | _ => v = .bool true
theorem RootR2.keep {b off la ca k : Nat} {z0 z1 x0 x1 s0 s1 : Int} {sl : Nat} {v : Value} {W W' : World} (h : RootR2 b off la ca k z0 z1 x0 x1 s0 s1 sl v W) (hb : Below W.heap.size W W') : RootR2 b off la ca k z0 z1 x0 x1 s0 s1 sl v W' := by
  unfold RootR2 at *
  split at h
  all_goals first | exact h | exact IsP.keep h hb
def RootR3 (b off la ca k : Nat) (z0 z1 x0 x1 s0 s1 : Int) (sl : Nat) (v : Value) (W : World) : Prop :=
  match sl with
  | 32 => v = .bool false
  | 33 => v = .bool false
  | 34 => v = .slice (some ⟨b, off, none⟩) la ca
  | 35 => v = .int .i64 k
  | 36 => v = .pointer (some ⟨b, off + k * 2, none⟩)
  | 37 => v = .agg #[.int .u64 z0, .int .u64 z1]
  | 38 => v = .agg #[.int .u64 x0, .int .u64 x1]
  | 39 => v = .agg #[.int .u64 s0, .int .u64 s1]
  | 40 => v = .agg #[.int .u64 0, .int .u64 0]
  | 41 => v = .bool false
  | 42 => v = .bool false
  | _ => v = .bool true
theorem RootR3.keep {b off la ca k : Nat} {z0 z1 x0 x1 s0 s1 : Int} {sl : Nat} {v : Value} {W W' : World} (h : RootR3 b off la ca k z0 z1 x0 x1 s0 s1 sl v W) (hb : Below W.heap.size W W') : RootR3 b off la ca k z0 z1 x0 x1 s0 s1 sl v W' := by
  unfold RootR3 at *
  split at h
  all_goals first | exact h | exact IsP.keep h hb

/-- Whether one of the first k is x. -/
def isB (l : List F2) (x : F2) (k : Nat) : Bool := (List.range k).any fun i => decide (x = cq l i)
theorem isB_zero (l : List F2) (x : F2) : isB l x 0 = false := rfl
theorem isB_succ (l : List F2) (x : F2) (k : Nat) : isB l x (k + 1) = (isB l x k || decide (x = cq l k)) := by unfold isB; rw [List.range_succ, List.any_append]; simp
theorem isB_iff (l : List F2) (x : F2) (k : Nat) : isB l x k = true ↔ ∃ i, i < k ∧ x = cq l i := by unfold isB; simp
def RootUp (w : World) (l : List F2) (x : F2) (x0 x1 : Int) (la : Nat) (v5 v6 i : Value) (W : World) : Prop :=
  ∃ k : Nat, k ≤ la ∧ i = .int .i64 k ∧ v6 = .bool (isB l x k) ∧ Below w.heap.size w W ∧ Var W w.heap.size x0 x1 ∧ IsP W v5 (rootsP l k)
def RootDown (w : World) (l : List F2) (la : Nat) (v5 : Value) (i : Value) (W : World) : Prop :=
  ∃ k : Nat, k ≤ la ∧ i = .int .i64 k ∧ Below w.heap.size w W ∧ IsP W v5 (rootsP l la)

set_option maxRecDepth 100000 in
set_option maxHeartbeats 8000000 in
theorem proots_body (hA : AskPoly) (aw : ∀ W, Calls Try.prog 9 #[] W fun e w' => e = .returned (.bool true) ∧ Below W.heap.size W w') (a : Option Addr) (la ca : Nat) (l : List F2) (x0 x1 : Int) (x : F2) (w : World) (h1 : Poly w (.slice a la ca) l) (hx : Rep x0 x1 x) :
    Calls Try.prog 8 #[.slice a la ca, .agg #[.int .u64 x0, .int .u64 x1]] w fun e w' => e = .returned (.bool true) ∧ Below w.heap.size w w' := by
  obtain ⟨e1, hm1, hc1⟩ := h1.at
  by_cases hc : la ≤ 8
  · have HC := Lib.hid hc1
    have HSt : Hid (∀ k, k < la → mulP (rootsP l k) [-(cq l k), 1] = rootsP l (k + 1)) := Lib.hid (fun k hk => rootsP_step l k (by omega))
    have HLn : Hid (∀ k, k ≤ la → (rootsP l k).length ≤ 9) := Lib.hid (fun k hk => by unfold rootsP; rw [pl_len]; exact Nat.le_trans (tn_le _ _) (by omega))
    have HDg : Hid (degP (rootsP l la) = la) := Lib.hid (degP_roots l la (by omega))
    have HAt : Hid (∀ y, atP (rootsP l la) y = 0 ↔ ∃ i, i < la ∧ y = cq l i) := Lib.hid (atP_roots l la (by omega))
    have HDiv : Hid (∀ k, degP (divP (rootsP l la) (cq l k)) = max ((la : Int) - 1) (-1)) := Lib.hid (fun k => by rw [degP_div, HDg.out])
    have n1 : (la : Int) ≤ 8 := by omega
    have HZ0 : Hid (isB l x 0 = false) := Lib.hid rfl
    have HIS0 := Lib.hid (isB_succ l x)
    clear hc1 h1 e1 hm1
    go_enter Try.func8, Try.ntmps8
    go_upto_region 6 with fail
    go_loopw [5, 6, 7] (RootUp w l x x0 x1 la) (fun _ _ i _ => la - (intOf i).toNat)
    case atStart => exact ⟨0, Nat.zero_le _, rfl, by rw [HZ0.out], ((Below.refl _ _).alloc (Nat.le_refl _) _).alloc (by simp) _, (Var.new w x0 x1 _).alloc _, by rw [rootsP_zero]; exact isP_one (by simp [go_sem]; rfl) (by simp [go_sem]; rfl)⟩
    case round =>
      obtain ⟨k, hk, rfl, rfl, hB, hX, h5⟩ := hrel
      by_cases hlt : k < la
      · obtain ⟨b, off, z0, z1, rfl, g0, g1, hR⟩ := HC.out k hlt
        replace g0 := bkeep hB g0
        replace g1 := bkeep hB g1
        have hk1 : (k : Int) < (la : Int) := by omega
        have hk0 : (0 : Int) ≤ (k : Int) := by omega
        have N1 := rneg_q z0 z1 (cq l k) (-(cq l k)) hR rfl
        have MU : Hid (∀ W1, IsP W1 u5 (rootsP l k) → Calls Try.prog 13 #[u5, .slice (some ⟨W1.heap.size, 0, none⟩) 2 2] (W1.alloc (.cells #[.int .u64 (enc (-(cq l k)).a), .int .u64 (enc (-(cq l k)).b), .int .u64 1, .int .u64 0] 25)) (RetP (rootsP l (k + 1)) (W1.alloc (.cells #[.int .u64 (enc (-(cq l k)).a), .int .u64 (enc (-(cq l k)).b), .int .u64 1, .int .u64 0] 25)))) := Lib.hid (fun W1 h => by
          have := hA.mul u5 (.slice (some ⟨W1.heap.size, 0, none⟩) 2 2) (rootsP l k) [-(cq l k), 1] (W1.alloc (.cells #[.int .u64 (enc (-(cq l k)).a), .int .u64 (enc (-(cq l k)).b), .int .u64 1, .int .u64 0] 25)) (h.keep ((Below.refl _ _).alloc (Nat.le_refl _) _)).poly (isP_two (by simp [go_sem]) (by simp [go_sem]) (by simp [go_sem]; rfl) (by simp [go_sem]; rfl)).poly (by have := HLn.out k hk; omega) (by simp)
          rw [HSt.out k hlt] at this
          exact this)
        obtain ⟨s, hs⟩ : ∃ s, cq l k - x = s := ⟨_, rfl⟩
        have S1 := rsub_q z0 z1 x0 x1 (cq l k) x s hR hx hs
        have HXK : Hid (x = cq l k ↔ s = 0) := Lib.hid ⟨fun h => by rw [← hs, h]; exact sub_self' _, fun h => (sub_eq_zero' (hs.trans h)).symm⟩
        have HI1 := Lib.hid (HIS0.out k)
        have HB := Lib.hid hB; have HX := Lib.hid hX; have H5 := Lib.hid h5; have G0 := Lib.hid g0; have G1 := Lib.hid g1
        clear hB hX h5 hR hs
        generalize -(cq l k) = nx at *
        go_upto_region 9 with (first
          | (go_at_call 29; ((with_reducible refine (N1 _).mono ?_); rintro e W1 ⟨rfl, hb⟩; have T := MU.out W1 (H5.out.keep hb); replace HB := Lib.hid (bthen HB.out hb); replace HX := Lib.hid (HX.out.keep hb); replace G0 := Lib.hid (bkeep hb G0.out); replace G1 := Lib.hid (bkeep hb G1.out); clear hb g0 g1 N1 MU))
          | (go_at_call 13; ((with_reducible refine T.mono ?_); rintro e W2 ⟨v5, rfl, hb, hp⟩; have hbb := ((Below.refl W1.heap.size W1).alloc (Nat.le_refl _) (.cells #[.int .u64 (enc nx.a), .int .u64 (enc nx.b), .int .u64 1, .int .u64 0] 25)).trans (hb.mono (by simp)))))
        replace HB := Lib.hid (bthen HB.out hbb)
        replace HX := Lib.hid (HX.out.keep hbb)
        replace H5 := Lib.hid hp
        have g0 := bkeep hbb G0.out
        have g1 := bkeep hbb G1.out
        obtain ⟨xc0, xc1, _, _⟩ := HX.out
        clear hb hbb hp T G0 G1
        cases hib : isB l x k with
        | true =>
          have HIS : Hid (isB l x (k + 1) = true) := Lib.hid (by rw [HI1.out, hib]; rfl)
          clear hib S1 g0 g1
          refine wp_loose [(32, []), (33, [32]), (34, [33]), (35, [33]), (36, [33, 34, 35]), (37, [33, 36]), (38, [33]), (39, [33, 37, 38]), (40, [33]), (41, [33, 39, 40]), (42, [33, 41])]
            (RootR1 b off la ca k z0 z1 x0 x1 0 0) (fun d => false) (by kernel_rfl) (by kernel_rfl) (fun _ _ _ _ h hb => h.keep hb) ?_ ?_
          · refine opsrun_cons ?_ (opsrun_cons ?_ (opsrun_cons ?_ (opsrun_cons ?_ (opsrun_cons ?_ (opsrun_cons ?_ (opsrun_cons ?_ (opsrun_cons ?_ (opsrun_cons ?_ (opsrun_cons ?_ (opsrun_cons ?_ opsrun_nil))))))))))
            all_goals
              refine OpRuns.any ?_
              intro Q0 σ W' K hb hn hK
              simp only [fill, List.map, Act.put, List.setIfInBounds_toArray, List.set_cons_zero, List.set_cons_succ] at hK ⊢
            · clear hn
              go_simp
              exact hK _ _ rfl (Below.refl _ _) (fun h => absurd h (by decide))
            · have h32 : σ 32 = _ := hn 32 (by decide)
              clear hn
              simp only [h32] at hK
              go_simp
              exact hK _ _ rfl (Below.refl _ _) (fun h => absurd h (by decide))
            · have h33 : σ 33 = _ := hn 33 (by decide)
              clear hn
              simp only [h33] at hK
              go_simp
              exact hK _ _ rfl (Below.refl _ _) (fun h => absurd h (by decide))
            · have h33 : σ 33 = _ := hn 33 (by decide)
              clear hn
              simp only [h33] at hK
              go_simp
              exact hK _ _ rfl (Below.refl _ _) (fun h => absurd h (by decide))
            · have h33 : σ 33 = _ := hn 33 (by decide)
              have h34 : σ 34 = _ := hn 34 (by decide)
              have h35 : σ 35 = _ := hn 35 (by decide)
              clear hn
              simp only [h33, h34, h35] at hK
              go_simp
              exact hK _ _ rfl (Below.refl _ _) (fun h => absurd h (by decide))
            · have h33 : σ 33 = _ := hn 33 (by decide)
              have h36 : σ 36 = _ := hn 36 (by decide)
              clear hn
              simp only [h33, h36] at hK
              go_simp
              exact hK _ _ rfl (Below.refl _ _) (fun h => absurd h (by decide))
            · have h33 : σ 33 = _ := hn 33 (by decide)
              clear hn
              simp only [h33] at hK
              go_simp
              exact hK _ _ rfl (Below.refl _ _) (fun h => absurd h (by decide))
            · have h33 : σ 33 = _ := hn 33 (by decide)
              have h37 : σ 37 = _ := hn 37 (by decide)
              have h38 : σ 38 = _ := hn 38 (by decide)
              clear hn
              simp only [h33, h37, h38] at hK
              go_simp
              exact hK _ _ rfl (Below.refl _ _) (fun h => absurd h (by decide))
            · have h33 : σ 33 = _ := hn 33 (by decide)
              clear hn
              simp only [h33] at hK
              go_simp
              exact hK _ _ rfl (Below.refl _ _) (fun h => absurd h (by decide))
            · have h33 : σ 33 = _ := hn 33 (by decide)
              have h39 : σ 39 = _ := hn 39 (by decide)
              have h40 : σ 40 = _ := hn 40 (by decide)
              clear hn
              simp only [h33, h39, h40] at hK
              go_simp
              exact hK _ _ rfl (Below.refl _ _) (fun h => absurd h (by decide))
            · have h33 : σ 33 = _ := hn 33 (by decide)
              have h41 : σ 41 = _ := hn 41 (by decide)
              clear hn
              simp only [h33, h41] at hK
              go_simp
              exact hK _ _ rfl (Below.refl _ _) (fun h => absurd h (by decide))
          · intro σ W' hb hR' hF
            have h42 : σ 42 = _ := hR' 42 (by decide)
            replace HB := Lib.hid (bthen HB.out hb)
            replace HX := Lib.hid (HX.out.keep hb)
            replace H5 := Lib.hid (H5.out.keep hb)
            clear hR' hF hb xc0 xc1
            simp only [fill, List.map, Act.put, List.setIfInBounds_toArray, List.set_cons_zero, List.set_cons_succ, List.length_cons, List.length_nil, List.drop_succ_cons, List.drop_zero, Nat.reduceAdd, h42]
            clear h42
            go_wp2_with fail
            go_roundw
            case rel => exact ⟨k + 1, by omega, by go_num, by rw [HIS.out], HB.out, HX.out, H5.out⟩
            case measure => simp [intOf]; omega
        | false =>
          by_cases hs0 : s = 0
          · have HIS : Hid (isB l x (k + 1) = true) := Lib.hid (by rw [HI1.out, hib, Bool.false_or, decide_eq_true_eq]; exact HXK.out.2 hs0)
            rw [hs0, show enc (0 : F2).a = 0 from rfl, show enc (0 : F2).b = 0 from rfl] at S1
            have s1' := S1
            clear hib S1 hs0
            refine wp_loose [(32, []), (33, [32]), (34, [33]), (35, [33]), (36, [33, 34, 35]), (37, [33, 36]), (38, [33]), (39, [33, 37, 38]), (40, [33]), (41, [33, 39, 40]), (42, [33, 41])]
              (RootR2 b off la ca k z0 z1 x0 x1 0 0) (fun d => false) (by kernel_rfl) (by kernel_rfl) (fun _ _ _ _ h hb => h.keep hb) ?_ ?_
            · refine opsrun_cons ?_ (opsrun_cons ?_ (opsrun_cons ?_ (opsrun_cons ?_ (opsrun_cons ?_ (opsrun_cons ?_ (opsrun_cons ?_ (opsrun_cons ?_ (opsrun_cons ?_ (opsrun_cons ?_ (opsrun_cons ?_ opsrun_nil))))))))))
              all_goals
                refine OpRuns.any ?_
                intro Q0 σ W' K hb hn hK
                simp only [fill, List.map, Act.put, List.setIfInBounds_toArray, List.set_cons_zero, List.set_cons_succ] at hK ⊢
              · clear hn
                go_simp
                exact hK _ _ rfl (Below.refl _ _) (fun h => absurd h (by decide))
              · have h32 : σ 32 = _ := hn 32 (by decide)
                clear hn
                simp only [h32] at hK
                go_simp
                exact hK _ _ rfl (Below.refl _ _) (fun h => absurd h (by decide))
              · have h33 : σ 33 = _ := hn 33 (by decide)
                clear hn
                simp only [h33] at hK
                go_simp
                exact hK _ _ rfl (Below.refl _ _) (fun h => absurd h (by decide))
              · have h33 : σ 33 = _ := hn 33 (by decide)
                clear hn
                simp only [h33] at hK
                go_simp
                exact hK _ _ rfl (Below.refl _ _) (fun h => absurd h (by decide))
              · have h33 : σ 33 = _ := hn 33 (by decide)
                have h34 : σ 34 = _ := hn 34 (by decide)
                have h35 : σ 35 = _ := hn 35 (by decide)
                clear hn
                simp only [h33, h34, h35] at hK
                go_simp
                exact hK _ _ rfl (Below.refl _ _) (fun h => absurd h (by decide))
              · have h33 : σ 33 = _ := hn 33 (by decide)
                have h36 : σ 36 = _ := hn 36 (by decide)
                clear hn
                simp only [h33, h36] at hK
                have g0' := bkeep hb g0
                have g1' := bkeep hb g1
                clear g0 g1
                go_simp
                exact hK _ _ rfl (Below.refl _ _) (fun h => absurd h (by decide))
              · have h33 : σ 33 = _ := hn 33 (by decide)
                clear hn
                simp only [h33] at hK
                have xc0' := bkeep hb xc0
                have xc1' := bkeep hb xc1
                clear xc0 xc1
                go_simp
                exact hK _ _ rfl (Below.refl _ _) (fun h => absurd h (by decide))
              · have h33 : σ 33 = _ := hn 33 (by decide)
                have h37 : σ 37 = _ := hn 37 (by decide)
                have h38 : σ 38 = _ := hn 38 (by decide)
                clear hn
                simp only [h33, h37, h38] at hK
                go_simp
                go_at_call 32
                refine (s1' _).mono ?_
                rintro e w1 ⟨rfl, hb1⟩
                exact hK _ _ rfl hb1 (fun h => absurd h (by decide))
              · have h33 : σ 33 = _ := hn 33 (by decide)
                clear hn
                simp only [h33] at hK
                go_simp
                exact hK _ _ rfl (Below.refl _ _) (fun h => absurd h (by decide))
              · have h33 : σ 33 = _ := hn 33 (by decide)
                have h39 : σ 39 = _ := hn 39 (by decide)
                have h40 : σ 40 = _ := hn 40 (by decide)
                clear hn
                simp only [h33, h39, h40] at hK
                go_simp
                exact hK _ _ rfl (Below.refl _ _) (fun h => absurd h (by decide))
              · have h33 : σ 33 = _ := hn 33 (by decide)
                have h41 : σ 41 = _ := hn 41 (by decide)
                clear hn
                simp only [h33, h41] at hK
                go_simp
                exact hK _ _ rfl (Below.refl _ _) (fun h => absurd h (by decide))
            · intro σ W' hb hR' hF
              have h42 : σ 42 = _ := hR' 42 (by decide)
              replace HB := Lib.hid (bthen HB.out hb)
              replace HX := Lib.hid (HX.out.keep hb)
              replace H5 := Lib.hid (H5.out.keep hb)
              clear hR' hF hb xc0 xc1 g0 g1 s1'
              simp only [fill, List.map, Act.put, List.setIfInBounds_toArray, List.set_cons_zero, List.set_cons_succ, List.length_cons, List.length_nil, List.drop_succ_cons, List.drop_zero, Nat.reduceAdd, h42]
              clear h42
              go_wp2_with fail
              go_roundw
              case rel => exact ⟨k + 1, by omega, by go_num, by rw [HIS.out], HB.out, HX.out, H5.out⟩
              case measure => simp [intOf]; omega
          · have HIS : Hid (isB l x (k + 1) = false) := Lib.hid (by rw [HI1.out, hib, Bool.false_or, decide_eq_false_iff_not]; exact fun h => hs0 (HXK.out.1 h))
            have HNE := Lib.hid (enc_ne hs0)
            have s1' := S1
            generalize enc s.a = s0 at *
            generalize enc s.b = s1 at *
            clear hib S1 hs0
            refine wp_loose [(32, []), (33, [32]), (34, [33]), (35, [33]), (36, [33, 34, 35]), (37, [33, 36]), (38, [33]), (39, [33, 37, 38]), (40, [33]), (41, [33, 39, 40]), (42, [33, 41])]
              (RootR3 b off la ca k z0 z1 x0 x1 s0 s1) (fun d => false) (by kernel_rfl) (by kernel_rfl) (fun _ _ _ _ h hb => h.keep hb) ?_ ?_
            · refine opsrun_cons ?_ (opsrun_cons ?_ (opsrun_cons ?_ (opsrun_cons ?_ (opsrun_cons ?_ (opsrun_cons ?_ (opsrun_cons ?_ (opsrun_cons ?_ (opsrun_cons ?_ (opsrun_cons ?_ (opsrun_cons ?_ opsrun_nil))))))))))
              all_goals
                refine OpRuns.any ?_
                intro Q0 σ W' K hb hn hK
                simp only [fill, List.map, Act.put, List.setIfInBounds_toArray, List.set_cons_zero, List.set_cons_succ] at hK ⊢
              · clear hn
                go_simp
                exact hK _ _ rfl (Below.refl _ _) (fun h => absurd h (by decide))
              · have h32 : σ 32 = _ := hn 32 (by decide)
                clear hn
                simp only [h32] at hK
                go_simp
                exact hK _ _ rfl (Below.refl _ _) (fun h => absurd h (by decide))
              · have h33 : σ 33 = _ := hn 33 (by decide)
                clear hn
                simp only [h33] at hK
                go_simp
                exact hK _ _ rfl (Below.refl _ _) (fun h => absurd h (by decide))
              · have h33 : σ 33 = _ := hn 33 (by decide)
                clear hn
                simp only [h33] at hK
                go_simp
                exact hK _ _ rfl (Below.refl _ _) (fun h => absurd h (by decide))
              · have h33 : σ 33 = _ := hn 33 (by decide)
                have h34 : σ 34 = _ := hn 34 (by decide)
                have h35 : σ 35 = _ := hn 35 (by decide)
                clear hn
                simp only [h33, h34, h35] at hK
                go_simp
                exact hK _ _ rfl (Below.refl _ _) (fun h => absurd h (by decide))
              · have h33 : σ 33 = _ := hn 33 (by decide)
                have h36 : σ 36 = _ := hn 36 (by decide)
                clear hn
                simp only [h33, h36] at hK
                have g0' := bkeep hb g0
                have g1' := bkeep hb g1
                clear g0 g1
                go_simp
                exact hK _ _ rfl (Below.refl _ _) (fun h => absurd h (by decide))
              · have h33 : σ 33 = _ := hn 33 (by decide)
                clear hn
                simp only [h33] at hK
                have xc0' := bkeep hb xc0
                have xc1' := bkeep hb xc1
                clear xc0 xc1
                go_simp
                exact hK _ _ rfl (Below.refl _ _) (fun h => absurd h (by decide))
              · have h33 : σ 33 = _ := hn 33 (by decide)
                have h37 : σ 37 = _ := hn 37 (by decide)
                have h38 : σ 38 = _ := hn 38 (by decide)
                clear hn
                simp only [h33, h37, h38] at hK
                go_simp
                go_at_call 32
                refine (s1' _).mono ?_
                rintro e w1 ⟨rfl, hb1⟩
                exact hK _ _ rfl hb1 (fun h => absurd h (by decide))
              · have h33 : σ 33 = _ := hn 33 (by decide)
                clear hn
                simp only [h33] at hK
                go_simp
                exact hK _ _ rfl (Below.refl _ _) (fun h => absurd h (by decide))
              · have h33 : σ 33 = _ := hn 33 (by decide)
                have h39 : σ 39 = _ := hn 39 (by decide)
                have h40 : σ 40 = _ := hn 40 (by decide)
                clear hn
                simp only [h33, h39, h40] at hK
                rcases HNE.out with hne | hne
                · go_simp
                  exact hK _ _ rfl (Below.refl _ _) (fun h => absurd h (by decide))
                · go_simp
                  exact hK _ _ rfl (Below.refl _ _) (fun h => absurd h (by decide))
              · have h33 : σ 33 = _ := hn 33 (by decide)
                have h41 : σ 41 = _ := hn 41 (by decide)
                clear hn
                simp only [h33, h41] at hK
                go_simp
                exact hK _ _ rfl (Below.refl _ _) (fun h => absurd h (by decide))
            · intro σ W' hb hR' hF
              have h42 : σ 42 = _ := hR' 42 (by decide)
              replace HB := Lib.hid (bthen HB.out hb)
              replace HX := Lib.hid (HX.out.keep hb)
              replace H5 := Lib.hid (H5.out.keep hb)
              clear hR' hF hb xc0 xc1 g0 g1 s1'
              simp only [fill, List.map, Act.put, List.setIfInBounds_toArray, List.set_cons_zero, List.set_cons_succ, List.length_cons, List.length_nil, List.drop_succ_cons, List.drop_zero, Nat.reduceAdd, h42]
              clear h42
              go_wp2_with fail
              go_roundw
              case rel => exact ⟨k + 1, by omega, by go_num, by rw [HIS.out], HB.out, HX.out, H5.out⟩
              case measure => simp [intOf]; omega
      · have hkn : k = la := by omega
        rw [hkn] at h5 ⊢
        have A1 := fun W h => hA.at' u5 (rootsP l la) x0 x1 x W h hx (by have := HLn.out la (Nat.le_refl _); omega)
        have D1 := fun W h => hA.degree u5 (rootsP l la) W h (by have := HLn.out la (Nat.le_refl _); omega)
        rw [HDg.out] at D1
        have HY := HAt.out x
        rw [← isB_iff] at HY
        have HX := Lib.hid hX; have HB := Lib.hid hB; have H5 := Lib.hid h5
        obtain ⟨xc0, xc1, _, _⟩ := hX
        have T := A1 wr h5.poly
        clear hB h5 A1 hlt hk hkn
        generalize atP (rootsP l la) x = y at *
        have rest : True := trivial
        cases hib : isB l x la with
        | true =>
          rw [hib] at HY
          have hy : y = 0 := HY.2 rfl
          subst hy
          unfold RetQ at T
          rw [show enc (0 : F2).a = 0 from rfl, show enc (0 : F2).b = 0 from rfl] at T
          clear HY hib
          go_upto_region 13 with (first
            | (go_at_call 21; ((with_reducible refine T.mono ?_); rintro e W1 ⟨rfl, hb1⟩; have T2 := D1 W1 (H5.out.keep hb1).poly; clear T))
            | (go_at_call 17; ((with_reducible refine T2.mono ?_); rintro e W2 ⟨rfl, hb2⟩; clear T2)))
          have hb := hb1.trans (hb2.mono hb1.size)
          replace HB := Lib.hid (bthen HB.out hb)
          replace H5 := Lib.hid (H5.out.keep hb)
          clear hb1 hb2 hb xc0 xc1 D1
          go_loopw [8] (RootDown w l la u5) (fun i _ => la - (intOf i).toNat)
          case atStart => exact ⟨0, Nat.zero_le _, rfl, HB.out, H5.out⟩
          case round =>
            clear HB H5 HX
            obtain ⟨q, hq, rfl, hB, h5⟩ := hrel
            by_cases hlt : q < la
            · obtain ⟨b, off, z0, z1, rfl, g0, g1, hR⟩ := HC.out q hlt
              replace g0 := bkeep hB g0
              replace g1 := bkeep hB g1
              have hq1 : (q : Int) < (la : Int) := by omega
              have hq0 : (0 : Int) ≤ (q : Int) := by omega
              have DV := hA.divide u5 (rootsP l la) z0 z1 (cq l q) wr h5.poly hR (by have := HLn.out la (Nat.le_refl _); omega)
              have e0 : atP (rootsP l la) (cq l q) = 0 := (HAt.out _).2 ⟨q, hlt, rfl⟩
              rw [e0] at DV
              unfold RetD at DV
              rw [show enc (0 : F2).a = 0 from rfl, show enc (0 : F2).b = 0 from rfl] at DV
              have hdl : (divP (rootsP l la) (cq l q)).length ≤ 9 := by unfold divP; rw [pl_len]; have := HLn.out la (Nat.le_refl _); exact Nat.le_trans (tn_le _ _) (by omega)
              have DG := fun W v (h : IsP W v (divP (rootsP l la) (cq l q))) => hA.degree v _ W h.poly (by omega)
              rw [HDiv.out q, show max ((la : Int) - 1) (-1) = (la : Int) - 1 by omega] at DG
              have HB := Lib.hid hB; have H5 := Lib.hid h5
              clear hB h5 hR e0 hdl
              go_wp2_with (first
                | (go_at_call 23; ((with_reducible refine DV.mono ?_); rintro e W1 ⟨v9, rfl, hb1, hp⟩; have DGG := DG _ v9 (hp.keep ((Below.refl W1.heap.size W1).alloc (Nat.le_refl _) (.cells #[.int .u64 0, .int .u64 0] 25))); have hbb := hb1.trans (((Below.refl W1.heap.size W1).alloc (Nat.le_refl _) (.cells #[.int .u64 0, .int .u64 0] 25)).mono hb1.size); clear DV DG hp g0 g1 hb1))
                | (go_at_call 17; ((with_reducible refine DGG.mono ?_); rintro e W2 ⟨rfl, hb2⟩; have HBE := Lib.hid (bthen HB.out (hbb.trans (hb2.mono hbb.size))); have H5E := Lib.hid ((H5.out.keep hbb).keep hb2); clear hb2 hbb DGG)))
              go_roundw
              case rel => exact ⟨q + 1, by omega, by go_num, HBE.out, H5E.out⟩
              case measure => simp [intOf]; omega
            · have hqn : q = la := by omega
              have AWW := aw wr
              have HB := Lib.hid hB
              clear hB h5
              have hq2 : ¬ (q : Int) < (la : Int) := by omega
              go_wp2_with (go_at_call 9; ((with_reducible refine AWW.mono ?_); rintro e w1 ⟨rfl, hb⟩; have HBE := Lib.hid (bthen HB.out hb); clear hb AWW))
              go_ret
              exact ⟨rfl, HBE.out⟩
        | false =>
          have hy : y ≠ 0 := fun h => by have := HY.1 h; rw [hib] at this; cases this
          have HNE := Lib.hid (enc_ne hy)
          unfold RetQ at T
          generalize enc y.a = s0 at *
          generalize enc y.b = s1 at *
          clear HY hib hy
          rcases HNE.out with hne | hne
          all_goals
            go_upto_region 13 with (first
              | (go_at_call 21; ((with_reducible refine T.mono ?_); rintro e W1 ⟨rfl, hb1⟩; have T2 := D1 W1 (H5.out.keep hb1).poly; clear T))
              | (go_at_call 17; ((with_reducible refine T2.mono ?_); rintro e W2 ⟨rfl, hb2⟩; clear T2)))
            have hb := hb1.trans (hb2.mono hb1.size)
            replace HB := Lib.hid (bthen HB.out hb)
            replace H5 := Lib.hid (H5.out.keep hb)
            clear hb1 hb2 hb xc0 xc1 D1
            go_loopw [8] (RootDown w l la u5) (fun i _ => la - (intOf i).toNat)
            case atStart => exact ⟨0, Nat.zero_le _, rfl, HB.out, H5.out⟩
            case round =>
              clear HB H5 HX
              obtain ⟨q, hq, rfl, hB, h5⟩ := hrel
              by_cases hlt : q < la
              · obtain ⟨b, off, z0, z1, rfl, g0, g1, hR⟩ := HC.out q hlt
                replace g0 := bkeep hB g0
                replace g1 := bkeep hB g1
                have hq1 : (q : Int) < (la : Int) := by omega
                have hq0 : (0 : Int) ≤ (q : Int) := by omega
                have DV := hA.divide u5 (rootsP l la) z0 z1 (cq l q) wr h5.poly hR (by have := HLn.out la (Nat.le_refl _); omega)
                have e0 : atP (rootsP l la) (cq l q) = 0 := (HAt.out _).2 ⟨q, hlt, rfl⟩
                rw [e0] at DV
                unfold RetD at DV
                rw [show enc (0 : F2).a = 0 from rfl, show enc (0 : F2).b = 0 from rfl] at DV
                have hdl : (divP (rootsP l la) (cq l q)).length ≤ 9 := by unfold divP; rw [pl_len]; have := HLn.out la (Nat.le_refl _); exact Nat.le_trans (tn_le _ _) (by omega)
                have DG := fun W v (h : IsP W v (divP (rootsP l la) (cq l q))) => hA.degree v _ W h.poly (by omega)
                rw [HDiv.out q, show max ((la : Int) - 1) (-1) = (la : Int) - 1 by omega] at DG
                have HB := Lib.hid hB; have H5 := Lib.hid h5
                clear hB h5 hR e0 hdl
                go_wp2_with (first
                  | (go_at_call 23; ((with_reducible refine DV.mono ?_); rintro e W1 ⟨v9, rfl, hb1, hp⟩; have DGG := DG _ v9 (hp.keep ((Below.refl W1.heap.size W1).alloc (Nat.le_refl _) (.cells #[.int .u64 0, .int .u64 0] 25))); have hbb := hb1.trans (((Below.refl W1.heap.size W1).alloc (Nat.le_refl _) (.cells #[.int .u64 0, .int .u64 0] 25)).mono hb1.size); clear DV DG hp g0 g1 hb1))
                  | (go_at_call 17; ((with_reducible refine DGG.mono ?_); rintro e W2 ⟨rfl, hb2⟩; have HBE := Lib.hid (bthen HB.out (hbb.trans (hb2.mono hbb.size))); have H5E := Lib.hid ((H5.out.keep hbb).keep hb2); clear hb2 hbb DGG)))
                go_roundw
                case rel => exact ⟨q + 1, by omega, by go_num, HBE.out, H5E.out⟩
                case measure => simp [intOf]; omega
              · have hqn : q = la := by omega
                have AWW := aw wr
                have HB := Lib.hid hB
                clear hB h5
                have hq2 : ¬ (q : Int) < (la : Int) := by omega
                go_wp2_with (go_at_call 9; ((with_reducible refine AWW.mono ?_); rintro e w1 ⟨rfl, hb⟩; have HBE := Lib.hid (bthen HB.out hb); clear hb AWW))
                go_ret
                exact ⟨rfl, HBE.out⟩
  · have c2 : 8 < la := by omega
    clear h1 hx hA e1 hc hc1 hm1
    go_enter Try.func8, Try.ntmps8
    go_wp2_with (go_at_call 9; ((with_reducible refine (aw _).mono ?_); rintro e w1 ⟨rfl, hb⟩; have HB := Lib.hid (((Below.refl w.heap.size w).alloc (Nat.le_refl _) _).trans (hb.mono (by simp))); clear hb))
    go_ret
    exact ⟨rfl, HB.out⟩
end Go.Proofs.Ytajmfpnkcenhaaa
