/-
  What the program's Mul of package poly comes to: a contract for the walk. (Written by gen_pg2.py.)
-/
import Derived.Test.YtajmfpnkcenhaaaPgTrim
import Derived.Test.YtajmfpnkcenhaaaLoose
namespace Go.Proofs.Ytajmfpnkcenhaaa
open Go.RowKit
set_option linter.unusedVariables false

def PgMulR (g n i j p : Nat) (o0 o1 x0 x1 y0 y1 m0 m1 n0 n1 : Int) (sl : Nat) (v : Value) (W : World) : Prop :=
  match sl with
  | 43 => v = .slice (some ⟨g, 0, none⟩) n n
  | 44 => v = .int .i64 i
  | 45 => v = .int .i64 j
  | 46 => v = .int .i64 p
  | 47 => v = .slice (some ⟨g, 0, none⟩) n n
  | 48 => v = .int .i64 i
  | 49 => v = .int .i64 j
  | 50 => v = .int .i64 p
  | 51 => v = .pointer (some ⟨g, p * 2, none⟩)
  | 52 => v = .agg #[.int .u64 o0, .int .u64 o1]
  | 53 => v = .agg #[.int .u64 x0, .int .u64 x1]
  | 54 => v = .agg #[.int .u64 y0, .int .u64 y1]
  | 55 => v = .agg #[.int .u64 m0, .int .u64 m1]
  | 56 => v = .agg #[.int .u64 n0, .int .u64 n1]
  | _ => v = .pointer (some ⟨g, p * 2, none⟩)
theorem PgMulR.keep {g n i j p : Nat} {o0 o1 x0 x1 y0 y1 m0 m1 n0 n1 : Int} {sl : Nat} {v : Value} {W W' : World} (h : PgMulR g n i j p o0 o1 x0 x1 y0 y1 m0 m1 n0 n1 sl v W) (hb : Below W.heap.size W W') : PgMulR g n i j p o0 o1 x0 x1 y0 y1 m0 m1 n0 n1 sl v W' := h

theorem trimP_len (l : List F2) : (trimP l).length ≤ l.length := by unfold trimP; rw [pl_len]; exact tn_le _ _
theorem trimP_tn (l : List F2) : tn (cq (trimP l)) (trimP l).length = (trimP l).length := by unfold trimP; rw [tn_pl (cq_upto l), pl_len]
theorem trimP_cq (l : List F2) (i : Nat) : cq (trimP l) i = cq l i := cq_pl (cq_upto l) i
theorem mulP_trim (l m : List F2) : mulP (trimP l) (trimP m) = mulP l m := pl_same (mulP_upto _ _) (mulP_upto _ _) fun i => cv_congr (trimP_cq l) (trimP_cq m) i
theorem pl_full {n : Nat} {c : Nat → F2} (h : tn c n = n) : pl n c = mk n c := by unfold pl mk; rw [h]
/-- Of two that are trimmed: all coefficients of the product stand. -/
theorem mulP_full {l m : List F2} (hl : tn (cq l) l.length = l.length) (hm : tn (cq m) m.length = m.length) (h0 : 0 < l.length) (h1 : 0 < m.length) : mulP l m = mk (l.length + m.length - 1) (cv (cq l) (cq m)) := by
  unfold mulP
  refine pl_full ?_
  rw [tn_cv (cq_upto l) (cq_upto m), hl, hm, if_neg (by omega)]
def PgMulOut (w2 : World) (n la : Nat) (a b : Nat → F2) (i : Value) (W : World) : Prop :=
  ∃ k : Nat, k ≤ la ∧ i = .int .i64 k ∧ Below w2.heap.size w2 W ∧ Arr W w2.heap.size (n * 2) (pc fun p => encP (cvp a b k p))
def PgMulIn (w2 : World) (n lb : Nat) (a b : Nat → F2) (k gx : Nat) (j : Value) (W : World) : Prop :=
  ∃ q : Nat, q ≤ lb ∧ j = .int .i64 q ∧ Below w2.heap.size w2 W ∧ Arr W w2.heap.size (n * 2) (pc fun p => encP (cvr a b k q p)) ∧ Var W gx (enc (a k).a) (enc (a k).b)
set_option maxHeartbeats 8000000 in
theorem pmul_core (a b : Option Addr) (la0 lb0 ca cb : Nat) (l m' : List F2) (w : World) (h1 : Poly w (.slice a la0 ca) l) (h2 : Poly w (.slice b lb0 cb) m') (hl : l.length ≤ 1073741824) (hm : m'.length ≤ 1073741824) :
    Calls Try.prog 13 #[.slice a la0 ca, .slice b lb0 cb] w (RetP (mulP l m') w) := by
  have T1 := ptrim_new _ l w h1 (by omega)
  have T2 := fun W (hb : Below w.heap.size w W) => ptrim_new _ m' W (h2.keep hb) (by omega)
  have HNIL : Hid ((trimP l).length = 0 ∨ (trimP m').length = 0 → mulP l m' = []) := Lib.hid (fun h => by rw [← mulP_trim]; exact mulP_nil _ _ h)
  have HFULL : Hid (0 < (trimP l).length → 0 < (trimP m').length → mulP l m' = mk ((trimP l).length + (trimP m').length - 1) (cv (cq (trimP l)) (cq (trimP m')))) := Lib.hid (fun h0 h1 => by rw [← mulP_trim]; exact mulP_full (trimP_tn l) (trimP_tn m') h0 h1)
  have hl2 : (trimP l).length ≤ 1073741824 := Nat.le_trans (trimP_len l) hl
  have hm2 : (trimP m').length ≤ 1073741824 := Nat.le_trans (trimP_len m') hm
  generalize mulP l m' = res at *
  clear h1 h2 hl hm
  generalize trimP l = L at *
  generalize trimP m' = M at *
  have HFU := Lib.hid (cq_upto L); have HHU := Lib.hid (cq_upto M)
  unfold RetA at T1 T2
  generalize cq L = f at *
  generalize cq M = h at *
  generalize L.length = la at *
  generalize M.length = lb at *
  have hlI : (la : Int) ≤ 1073741824 := by omega
  have hmI : (lb : Int) ≤ 1073741824 := by omega
  go_enter Try.func13, Try.ntmps13
  go_upto_region 2 with (first
    | (go_at_call 19; ((with_reducible refine T1.mono ?_); rintro e W1 ⟨g1, rfl, hg1, hb1, hA1⟩; have T2' := T2 W1 hb1; clear T1 T2))
    | (go_at_call 19; ((with_reducible refine T2'.mono ?_); rintro e W2 ⟨g2, rfl, hg2, hb2, hA2⟩; clear T2')))
  refine wp_gen (fun W => Below w.heap.size w W ∧ Arr W g1 (la * 2) (pc fun j => encP (f j)) ∧ Arr W g2 (lb * 2) (pc fun j => encP (h j))) ⟨bthen hb1 hb2, hA1.keep hb2, hA2⟩ ?_
  clear hg1 hb1 hA1 hg2 hb2 hA2
  rintro w2 ⟨hB0, hA1, hA2⟩
  have HB0 := Lib.hid hB0; have HA1 := Lib.hid hA1; have HA2 := Lib.hid hA2
  clear hB0 hA1 hA2
  by_cases c : la = 0 ∨ lb = 0
  · have HN := Lib.hid (HNIL.out c)
    by_cases c1 : la = 0
    · subst c1
      go_wp2
      go_ret
      exact ⟨_, rfl, HB0.out, by rw [HN.out]; exact IsP.nil _⟩
    · have c2 : lb = 0 := by omega
      subst c2
      have d2 : ((la : Int) == 0) = false := by simp; omega
      have d3 : decide ((la : Int) = 0) = false := by simp; omega
      go_wp2
      go_ret
      exact ⟨_, rfl, HB0.out, by rw [HN.out]; exact IsP.nil _⟩
  · have l3 : (0 : Int) < (la : Int) := by omega
    have l4 : (0 : Int) < (lb : Int) := by omega
    have c2 : ((la : Int) == 0) = false := by simp; omega
    have c3 : decide ((la : Int) = 0) = false := by simp; omega
    have c4 : ((lb : Int) == 0) = false := by simp; omega
    have c5 : decide ((lb : Int) = 0) = false := by simp; omega
    obtain ⟨n, hn⟩ : ∃ n, la + lb - 1 = n := ⟨_, rfl⟩
    have HRES := Lib.hid (HFULL.out (by omega) (by omega))
    rw [hn] at HRES
    have hsum : (la : Int) + (lb : Int) - 1 = (n : Int) := by omega
    have HN := Lib.hid hn
    have HA1' : Hid (∀ p, cvp f h la p = cv f h p) := Lib.hid (fun p => cvp_all HFU.out p)
    have HE : Hid (∀ i p, cvr f h i lb p = cvp f h (i + 1) p) := Lib.hid (fun i p => cvr_end HHU.out i p)
    have HS1 := Lib.hid (cvr_step f h); have HZ1 := Lib.hid (cvr_zero f h)
    have H00 : Hid (∀ p, cvp f h 0 p = 0) := Lib.hid (fun p => rfl)
    have hmk := fun W => run_make_pairs (P := Try.prog) 22 25 (.agg #[.int .u64 0, .int .u64 0]) Try.underlying22 infoQ5 rfl n (by omega) W
    clear hn c HNIL HFULL
    go_upto_region 6 with fail
    clear hmk hsum
    go_loopw [31] (PgMulOut w2 n la f h) (fun i _ => la - (intOf i).toNat)
    case atStart => exact ⟨0, Nat.zero_le _, rfl, (Below.refl _ _).alloc (Nat.le_refl _) _, (Arr.newq w2 _ _).same (pc_same (fun i _ => by rw [H00.out]; rfl))⟩
    case round =>
      obtain ⟨k, hk, rfl, hB, hA⟩ := hrel
      by_cases hlt : k < la
      · have hk1 : (k : Int) < (la : Int) := by omega
        have hk0 : (0 : Int) ≤ (k : Int) := by omega
        obtain ⟨g0, g0', _, _⟩ := (HA1.out.keep hB).cells k hlt
        simp only [encP] at g0 g0'
        go_upto_region 8 with fail
        have HVN := Lib.hid (Var.new wr (enc (f k).a) (enc (f k).b) 25)
        have HBN := Lib.hid (hB.alloc hB.size (.cells #[.int .u64 (enc (f k).a), .int .u64 (enc (f k).b)] 25))
        have HAN := Lib.hid ((hA.alloc (.cells #[.int .u64 (enc (f k).a), .int .u64 (enc (f k).b)] 25)).same (pc_same (y := fun p => encP (cvr f h k 0 p)) (fun p _ => by rw [HZ1.out])))
        have hgx : w2.heap.size < wr.heap.size := hA.lt (by have := HN.out; omega)
        clear hB hA g0 g0'
        go_upto_region 9 with fail
        refine wp_gen (fun W => Below w2.heap.size w2 W ∧ Arr W w2.heap.size (n * 2) (pc fun p => encP (cvr f h k 0 p)) ∧ Var W wr.heap.size (enc (f k).a) (enc (f k).b)) ⟨HBN.out, HAN.out, HVN.out⟩ ?_
        clear HVN HBN HAN
        rintro W0 ⟨hB0, hA0, hV0⟩
        generalize wr.heap.size = gx at *
        go_loopw [38] (PgMulIn w2 n lb f h k gx) (fun j _ => lb - (intOf j).toNat)
        case atStart => exact ⟨0, Nat.zero_le _, rfl, hB0, hA0, hV0⟩
        case round =>
          clear hB0 hA0 hV0
          obtain ⟨q, hq, rfl, hB, hA, hV⟩ := hrel
          by_cases hlt2 : q < lb
          · obtain ⟨g2c, g3c, _, _⟩ := (HA2.out.keep hB).cells q hlt2
            simp only [encP] at g2c g3c
            have hq1 : (q : Int) < (lb : Int) := by omega
            have hq0 : (0 : Int) ≤ (q : Int) := by omega
            obtain ⟨p, hp⟩ : ∃ p, k + q = p := ⟨_, rfl⟩
            have hpn : p < n := by have := HN.out; omega
            have hp1 : (p : Int) < (n : Int) := by omega
            have hp0 : (0 : Int) ≤ (p : Int) := by omega
            have HQ : Hid (IntKind.i64.wrap ((k : Int) + (q : Int)) = (p : Int)) := Lib.hid (by rw [IntWalk.i64_in _ (by omega)]; omega)
            obtain ⟨m, hmm⟩ : ∃ m, f k * h q = m := ⟨_, rfl⟩
            obtain ⟨o', ho'⟩ : ∃ o', cvr f h k q p + m = o' := ⟨_, rfl⟩
            have m1 := pmul_q (enc (f k).a) (enc (f k).b) (enc (h q).a) (enc (h q).b) (f k) (h q) m (rep_enc _) (rep_enc _) hmm
            have a1 := padd_q (enc (cvr f h k q p).a) (enc (cvr f h k q p).b) (enc m.a) (enc m.b) (cvr f h k q p) m o' (rep_enc _) (rep_enc m) ho'
            have HST : Hid (∀ j, (if j = p then (enc o'.a, enc o'.b) else encP (cvr f h k q j)) = encP (cvr f h k (q + 1) j)) := Lib.hid (fun j => by
              rw [HS1.out k q j]
              by_cases e : j = p
              · rw [if_pos e, if_pos (by omega), hmm, e, ho']; rfl
              · rw [if_neg e, if_neg (by omega)])
            generalize hY : h q = y at *
            have HXV := Lib.hid hV
            generalize hX : f k = x at *
            go_upto_region 11 with fail
            refine wp_gen (fun W => Below w2.heap.size w2 W ∧ Arr W w2.heap.size (n * 2) (pc fun p => encP (cvr f h k q p)) ∧ Var W gx (enc x.a) (enc x.b) ∧ Var W wr.heap.size (enc y.a) (enc y.b)) ⟨hB.alloc hB.size _, hA.alloc _, hV.alloc _, Var.new _ _ _ _⟩ ?_
            clear hB hA hV g2c g3c HXV
            rintro W1 ⟨hB, hA, hV, ⟨y0c, y1c, _, _⟩⟩
            obtain ⟨o0c, o1c, _, _⟩ := hA.cells p hpn
            have HB := Lib.hid hB; have HA := Lib.hid hA; have HV := Lib.hid hV
            obtain ⟨x0c, x1c, _, _⟩ := hV
            generalize cvr f h k q p = o at *
            simp only [encP] at o0c o1c
            clear hB hA hmm ho' hp hY
            refine wp_loose [(43, []), (44, []), (45, []), (46, [44, 45]), (47, []), (48, []), (49, []), (50, [48, 49]), (51, [47, 50]), (52, [51]), (53, []), (54, []), (55, [53, 54]), (56, [52, 55]), (57, [43, 46])]
              (PgMulR w2.heap.size n k q p (enc o.a) (enc o.b) (enc x.a) (enc x.b) (enc y.a) (enc y.b) (enc m.a) (enc m.b) (enc o'.a) (enc o'.b)) (fun d => false) (by kernel_rfl) (by kernel_rfl) (fun _ _ _ _ h hb => h.keep hb) ?_ ?_
            · refine opsrun_cons ?_ (opsrun_cons ?_ (opsrun_cons ?_ (opsrun_cons ?_ (opsrun_cons ?_ (opsrun_cons ?_ (opsrun_cons ?_ (opsrun_cons ?_ (opsrun_cons ?_ (opsrun_cons ?_ (opsrun_cons ?_ (opsrun_cons ?_ (opsrun_cons ?_ (opsrun_cons ?_ (opsrun_cons ?_ opsrun_nil))))))))))))))
              all_goals
                refine OpRuns.any ?_
                intro Q0 σ W' K hb hn hK
                simp only [fill, List.map, Act.put, List.setIfInBounds_toArray, List.set_cons_zero, List.set_cons_succ] at hK ⊢
              · clear hn
                go_simp
                exact hK _ _ rfl (Below.refl _ _) (fun h => absurd h (by decide))
              · clear hn
                go_simp
                exact hK _ _ rfl (Below.refl _ _) (fun h => absurd h (by decide))
              · clear hn
                go_simp
                exact hK _ _ rfl (Below.refl _ _) (fun h => absurd h (by decide))
              · have h44 : σ 44 = _ := hn 44 (by decide)
                have h45 : σ 45 = _ := hn 45 (by decide)
                clear hn
                simp only [h44, h45] at hK
                go_simp
                exact hK _ _ (congrArg (Value.int .i64) HQ.out) (Below.refl _ _) (fun h => absurd h (by decide))
              · clear hn
                go_simp
                exact hK _ _ rfl (Below.refl _ _) (fun h => absurd h (by decide))
              · clear hn
                go_simp
                exact hK _ _ rfl (Below.refl _ _) (fun h => absurd h (by decide))
              · clear hn
                go_simp
                exact hK _ _ rfl (Below.refl _ _) (fun h => absurd h (by decide))
              · have h48 : σ 48 = _ := hn 48 (by decide)
                have h49 : σ 49 = _ := hn 49 (by decide)
                clear hn
                simp only [h48, h49] at hK
                go_simp
                exact hK _ _ (congrArg (Value.int .i64) HQ.out) (Below.refl _ _) (fun h => absurd h (by decide))
              · have h47 : σ 47 = _ := hn 47 (by decide)
                have h50 : σ 50 = _ := hn 50 (by decide)
                clear hn
                simp only [h47, h50] at hK
                go_simp
                exact hK _ _ rfl (Below.refl _ _) (fun h => absurd h (by decide))
              · have h51 : σ 51 = _ := hn 51 (by decide)
                clear hn
                simp only [h51] at hK
                have o0c' := bkeep hb o0c
                have o1c' := bkeep hb o1c
                clear o0c o1c
                go_simp
                exact hK _ _ rfl (Below.refl _ _) (fun h => absurd h (by decide))
              · clear hn
                have x0c' := bkeep hb x0c
                have x1c' := bkeep hb x1c
                clear x0c x1c
                go_simp
                exact hK _ _ rfl (Below.refl _ _) (fun h => absurd h (by decide))
              · clear hn
                have y0c' := bkeep hb y0c
                have y1c' := bkeep hb y1c
                clear y0c y1c
                go_simp
                exact hK _ _ rfl (Below.refl _ _) (fun h => absurd h (by decide))
              · have h53 : σ 53 = _ := hn 53 (by decide)
                have h54 : σ 54 = _ := hn 54 (by decide)
                clear hn
                simp only [h53, h54] at hK
                go_simp
                go_at_call 34
                refine (m1 _).mono ?_
                rintro e w1 ⟨rfl, hb1⟩
                exact hK _ _ rfl hb1 (fun h => absurd h (by decide))
              · have h52 : σ 52 = _ := hn 52 (by decide)
                have h55 : σ 55 = _ := hn 55 (by decide)
                clear hn
                simp only [h52, h55] at hK
                go_simp
                go_at_call 33
                refine (a1 _).mono ?_
                rintro e w1 ⟨rfl, hb1⟩
                exact hK _ _ rfl hb1 (fun h => absurd h (by decide))
              · have h43 : σ 43 = _ := hn 43 (by decide)
                have h46 : σ 46 = _ := hn 46 (by decide)
                clear hn
                simp only [h43, h46] at hK
                go_simp
                exact hK _ _ rfl (Below.refl _ _) (fun h => absurd h (by decide))
            · intro σ W' hb hR' hF
              have h56 : σ 56 = _ := hR' 56 (by decide)
              have h57 : σ 57 = _ := hR' 57 (by decide)
              replace HB := Lib.hid (bthen HB.out hb)
              have hA := HA.out.keep hb
              replace HV := Lib.hid (HV.out.keep hb)
              obtain ⟨c0, c1, f0, f1⟩ := hA.cells p hpn
              have HA2' := Lib.hid ((hA.setq p (enc o'.a) (enc o'.b) hpn).same (pc_same fun j _ => HST.out j))
              clear hR' hF hA o0c o1c x0c x1c y0c y1c hb m1 a1
              simp only [fill, List.map, Act.put, List.setIfInBounds_toArray, List.set_cons_zero, List.set_cons_succ, List.length_cons, List.length_nil, List.drop_succ_cons, List.drop_zero, Nat.reduceAdd, h56, h57]
              clear h56 h57
              go_wp2_with fail
              go_roundw
              case rel => exact ⟨q + 1, by omega, by go_num, (HB.out.setCell (Nat.le_refl _) _).setCell (Nat.le_refl _) _, HA2'.out, by rw [hX]; exact (HV.out.far (by omega) _ _).far (by omega) _ _⟩
              case measure => simp [intOf]; omega
          · have hqn : q = lb := by omega
            subst hqn
            have HA := Lib.hid (hA.same (pc_same (y := fun p => encP (cvp f h (k + 1) p)) (fun p _ => by rw [HE.out])))
            have HB := Lib.hid hB
            clear hA hB hV
            go_wp2_with fail
            go_roundw
            case rel => exact ⟨k + 1, by omega, by go_num, HB.out, HA.out⟩
            case measure => simp [intOf]; omega
      · have hkn : k = la := by omega
        subst hkn
        have HP := Lib.hid ((hA.same (pc_same (y := fun p => encP (cv f h p)) (fun p _ => by rw [HA1'.out]))).isP (Nat.le_refl _) (by unfold maxLen; have := HN.out; omega))
        have HB := Lib.hid (bthen HB0.out hB)
        clear hA hB
        go_wp2_with fail
        go_ret
        exact ⟨_, rfl, HB.out, by rw [HRES.out]; exact HP.out⟩
theorem pmul_is (v u : Value) (l m : List F2) (w : World) (h1 : Poly w v l) (h2 : Poly w u m) (hl : l.length ≤ 1073741824) (hm : m.length ≤ 1073741824) : Calls Try.prog 13 #[v, u] w (RetP (mulP l m) w) := by
  obtain ⟨a, ca, rfl⟩ := h1.slice
  obtain ⟨b, cb, rfl⟩ := h2.slice
  exact pmul_core a b _ _ ca cb l m w h1 h2 hl hm
end Go.Proofs.Ytajmfpnkcenhaaa
