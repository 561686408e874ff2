/-
  What the document's Through of layer 5 comes to: a contract for the walk. (Written by gen_polythr.py.)
-/
import Derived.Test.YtlgfnlkblehlbaaPolyThr
namespace Go.Proofs.Ytlgfnlkblehlbaa
open Go.RowKit Go.Sort Go.BigFrame
set_option linter.unusedVariables false

def ThrOut (w : World) (n : Nat) (x y : Nat → F2) (v i : Value) (W : World) : Prop :=
  ∃ k : Nat, k ≤ n ∧ i = .int .i64 k ∧ Below w.heap.size w W ∧ IsP W v (pl n (lgr n x y k)) ∧ ∀ j, j < k → ps j x (x j) n ≠ 0
def ThrIn (w : World) (n i : Nat) (x : Nat → F2) (gb : Nat) (vo : Value) (lo : List F2) (v8 j : Value) (W : World) : Prop :=
  ∃ k : Nat, k ≤ n ∧ j = .int .i64 k ∧ Below w.heap.size w W ∧ IsP W v8 (pl (pn i k) (pp i x k)) ∧ Var W gb (enc (ps i x (x i) k).a) (enc (ps i x (x i) k).b) ∧ IsP W vo lo ∧ NotAt gb v8
def ThrR14 (gb b off len cap i j : Nat) (o0 o1 x0 x1 y0 y1 m0 m1 n0 n1 : Int) (sl : Nat) (v : Value) (W : World) : Prop :=
  match sl with
  | 45 => v = .agg #[.int .u64 o0, .int .u64 o1]
  | 46 => v = .slice (some ⟨b, off, none⟩) len cap
  | 47 => v = .int .i64 i
  | 48 => v = .pointer (some ⟨b, off + i * 2, none⟩)
  | 49 => v = .agg #[.int .u64 x0, .int .u64 x1]
  | 50 => v = .slice (some ⟨b, off, none⟩) len cap
  | 51 => v = .int .i64 j
  | 52 => v = .pointer (some ⟨b, off + j * 2, none⟩)
  | 53 => v = .agg #[.int .u64 y0, .int .u64 y1]
  | 54 => v = .agg #[.int .u64 m0, .int .u64 m1]
  | _ => v = .agg #[.int .u64 n0, .int .u64 n1]
theorem ThrR14.keep {gb b off len cap i j : Nat} {o0 o1 x0 x1 y0 y1 m0 m1 n0 n1 : Int} {sl : Nat} {v : Value} {W W' : World} (h : ThrR14 gb b off len cap i j o0 o1 x0 x1 y0 y1 m0 m1 n0 n1 sl v W) (hb : Below W.heap.size W W') : ThrR14 gb b off len cap i j o0 o1 x0 x1 y0 y1 m0 m1 n0 n1 sl v W' := h

def ThrR18 (vo v8 : Value) (b off len cap i B : Nat) (q0 q1 y0 y1 m0 m1 : Int) (l1 l2 : List F2) (sl : Nat) (v : Value) (W : World) : Prop :=
  match sl with
  | 63 => v = vo
  | 64 => v = v8
  | 65 => v = .agg #[.int .u64 q0, .int .u64 q1]
  | 66 => v = .slice (some ⟨b, off, none⟩) len cap
  | 67 => v = .int .i64 i
  | 68 => v = .pointer (some ⟨b, off + i * 2, none⟩)
  | 69 => v = .agg #[.int .u64 y0, .int .u64 y1]
  | 70 => v = .agg #[.int .u64 m0, .int .u64 m1]
  | 71 => IsP W v l1
  | _ => IsP W v l2
theorem ThrR18.keep {vo v8 : Value} {b off len cap i B : Nat} {q0 q1 y0 y1 m0 m1 : Int} {l1 l2 : List F2} {sl : Nat} {v : Value} {W W' : World} (h : ThrR18 vo v8 b off len cap i B q0 q1 y0 y1 m0 m1 l1 l2 sl v W) (hb : Below W.heap.size W W') : ThrR18 vo v8 b off len cap i B q0 q1 y0 y1 m0 m1 l1 l2 sl v W' := by
  unfold ThrR18 at *
  split at h
  all_goals first | exact h | exact IsP.keep h hb

set_option maxHeartbeats 8000000 in
theorem rthrP (v u : Value) (l m' : List F2) (w : World) (h1 : Poly w v l) (h2 : Poly w u m') (hl : l.length ≤ 1048576) (hm' : m'.length ≤ 1048576) : Calls Try.prog 23 #[v, u] w (RetT l m' w) := by
  obtain ⟨a, ca, rfl⟩ := h1.slice
  obtain ⟨b, cb, rfl⟩ := h2.slice
  by_cases hlen : l.length = m'.length
  · obtain ⟨_, hm1, hc1⟩ := h1.at
    obtain ⟨_, hm2, hc2⟩ := h2.at
    rw [← hlen] at hc2 hm2 ⊢
    unfold maxLen at hm1 hm2
    have HNO : Hid (∀ i, i < l.length → ps i (cq l) (cq l i) l.length = 0 → thrB l m' = false) := Lib.hid (fun i h1 h2 => thrB_two h1 h2)
    have HYES : Hid ((∀ i, i < l.length → ps i (cq l) (cq l i) l.length ≠ 0) → thrB l m' = true ∧ thrL l m' = pl l.length (lgr l.length (cq l) (cq m') l.length)) := Lib.hid (fun h => by
      have e := thrB_yes hlen h
      exact ⟨e, by unfold thrL; rw [if_pos e]⟩)
    have HC := Lib.hid hc1; have HD := Lib.hid hc2
    clear hc1 hc2 h1 h2 hlen
    generalize hL : l.length = n at *
    have hL1 : (n : Int) ≤ 1048576 := by omega
    generalize hX : cq l = x at *
    have HX := Lib.hid hX
    generalize hY : cq m' = y at *
    have HY := Lib.hid hY
    have HPN : Hid (∀ i k, (pl (pn i k) (pp i x k)).length ≤ k + 1) := Lib.hid (fun i k => by rw [pl_len]; exact Nat.le_trans (tn_le _ _) (by unfold pn; split <;> omega))
    have HLG : Hid (∀ k, (pl n (lgr n x y k)).length ≤ n) := Lib.hid (fun k => by rw [pl_len]; exact tn_le _ _)
    clear hL hX hY
    go_enter Try.func23, Try.ntmps23
    go_upto_region 5 with fail
    go_loopw [6, 7] (ThrOut w n x y) (fun _ i _ => n - (intOf i).toNat)
    case atStart => exact ⟨0, Nat.zero_le _, rfl, Below.refl _ _, by rw [lgr_zero]; exact IsP.nil _, fun j hj => by omega⟩
    case round =>
      obtain ⟨i, hi, rfl, hB, hO, hne⟩ := hrel
      by_cases hlt : i < n
      · have hi1 : (i : Int) < (n : Int) := by omega
        have hi0 : (0 : Int) ≤ (i : Int) := by omega
        go_upto_region 10 with fail
        have HNE := Lib.hid hne
        have HLO : Hid ((pl n (lgr n x y i)).length ≤ n) := Lib.hid (HLG.out i)
        have HNEXT : Hid (∀ wv, qinv (ps i x (x i) n) * y i = wv → addP (pl n (lgr n x y i)) (pl (pl (pn i n) (pp i x n)).length (fun j => cq (pl (pn i n) (pp i x n)) j * wv)) = pl n (lgr n x y (i + 1))) := Lib.hid (fun wv hw => lgr_step n x y i hlt wv hw)
        have hvo : NotAt (wr.heap.size + 1) u6 := hO.notAt (by omega)
        refine wp_gen (fun W => Below w.heap.size w W ∧ IsP W u6 (pl n (lgr n x y i)) ∧ IsP W (.slice (some ⟨wr.heap.size, 0, none⟩) 1 1) (pl (pn i 0) (pp i x 0)) ∧ Var W (wr.heap.size + 1) (enc (ps i x (x i) 0).a) (enc (ps i x (x i) 0).b)) ⟨(hB.alloc hB.size _).alloc (by simp; have := hB.size; omega) _, (hO.keep ((Below.refl _ _).alloc (Nat.le_refl _) _)).keep ((Below.refl _ _).alloc (Nat.le_refl _) _), ?_, ?_⟩ ?_
        · have e : pl (pn i 0) (pp i x 0) = [1] := by
            show pl (if i < 0 then 0 else 0 + 1) one2 = _
            rw [if_neg (by omega)]; exact pl_one2
          rw [e]
          exact isP_one (by simp [go_sem]; rfl) (by simp [go_sem]; rfl)
        · show Var _ _ 1 0
          have := Var.new (wr.alloc (.cells #[.int .u64 1, .int .u64 0] 29)) 1 0 29
          simpa using this
        have hbase : w.heap.size ≤ wr.heap.size := hB.size
        clear hB hO hne
        rintro W ⟨hB, hO, h8, hV⟩
        generalize hlo : pl n (lgr n x y i) = lo at *
        have HLOE := Lib.hid hlo
        generalize hgb : wr.heap.size + 1 = gb at *
        have hgb1 : w.heap.size ≤ gb := by omega
        clear hlo
        go_loopw [8, 10] (ThrIn w n i x gb u6 lo) (fun _ j _ => n - (intOf j).toNat)
        case atStart => exact ⟨0, Nat.zero_le _, rfl, hB, h8, hV, hO, fun a n c e _ => by cases e; show wr.heap.size ≠ gb; omega⟩
        case round =>
          clear hB h8 hV hO
          obtain ⟨k, hk, rfl, hB, h8, hV, hO, hn8⟩ := hrel
          by_cases hlt2 : k < n
          · have hk1 : (k : Int) < (n : Int) := by omega
            have hk0 : (0 : Int) ≤ (k : Int) := by omega
            by_cases hki : k = i
            · subst hki
              rw [← pp_skip, ← ps_skip] at *
              have HB := Lib.hid hB; have H8 := Lib.hid h8; have HV := Lib.hid hV; have HO := Lib.hid hO
              clear hB h8 hV hO
              go_wp2_with fail
              go_roundw
              case rel => exact ⟨k + 1, by omega, by go_num, HB.out, H8.out, HV.out, HO.out, hn8⟩
              case measure => simp [intOf]; omega
            · have hki1 : ¬ (k : Int) = (i : Int) := by omega
              have hki2 : ((k : Int) == (i : Int)) = false := by simp; omega
              obtain ⟨b, off, x0, x1, rfl, g0, g1, hR⟩ := HC.out i hlt
              obtain ⟨b', off', y0, y1, he, g2, g3, hS⟩ := HC.out k hlt2
              cases he
              replace g0 := bkeep hB g0
              replace g1 := bkeep hB g1
              replace g2 := bkeep hB g2
              replace g3 := bkeep hB g3
              skip
              have N1 := rneg_q y0 y1 (x k) (-(x k)) hS rfl
              obtain ⟨m, hmm⟩ : ∃ m, x i - x k = m := ⟨_, rfl⟩
              obtain ⟨o', ho'⟩ : ∃ o', ps i x (x i) k * m = o' := ⟨_, rfl⟩
              have s1 := rsub_q x0 x1 y0 y1 (x i) (x k) m hR hS hmm
              have m1 := rmul_q (enc (ps i x (x i) k).a) (enc (ps i x (x i) k).b) (enc m.a) (enc m.b) (ps i x (x i) k) m o' (rep_enc _) (rep_enc m) ho'
              have HO' : Hid (o' = ps i x (x i) (k + 1)) := Lib.hid (by rw [← ho', ← hmm]; exact ps_mul i k x (x i) hki)
              have MU : Hid (∀ W1, IsP W1 u8 (pl (pn i k) (pp i x k)) → Calls Try.prog 43 #[u8, .slice (some ⟨W1.heap.size, 0, none⟩) 2 2] (W1.alloc (.cells #[.int .u64 (enc (-(x k)).a), .int .u64 (enc (-(x k)).b), .int .u64 1, .int .u64 0] 29)) (RetF (pl (pn i (k + 1)) (pp i x (k + 1))) (W1.alloc (.cells #[.int .u64 (enc (-(x k)).a), .int .u64 (enc (-(x k)).b), .int .u64 1, .int .u64 0] 29)))) := Lib.hid (fun W1 h => by
                have := rmulP u8 (.slice (some ⟨W1.heap.size, 0, none⟩) 2 2) (pl (pn i k) (pp i x k)) [-(x k), 1] (W1.alloc (.cells #[.int .u64 (enc (-(x k)).a), .int .u64 (enc (-(x k)).b), .int .u64 1, .int .u64 0] 29)) (h.keep ((Below.refl _ _).alloc (Nat.le_refl _) _)).poly (isP_two (by simp [go_sem]) (by simp [go_sem]) (by simp [go_sem]; rfl) (by simp [go_sem]; rfl)).poly (by have := HPN.out i k; omega) (by simp)
                rw [pp_mul i k x hki] at this
                exact this)
              have HV := Lib.hid hV; have HO := Lib.hid hO; have H8 := Lib.hid h8; have HB := Lib.hid hB
              have G0 := Lib.hid g0; have G1 := Lib.hid g1; have G2 := Lib.hid g2; have G3 := Lib.hid g3
              have hgb2 : gb < wr.heap.size := hV.lt
              clear hR hS hmm ho' hV hO h8 hB g0 g1
              generalize hnx : -(x k) = nx at *
              clear hnx
              generalize ps i x (x i) k = o at *
              go_upto_region 14 with (first
                | (go_at_call 44; ((with_reducible refine (N1 _).mono ?_); rintro e W1 ⟨rfl, hb⟩; have T := MU.out W1 (H8.out.keep hb); replace HV := Lib.hid (HV.out.keep hb); replace HO := Lib.hid (HO.out.keep hb); replace HB := Lib.hid (bthen HB.out hb); replace G0 := Lib.hid (bkeep hb G0.out); replace G1 := Lib.hid (bkeep hb G1.out); replace G2 := Lib.hid (bkeep hb G2.out); replace G3 := Lib.hid (bkeep hb G3.out); have hgb3 : gb < W1.heap.size := Nat.lt_of_lt_of_le hgb2 hb.size; clear hb g2 g3 N1 MU))
                | (go_at_call 43; ((with_reducible refine T.mono ?_); rintro e W2 ⟨v8, rfl, hb, hp, hfr⟩; have hbb := ((Below.refl W1.heap.size W1).alloc (Nat.le_refl _) (.cells #[.int .u64 (enc nx.a), .int .u64 (enc nx.b), .int .u64 1, .int .u64 0] 29)).trans (hb.mono (by simp)))))
              have hn8' : NotAt gb v8 := hfr.notAt (by simp; omega)
              replace HV := Lib.hid (HV.out.keep hbb)
              replace HO := Lib.hid (HO.out.keep hbb)
              replace HB := Lib.hid (bthen HB.out hbb)
              have g0 := bkeep hbb G0.out
              have g1 := bkeep hbb G1.out
              have g2 := bkeep hbb G2.out
              have g3 := bkeep hbb G3.out
              have HP := Lib.hid hp
              obtain ⟨o0c, o1c, _, _⟩ := HV.out
              clear hb hbb hp hfr T G0 G1 G2 G3 H8
              refine wp_loose [(45, []), (46, []), (47, []), (48, [46, 47]), (49, [48]), (50, []), (51, []), (52, [50, 51]), (53, [52]), (54, [49, 53]), (55, [45, 54])]
                (ThrR14 gb b off n ca i k (enc o.a) (enc o.b) x0 x1 y0 y1 (enc m.a) (enc m.b) (enc o'.a) (enc o'.b)) (fun d => false) (by kernel_rfl) (by kernel_rfl) (fun _ _ _ _ h hb => h.keep hb) ?_ ?_
              · refine opsrun_cons ?_ (opsrun_cons ?_ (opsrun_cons ?_ (opsrun_cons ?_ (opsrun_cons ?_ (opsrun_cons ?_ (opsrun_cons ?_ (opsrun_cons ?_ (opsrun_cons ?_ (opsrun_cons ?_ (opsrun_cons ?_ opsrun_nil))))))))))
                all_goals
                  refine OpRuns.any ?_
                  intro Q0 σ W' K hb hn hK
                  simp only [fill, List.map, Act.put, List.setIfInBounds_toArray, List.set_cons_zero, List.set_cons_succ] at hK ⊢
                · clear hn
                  have o0c' := bkeep hb o0c
                  have o1c' := bkeep hb o1c
                  clear o0c o1c
                  go_simp
                  exact hK _ _ rfl (Below.refl _ _) (fun h => absurd h (by decide))
                · clear hn
                  go_simp
                  exact hK _ _ rfl (Below.refl _ _) (fun h => absurd h (by decide))
                · clear hn
                  go_simp
                  exact hK _ _ rfl (Below.refl _ _) (fun h => absurd h (by decide))
                · have h46 : σ 46 = _ := hn 46 (by decide)
                  have h47 : σ 47 = _ := hn 47 (by decide)
                  clear hn
                  simp only [h46, h47] at hK
                  go_simp
                  exact hK _ _ rfl (Below.refl _ _) (fun h => absurd h (by decide))
                · have h48 : σ 48 = _ := hn 48 (by decide)
                  clear hn
                  simp only [h48] at hK
                  have g0' := bkeep hb g0
                  have g1' := bkeep hb g1
                  clear g0 g1
                  go_simp
                  exact hK _ _ rfl (Below.refl _ _) (fun h => absurd h (by decide))
                · clear hn
                  go_simp
                  exact hK _ _ rfl (Below.refl _ _) (fun h => absurd h (by decide))
                · clear hn
                  go_simp
                  exact hK _ _ rfl (Below.refl _ _) (fun h => absurd h (by decide))
                · have h50 : σ 50 = _ := hn 50 (by decide)
                  have h51 : σ 51 = _ := hn 51 (by decide)
                  clear hn
                  simp only [h50, h51] at hK
                  go_simp
                  exact hK _ _ rfl (Below.refl _ _) (fun h => absurd h (by decide))
                · have h52 : σ 52 = _ := hn 52 (by decide)
                  clear hn
                  simp only [h52] at hK
                  have g2' := bkeep hb g2
                  have g3' := bkeep hb g3
                  clear g2 g3
                  go_simp
                  exact hK _ _ rfl (Below.refl _ _) (fun h => absurd h (by decide))
                · have h49 : σ 49 = _ := hn 49 (by decide)
                  have h53 : σ 53 = _ := hn 53 (by decide)
                  clear hn
                  simp only [h49, h53] at hK
                  go_simp
                  go_at_call 37
                  refine (s1 _).mono ?_
                  rintro e w1 ⟨rfl, hb1⟩
                  exact hK _ _ rfl hb1 (fun h => absurd h (by decide))
                · have h45 : σ 45 = _ := hn 45 (by decide)
                  have h54 : σ 54 = _ := hn 54 (by decide)
                  clear hn
                  simp only [h45, h54] at hK
                  go_simp
                  go_at_call 22
                  refine (m1 _).mono ?_
                  rintro e w1 ⟨rfl, hb1⟩
                  exact hK _ _ rfl hb1 (fun h => absurd h (by decide))
              · intro σ W' hb hR' hF
                have h55 : σ 55 = _ := hR' 55 (by decide)
                replace HB := Lib.hid (bthen HB.out hb)
                have hV := HV.out.keep hb
                have HV2 := Lib.hid hV
                replace HO := Lib.hid (HO.out.keep hb)
                replace HP := Lib.hid (HP.out.keep hb)
                obtain ⟨c0, c1, f0, f1⟩ := hV
                clear hR' hF o0c o1c g0 g1 g2 g3 hb s1 m1
                simp only [fill, List.map, Act.put, List.setIfInBounds_toArray, List.set_cons_zero, List.set_cons_succ, List.length_cons, List.length_nil, List.drop_succ_cons, List.drop_zero, Nat.reduceAdd, h55]
                clear h55
                go_wp2_with fail
                go_roundw
                case rel => exact ⟨k + 1, by omega, by go_num, (HB.out.setCell hgb1 _).setCell hgb1 _, (HP.out.off hn8' _ _).off hn8' _ _, by rw [← HO'.out]; exact HV2.out.set _ _, (HO.out.off hvo _ _).off hvo _ _, hn8'⟩
                case measure => simp [intOf]; omega
          · have hkn : k = n := by omega
            rw [hkn] at h8 hV ⊢
            clear hkn hlt2 hk
            have HV := Lib.hid hV; have HO := Lib.hid hO; have H8 := Lib.hid h8; have HB := Lib.hid hB
            obtain ⟨v0c, v1c, _, _⟩ := hV
            clear hO h8 hB
            by_cases hp0 : ps i x (x i) n = 0
            · have I1 := rinv_no (enc (ps i x (x i) n).a) (enc (ps i x (x i) n).b) (ps i x (x i) n) (rep_enc _) hp0
              have HF := Lib.hid (HNO.out i hlt hp0)
              clear hp0
              generalize ps i x (x i) n = o at *
              go_wp2_with ((go_at_call 45; ((with_reducible refine (I1 _).mono ?_); rintro e W1 ⟨rfl, hb⟩; replace HB := Lib.hid (bthen HB.out hb); clear hb v0c v1c)))
              go_ret2
              exact RetT.no HF.out rfl (HB.out.alloc HB.out.size _)
            · have I1 := rinv_yes (enc (ps i x (x i) n).a) (enc (ps i x (x i) n).b) (ps i x (x i) n) (qinv (ps i x (x i) n)) (rep_enc _) hp0 rfl
              obtain ⟨b2, off2, z0, z1, hbe, k0, k1, hZ⟩ := HD.out i hlt
              subst hbe
              obtain ⟨wv, hwv⟩ : ∃ wv, qinv (ps i x (x i) n) * y i = wv := ⟨_, rfl⟩
              have HNX := HNEXT.out wv hwv
              obtain ⟨ls, hls⟩ : ∃ ls, pl (pl (pn i n) (pp i x n)).length (fun j => cq (pl (pn i n) (pp i x n)) j * wv) = ls := ⟨_, rfl⟩
              obtain ⟨la, hla⟩ : ∃ la, pl n (lgr n x y (i + 1)) = la := ⟨_, rfl⟩
              rw [hls, hla] at HNX
              have HP0 := Lib.hid hp0
              have m1 := rmul_q (enc (qinv (ps i x (x i) n)).a) (enc (qinv (ps i x (x i) n)).b) z0 z1 (qinv (ps i x (x i) n)) (y i) wv (rep_enc _) hZ hwv
              have hlsl : ls.length ≤ n + 1 := by rw [← hls, pl_len]; exact Nat.le_trans (tn_le _ _) (HPN.out i n)
              have K0 := Lib.hid (bkeep HB.out k0); have K1 := Lib.hid (bkeep HB.out k1)
              have HLA := Lib.hid hla
              have hlol : lo.length ≤ n := HLO.out
              have SCX : Hid (∀ W, IsP W u8 (pl (pn i n) (pp i x n)) → Calls Try.prog 47 #[u8, .agg #[.int .u64 (enc wv.a), .int .u64 (enc wv.b)]] W (RetF ls W)) := Lib.hid (fun W h => by
                have := rscaleP u8 (pl (pn i n) (pp i x n)) (enc wv.a) (enc wv.b) wv W h.poly (rep_enc wv) (by have := HPN.out i n; omega)
                rw [hls] at this
                exact this)
              have ADX : Hid (∀ W v71, IsP W u6 lo → IsP W v71 ls → Calls Try.prog 46 #[u6, v71] W (RetF la W)) := Lib.hid (fun W v71 h h' => by
                have := raddP u6 v71 lo ls W h.poly h'.poly (by omega) (by omega)
                rw [HNX] at this
                exact this)
              clear hZ hwv hp0 hls hla HNX k0 k1
              generalize hoo : ps i x (x i) n = o at *
              have HOO := Lib.hid hoo
              clear hoo
              go_upto_region 18 with ((go_at_call 45; ((with_reducible refine (I1 _).mono ?_); rintro e W1 ⟨rfl, hb⟩; replace HB := Lib.hid (bthen HB.out hb); replace K0 := Lib.hid (bkeep hb K0.out); replace K1 := Lib.hid (bkeep hb K1.out); replace HO := Lib.hid (HO.out.keep hb); replace H8 := Lib.hid (H8.out.keep hb); clear hb v0c v1c)))
              generalize qinv o = q at *
              refine wp_gen (fun W => Below w.heap.size w W ∧ IsP W u6 lo ∧ IsP W u8 (pl (pn i n) (pp i x n)) ∧ Var W W1.heap.size (enc q.a) (enc q.b) ∧ W.cell? ⟨b2, off2 + i * 2, none⟩ = some (.int .u64 z0) ∧ W.cell? ⟨b2, off2 + i * 2 + 1, none⟩ = some (.int .u64 z1)) ⟨HB.out.alloc HB.out.size _, HO.out.keep ((Below.refl _ _).alloc (Nat.le_refl _) _), H8.out.keep ((Below.refl _ _).alloc (Nat.le_refl _) _), Var.new _ _ _ _, bkeep ((Below.refl _ _).alloc (Nat.le_refl _) _) K0.out, bkeep ((Below.refl _ _).alloc (Nat.le_refl _) _) K1.out⟩ ?_
              clear HB HO H8 K0 K1 HV I1
              rintro W2 ⟨hB, hO, h8, ⟨q0c, q1c, _, _⟩, k0, k1⟩
              have HB := Lib.hid hB; have HO := Lib.hid hO; have H8 := Lib.hid h8
              have SC := fun W (hb : Below W2.heap.size W2 W) => SCX.out W (H8.out.keep hb)
              have AD := fun W v71 (hb : Below W2.heap.size W2 W) (hp : IsP W v71 ls) => ADX.out W v71 (HO.out.keep hb) hp
              clear hB hO h8
              refine wp_loose [(63, []), (64, []), (65, []), (66, []), (67, []), (68, [66, 67]), (69, [68]), (70, [65, 69]), (71, [64, 70]), (72, [63, 71])]
                (ThrR18 u6 u8 b2 off2 n cb i 0 (enc q.a) (enc q.b) z0 z1 (enc wv.a) (enc wv.b) ls la) (fun d => false) (by kernel_rfl) (by kernel_rfl) (fun _ _ _ _ h hb => h.keep hb) ?_ ?_
              · refine opsrun_cons ?_ (opsrun_cons ?_ (opsrun_cons ?_ (opsrun_cons ?_ (opsrun_cons ?_ (opsrun_cons ?_ (opsrun_cons ?_ (opsrun_cons ?_ (opsrun_cons ?_ (opsrun_cons ?_ opsrun_nil)))))))))
                all_goals
                  refine OpRuns.any ?_
                  intro Q0 σ W' K hb hn hK
                  simp only [fill, List.map, Act.put, List.setIfInBounds_toArray, List.set_cons_zero, List.set_cons_succ] at hK ⊢
                · clear hn
                  go_simp
                  exact hK _ _ rfl (Below.refl _ _) (fun h => absurd h (by decide))
                · clear hn
                  go_simp
                  exact hK _ _ rfl (Below.refl _ _) (fun h => absurd h (by decide))
                · clear hn
                  have q0c' := bkeep hb q0c
                  have q1c' := bkeep hb q1c
                  clear q0c q1c
                  go_simp
                  exact hK _ _ rfl (Below.refl _ _) (fun h => absurd h (by decide))
                · clear hn
                  go_simp
                  exact hK _ _ rfl (Below.refl _ _) (fun h => absurd h (by decide))
                · clear hn
                  go_simp
                  exact hK _ _ rfl (Below.refl _ _) (fun h => absurd h (by decide))
                · have h66 : σ 66 = _ := hn 66 (by decide)
                  have h67 : σ 67 = _ := hn 67 (by decide)
                  clear hn
                  simp only [h66, h67] at hK
                  go_simp
                  exact hK _ _ rfl (Below.refl _ _) (fun h => absurd h (by decide))
                · have h68 : σ 68 = _ := hn 68 (by decide)
                  clear hn
                  simp only [h68] at hK
                  have k0' := bkeep hb k0
                  have k1' := bkeep hb k1
                  clear k0 k1
                  go_simp
                  exact hK _ _ rfl (Below.refl _ _) (fun h => absurd h (by decide))
                · have h65 : σ 65 = _ := hn 65 (by decide)
                  have h69 : σ 69 = _ := hn 69 (by decide)
                  clear hn
                  simp only [h65, h69] at hK
                  go_simp
                  go_at_call 22
                  refine (m1 _).mono ?_
                  rintro e w1 ⟨rfl, hb1⟩
                  exact hK _ _ rfl hb1 (fun h => absurd h (by decide))
                · have h64 : σ 64 = _ := hn 64 (by decide)
                  have h70 : σ 70 = _ := hn 70 (by decide)
                  clear hn
                  simp only [h64, h70] at hK
                  go_simp
                  go_at_call 47
                  refine (SC _ hb).mono ?_
                  rintro e w1 ⟨v1, rfl, hb1, hp, hfr⟩
                  exact hK _ _ hp hb1 (fun h => absurd h (by decide))
                · have h63 : σ 63 = _ := hn 63 (by decide)
                  have hp71 : IsP W' (σ 71) ls := hn 71 (by decide)
                  clear hn
                  simp only [h63] at hK
                  generalize hv71 : σ 71 = v71 at *
                  go_simp
                  go_at_call 46
                  refine (AD _ v71 hb hp71).mono ?_
                  rintro e w1 ⟨v1, rfl, hb1, hp, hfr⟩
                  exact hK _ _ hp hb1 (fun h => absurd h (by decide))
              · intro σ W' hb hR' hF
                have hp : IsP W' (σ 72) la := hR' 72 (by decide)
                generalize hv72 : σ 72 = v72 at *
                have HP := Lib.hid hp
                replace HB := Lib.hid (bthen HB.out hb)
                clear hR' hF q0c q1c k0 k1 hb hp SC AD m1
                simp only [fill, List.map, Act.put, List.setIfInBounds_toArray, List.set_cons_zero, List.set_cons_succ, List.length_cons, List.length_nil, List.drop_succ_cons, List.drop_zero, Nat.reduceAdd, hv72]
                clear hv72
                go_wp2_with fail
                go_roundw
                case rel => exact ⟨i + 1, by omega, by go_num, HB.out, by rw [HLA.out]; exact HP.out, fun j hj => by
                  by_cases e : j = i
                  · rw [e, HOO.out]; exact HP0.out
                  · exact HNE.out j (by omega)⟩
                case measure => simp [intOf]; omega
      · have hin : i = n := by omega
        subst hin
        obtain ⟨e1, e2⟩ := HYES.out hne
        have HB := Lib.hid hB; have HO := Lib.hid hO; have E1 := Lib.hid e1; have E2 := Lib.hid e2
        clear hB hO hne e1 e2
        go_wp2_with fail
        go_ret2
        exact RetT.yes E1.out E2.out rfl HB.out HO.out
  · have H := Lib.hid (fun e w' => @RetT.no l m' w w' e (thrB_len hlen))
    have d1 : ((l.length : Int) == (m'.length : Int)) = false := by simp; omega
    have d2 : decide ((l.length : Int) = (m'.length : Int)) = false := by simp; omega
    generalize l.length = la at *
    generalize m'.length = lb at *
    clear h1 h2
    go_enter Try.func23, Try.ntmps23
    go_wp2
    go_ret2
    exact H.out _ _ rfl (Below.refl _ _)
end Go.Proofs.Ytlgfnlkblehlbaa
