/-
  What the program's Through of package poly comes to; and all that is asked of the package (ask). (Written by gen_pg4.py.)
-/
import Derived.Test.YtajmfpnkcenhaaaPgAt
import Derived.Test.YtajmfpnkcenhaaaPgAdd
import Derived.Test.YtajmfpnkcenhaaaPgDiv
namespace Go.Proofs.Ytajmfpnkcenhaaa
open Go.RowKit
set_option linter.unusedVariables false

theorem pscale_is (v : Value) (l : List F2) (x0 x1 : Int) (x : F2) (w : World) (h : Poly w v l) (hx : Rep x0 x1 x) (hl : l.length ≤ 4294967296) : Calls Try.prog 15 #[v, .agg #[.int .u64 x0, .int .u64 x1]] w (RetP (scaP l x) w) :=
  (pscale_new v l x0 x1 x w h hx hl).mono fun _ _ hr => (hr.retF (by have := scaP_len l x; unfold maxLen; omega)).ret
theorem padd_is (v u : Value) (l m : List F2) (w : World) (h1 : Poly w v l) (h2 : Poly w u m) (hl : l.length ≤ 4294967296) (hm : m.length ≤ 4294967296) : Calls Try.prog 11 #[v, u] w (RetP (addP l m) w) :=
  (padd_new v u l m w h1 h2 hl hm).mono fun _ _ hr => (hr.retF (by have := addP_len l m; unfold maxLen; omega)).ret
theorem ptrim_is (v : Value) (l : List F2) (w : World) (h : Poly w v l) (hl : l.length ≤ 4294967296) : Calls Try.prog 19 #[v] w (RetP (trimP l) w) :=
  (ptrim_new v l w h hl).mono fun _ _ hr => (hr.retF (by have := trimP_len l; unfold maxLen; omega)).ret
theorem lift_one (w : World) : Calls Try.prog 36 #[.int .u64 1] w fun e w' => e = .returned (.agg #[.int .u64 1, .int .u64 0]) ∧ Below w.heap.size w w' := by
  have h := lift_q 1 1 (U_lit _ rfl rfl) (F2.eq (by decide +kernel) rfl) w
  rw [show enc (1 : F2).a = 1 from rfl, show enc (1 : F2).b = 0 from rfl] at h
  exact h
def PgThrR (n0 b2 off2 n cb k : Nat) (v6 : Value) (x0 x1 z0 z1 a0 a1 s0 s1 : Int) (sl : Nat) (v : Value) (W : World) : Prop :=
  match sl with
  | 36 => v = .slice (some ⟨b2, off2, none⟩) n cb
  | 37 => v = .int .i64 k
  | 38 => v = .pointer (some ⟨b2, off2 + k * 2, none⟩)
  | 39 => v = .agg #[.int .u64 z0, .int .u64 z1]
  | 40 => v = v6
  | 41 => v = .agg #[.int .u64 x0, .int .u64 x1]
  | 42 => v = .agg #[.int .u64 a0, .int .u64 a1]
  | 43 => v = .agg #[.int .u64 s0, .int .u64 s1]
  | _ => ∃ g : Nat, v = .pointer (some ⟨g, 0, none⟩) ∧ n0 ≤ g ∧ Var W g 0 0
theorem PgThrR.keep {n0 b2 off2 n cb k : Nat} {v6 : Value} {x0 x1 z0 z1 a0 a1 s0 s1 : Int} {sl : Nat} {v : Value} {W W' : World} (h : PgThrR n0 b2 off2 n cb k v6 x0 x1 z0 z1 a0 a1 s0 s1 sl v W) (hb : Below W.heap.size W W') : PgThrR n0 b2 off2 n cb k v6 x0 x1 z0 z1 a0 a1 s0 s1 sl v W' := by
  unfold PgThrR at *
  split at h
  all_goals first | exact h | (obtain ⟨g, h1, h2, h3⟩ := h; exact ⟨g, h1, h2, h3.keep hb⟩)
def PgThr (w : World) (l m : List F2) (n : Nat) (v6 v7 i : Value) (W : World) : Prop :=
  ∃ (k : Nat) (o : List F2), k ≤ n ∧ i = .int .i64 k ∧ Below w.heap.size w W ∧ IsP W v6 o ∧ Gone l m k o ∧ IsP W v7 (rootsP l k) ∧ ApartTo l k

set_option maxHeartbeats 8000000 in
theorem pthr_is (v u : Value) (l m' : List F2) (w : World) (h1 : Poly w v l) (h2 : Poly w u m') (hl : l.length ≤ 1048576) (hm' : m'.length ≤ 1048576) : Calls Try.prog 25 #[v, u] w (RetT l m' w) := by
  obtain ⟨a, ca, rfl⟩ := h1.slice
  obtain ⟨b, cb, rfl⟩ := h2.slice
  by_cases hlen : l.length = m'.length
  · obtain ⟨_, hm1, hc1⟩ := h1.at
    obtain ⟨_, hm2, hc2⟩ := h2.at
    have HNO : Hid (∀ i, i < l.length → atP (rootsP l i) (cq l i) = 0 → thrB l m' = false) := Lib.hid (fun i h1 h2 => thrB_met h1 h2)
    have HSTA : Hid (∀ k, ApartTo l k → k < l.length → atP (rootsP l k) (cq l k) ≠ 0 → ApartTo l (k + 1)) := Lib.hid (fun k h => h.step)
    have HSTG : Hid (∀ k o p a s z, Gone l m' k o → k < l.length → atP (rootsP l k) (cq l k) = p → atP o (cq l k) = a → p ≠ 0 → cq m' k - a = s → s * qinv p = z → Gone l m' (k + 1) (addP o (scaP (rootsP l k) z))) := Lib.hid (fun k o p a s z h1 h2 h3 h4 h5 h6 h7 => h1.step h2 h3 h4 h5 h6 h7)
    have HSTR : Hid (∀ k, k < l.length → mulP (rootsP l k) [-(cq l k), 1] = rootsP l (k + 1)) := Lib.hid (fun k hk => rootsP_step l k hk)
    have HALL : Hid (∀ o, Gone l m' l.length o → ApartTo l l.length → thrB l m' = true ∧ thrL l m' = o) := Lib.hid (fun o h1 h2 => h1.all h2 hlen)
    rw [← hlen] at hc2 hm2 ⊢
    unfold maxLen at hm1 hm2
    have HC := Lib.hid hc1; have HD := Lib.hid hc2
    clear hc1 hc2 h1 h2 hlen
    generalize hL : l.length = n at *
    have HL := Lib.hid hL
    have hL1 : (n : Int) ≤ 1048576 := by omega
    clear hL
    go_enter Try.func25, Try.ntmps25
    go_upto_region 6 with (go_at_call 36; ((with_reducible refine (lift_one _).mono ?_); rintro e W1 ⟨rfl, hb⟩; have HB0 := Lib.hid hb; clear hb))
    go_loopw [6, 7, 22] (PgThr w l m' n) (fun _ _ i _ => n - (intOf i).toNat)
    case atStart => exact ⟨0, [], Nat.zero_le _, rfl, HB0.out.alloc HB0.out.size _, IsP.nil _, Gone.start l m', by rw [rootsP_zero]; exact isP_one (by simp [go_sem]; rfl) (by simp [go_sem]; rfl), ApartTo.start l⟩
    case round =>
      clear HB0
      obtain ⟨k, o, hk, rfl, hB, h6, hG, h7, hAp⟩ := hrel
      by_cases hlt : k < n
      · have hk1 : (k : Int) < (n : Int) := by omega
        have hk0 : (0 : Int) ≤ (k : Int) := by omega
        obtain ⟨b1, off1, x0, x1, rfl, g0, g1, hX⟩ := HC.out k hlt
        replace g0 := bkeep hB g0
        replace g1 := bkeep hB g1
        have HGL := Lib.hid hG.len
        have HRL := Lib.hid (rootsP_len l k)
        go_upto_region 8 with fail
        refine wp_gen (fun W => Below w.heap.size w W ∧ Var W wr.heap.size x0 x1 ∧ IsP W u6 o ∧ IsP W u7 (rootsP l k)) ⟨hB.alloc hB.size _, Var.new _ _ _ _, h6.keep ((Below.refl _ _).alloc (Nat.le_refl _) _), h7.keep ((Below.refl _ _).alloc (Nat.le_refl _) _)⟩ ?_
        clear hB h6 h7 g0 g1
        rintro W1 ⟨hB, hV, h6, h7⟩
        generalize wr.heap.size = gx at *
        have A1 := pat_is u7 (rootsP l k) x0 x1 (cq l k) W1 h7.poly hX (by have := HRL.out; omega)
        have HB := Lib.hid hB; have HV := Lib.hid hV; have H6 := Lib.hid h6; have H7 := Lib.hid h7; have HG := Lib.hid hG; have HAp := Lib.hid hAp
        have HX := Lib.hid hX
        obtain ⟨x0c, x1c, _, _⟩ := hV
        clear hB h6 h7 hG hAp hX
        unfold RetQ at A1
        by_cases hp0 : atP (rootsP l k) (cq l k) = 0
        · have HF := Lib.hid (HNO.out k hlt hp0)
          have I1 := pinv_no (enc (atP (rootsP l k) (cq l k)).a) (enc (atP (rootsP l k) (cq l k)).b) _ (rep_enc _) hp0
          generalize atP (rootsP l k) (cq l k) = p at *
          clear hp0
          go_wp2_with (first
            | (go_at_call 21; ((with_reducible refine A1.mono ?_); rintro e W2 ⟨rfl, hb⟩; replace HB := Lib.hid (bthen HB.out hb); clear hb A1 x0c x1c))
            | (go_at_call 37; ((with_reducible refine (I1 _).mono ?_); rintro e W3 ⟨rfl, hb⟩; replace HB := Lib.hid (bthen HB.out hb); clear hb I1)))
          go_ret2
          exact RetT.no HF.out rfl (HB.out.alloc HB.out.size _)
        · have HP0 := Lib.hid hp0
          have HAN := Lib.hid (HSTA.out k HAp.out hlt hp0)
          obtain ⟨p, hp⟩ : ∃ p, atP (rootsP l k) (cq l k) = p := ⟨_, rfl⟩
          obtain ⟨ao, hao⟩ : ∃ ao, atP o (cq l k) = ao := ⟨_, rfl⟩
          obtain ⟨s, hs⟩ : ∃ s, cq m' k - ao = s := ⟨_, rfl⟩
          obtain ⟨q, hq⟩ : ∃ q, qinv p = q := ⟨_, rfl⟩
          obtain ⟨z, hz⟩ : ∃ z, s * q = z := ⟨_, rfl⟩
          have HGN := Lib.hid (HSTG.out k o p ao s z HG.out hlt hp hao (by rw [← hp]; exact hp0) hs (by rw [hq]; exact hz))
          rw [hp] at A1 hp0
          have I1 := pinv_yes (enc p.a) (enc p.b) p q (rep_enc _) hp0 hq
          clear hp0 HP0
          go_upto_region 11 with (first
            | (go_at_call 21; ((with_reducible refine A1.mono ?_); rintro e W2 ⟨rfl, hb2⟩; clear A1 x0c x1c))
            | (go_at_call 37; ((with_reducible refine (I1 _).mono ?_); rintro e W3 ⟨rfl, hb3⟩; clear I1)))
          have hbb := bthen hb2 hb3
          refine wp_gen (fun W => Below w.heap.size w W ∧ Var W gx x0 x1 ∧ IsP W u6 o ∧ IsP W u7 (rootsP l k) ∧ Var W W3.heap.size (enc q.a) (enc q.b)) ⟨(bthen HB.out hbb).alloc (bthen HB.out hbb).size _, (HV.out.keep hbb).alloc _, (H6.out.keep hbb).keep ((Below.refl _ _).alloc (Nat.le_refl _) _), (H7.out.keep hbb).keep ((Below.refl _ _).alloc (Nat.le_refl _) _), Var.new _ _ _ _⟩ ?_
          clear HB HV H6 H7 hbb hb2 hb3
          rintro W0 ⟨hB, hV, h6, h7, hQ⟩
          generalize W3.heap.size = gp at *
          obtain ⟨b2, off2, z0, z1, rfl, k0, k1, hZ⟩ := HD.out k hlt
          have z0c := bkeep hB k0
          have z1c := bkeep hB k1
          have A2 := fun W (hb : Below W0.heap.size W0 W) => pat_is u6 o x0 x1 (cq l k) W (h6.keep hb).poly HX.out (by have := HGL.out; omega)
          rw [hao] at A2
          unfold RetQ at A2
          have s1 := psub_q z0 z1 (enc ao.a) (enc ao.b) (cq m' k) ao s hZ (rep_enc _) hs
          have M1 := pmul_q (enc s.a) (enc s.b) (enc q.a) (enc q.b) s q z (rep_enc _) (rep_enc _) hz
          have HB := Lib.hid hB; have HV := Lib.hid hV; have H6 := Lib.hid h6; have H7 := Lib.hid h7; have HQV := Lib.hid hQ
          obtain ⟨x0c, x1c, _, _⟩ := hV
          have SCX : Hid (∀ W, IsP W u7 (rootsP l k) → Calls Try.prog 15 #[u7, .agg #[.int .u64 (enc z.a), .int .u64 (enc z.b)]] W (RetP (scaP (rootsP l k) z) W)) := Lib.hid (fun W h => pscale_is u7 (rootsP l k) _ _ z W h.poly (rep_enc _) (by have := HRL.out; omega))
          have ADX : Hid (∀ W v71, IsP W u6 o → IsP W v71 (scaP (rootsP l k) z) → Calls Try.prog 11 #[u6, v71] W (RetP (addP o (scaP (rootsP l k) z)) W)) := Lib.hid (fun W v71 h h' => padd_is u6 v71 o _ W h.poly h'.poly (by have := HGL.out; omega) (by have := HRL.out; have := scaP_len (rootsP l k) z; omega))
          have N1 := pneg_q x0 x1 (cq l k) (-(cq l k)) HX.out rfl
          have MU : Hid (∀ W1, IsP W1 u7 (rootsP l k) → Calls Try.prog 13 #[u7, .slice (some ⟨W1.heap.size, 0, none⟩) 2 2] (W1.alloc (.cells #[.int .u64 (enc (-(cq l k)).a), .int .u64 (enc (-(cq l k)).b), .int .u64 1, .int .u64 0] 25)) (RetP (rootsP l (k + 1)) (W1.alloc (.cells #[.int .u64 (enc (-(cq l k)).a), .int .u64 (enc (-(cq l k)).b), .int .u64 1, .int .u64 0] 25)))) := Lib.hid (fun W1 h => by
            have := pmul_is u7 (.slice (some ⟨W1.heap.size, 0, none⟩) 2 2) (rootsP l k) [-(cq l k), 1] (W1.alloc (.cells #[.int .u64 (enc (-(cq l k)).a), .int .u64 (enc (-(cq l k)).b), .int .u64 1, .int .u64 0] 25)) (h.keep ((Below.refl _ _).alloc (Nat.le_refl _) _)).poly (isP_two (by simp [go_sem]) (by simp [go_sem]) (by simp [go_sem]; rfl) (by simp [go_sem]; rfl)).poly (by have := HRL.out; omega) (by simp)
            rw [HSTR.out k hlt] at this
            exact this)
          clear hB h6 h7 hQ hZ hs hq hz hp hao k0 k1
          generalize hnx : -(cq l k) = nx at *
          clear hnx
          refine wp_loose [(36, []), (37, []), (38, [36, 37]), (39, [38]), (40, []), (41, []), (42, [40, 41]), (43, [39, 42]), (12, [])]
            (PgThrR W0.heap.size b2 off2 n cb k u6 x0 x1 z0 z1 (enc ao.a) (enc ao.b) (enc s.a) (enc s.b)) (fun d => false) (by kernel_rfl) (by kernel_rfl) (fun _ _ _ _ h hb => h.keep hb) ?_ ?_
          · refine opsrun_cons ?_ (opsrun_cons ?_ (opsrun_cons ?_ (opsrun_cons ?_ (opsrun_cons ?_ (opsrun_cons ?_ (opsrun_cons ?_ (opsrun_cons ?_ (opsrun_cons ?_ opsrun_nil))))))))
            all_goals
              refine OpRuns.any ?_
              intro Q0 σ W' K hb hn hK
              simp only [fill, List.map, Act.put, List.setIfInBounds_toArray, List.set_cons_zero, List.set_cons_succ] at hK ⊢
            · clear hn
              go_simp
              exact hK _ _ rfl (Below.refl _ _) (fun h => absurd h (by decide))
            · clear hn
              go_simp
              exact hK _ _ rfl (Below.refl _ _) (fun h => absurd h (by decide))
            · have h36 : σ 36 = _ := hn 36 (by decide)
              have h37 : σ 37 = _ := hn 37 (by decide)
              clear hn
              simp only [h36, h37] at hK
              go_simp
              exact hK _ _ rfl (Below.refl _ _) (fun h => absurd h (by decide))
            · have h38 : σ 38 = _ := hn 38 (by decide)
              clear hn
              simp only [h38] at hK
              have z0c' := bkeep hb z0c
              have z1c' := bkeep hb z1c
              clear z0c z1c
              go_simp
              exact hK _ _ rfl (Below.refl _ _) (fun h => absurd h (by decide))
            · clear hn
              go_simp
              exact hK _ _ rfl (Below.refl _ _) (fun h => absurd h (by decide))
            · clear hn
              have x0c' := bkeep hb x0c
              have x1c' := bkeep hb x1c
              clear x0c x1c
              go_simp
              exact hK _ _ rfl (Below.refl _ _) (fun h => absurd h (by decide))
            · have h40 : σ 40 = _ := hn 40 (by decide)
              have h41 : σ 41 = _ := hn 41 (by decide)
              clear hn
              simp only [h40, h41] at hK
              go_simp
              go_at_call 21
              refine (A2 _ hb).mono ?_
              rintro e w1 ⟨rfl, hb1⟩
              exact hK _ _ rfl hb1 (fun h => absurd h (by decide))
            · have h39 : σ 39 = _ := hn 39 (by decide)
              have h42 : σ 42 = _ := hn 42 (by decide)
              clear hn
              simp only [h39, h42] at hK
              go_simp
              go_at_call 38
              refine (s1 _).mono ?_
              rintro e w1 ⟨rfl, hb1⟩
              exact hK _ _ rfl hb1 (fun h => absurd h (by decide))
            · clear hn
              go_simp
              exact hK _ _ ⟨_, rfl, hb.size, Var.new _ _ _ _⟩ ((Below.refl _ _).alloc (Nat.le_refl _) _) (fun h => absurd h (by decide))
          · intro σ W' hb hR' hF
            have h43 : σ 43 = _ := hR' 43 (by decide)
            obtain ⟨gm, h12, hgm, hVm⟩ : ∃ g : Nat, σ 12 = .pointer (some ⟨g, 0, none⟩) ∧ W0.heap.size ≤ g ∧ Var W' g 0 0 := hR' 12 (by decide)
            have hgp : gp < W0.heap.size := HQV.out.lt
            have hgx : gx < W0.heap.size := HV.out.lt
            have hW0 : w.heap.size ≤ W0.heap.size := HB.out.size
            obtain ⟨c0, c1, f0, f1⟩ := hVm
            have HVM := Lib.hid (show Var W' gm 0 0 from ⟨c0, c1, f0, f1⟩)
            have hu6 : NotAt gm u6 := H6.out.notAt hgm
            have hu7 : NotAt gm u7 := H7.out.notAt hgm
            replace HB := Lib.hid (bthen HB.out hb)
            replace HV := Lib.hid (HV.out.keep hb)
            replace H6 := Lib.hid (H6.out.keep hb)
            replace H7 := Lib.hid (H7.out.keep hb)
            replace HQV := Lib.hid (HQV.out.keep hb)
            clear hR' hF x0c x1c z0c z1c hb A2 s1
            simp only [fill, List.map, Act.put, List.setIfInBounds_toArray, List.set_cons_zero, List.set_cons_succ, List.length_cons, List.length_nil, List.drop_succ_cons, List.drop_zero, Nat.reduceAdd, h43, h12]
            clear h43 h12
            go_upto_region 12 with fail
            refine wp_gen (fun W => Below w.heap.size w W ∧ Var W gx x0 x1 ∧ IsP W u6 o ∧ IsP W u7 (rootsP l k) ∧ Var W gp (enc q.a) (enc q.b) ∧ Var W gm (enc s.a) (enc s.b)) ⟨(HB.out.setCell (by show w.heap.size ≤ gm; omega) _).setCell (by show w.heap.size ≤ gm; omega) _, (HV.out.far (by omega) _ _).far (by omega) _ _, (H6.out.off hu6 _ _).off hu6 _ _, (H7.out.off hu7 _ _).off hu7 _ _, (HQV.out.far (by omega) _ _).far (by omega) _ _, HVM.out.set _ _⟩ ?_
            clear HB HV H6 H7 HQV HVM c0 c1 f0 f1 hu6 hu7
            rintro W4 ⟨hB, hV, h6, h7, ⟨q0c, q1c, _, _⟩, ⟨m0c, m1c, _, _⟩⟩
            have HB := Lib.hid hB; have HV := Lib.hid hV; have H6 := Lib.hid h6; have H7 := Lib.hid h7
            clear hB hV h6 h7
            go_upto_region 13 with (first
              | (go_at_call 34; ((with_reducible refine (M1 _).mono ?_); rintro e W5 ⟨rfl, hb⟩; replace HB := Lib.hid (bthen HB.out hb); replace HV := Lib.hid (HV.out.keep hb); replace H6 := Lib.hid (H6.out.keep hb); replace H7 := Lib.hid (H7.out.keep hb); have T5 := SCX.out W5 H7.out; clear hb q0c q1c m0c m1c M1 SCX))
              | (go_at_call 15; ((with_reducible refine T5.mono ?_); rintro e W6 ⟨v6, rfl, hb, hp⟩; replace HB := Lib.hid (bthen HB.out hb); replace HV := Lib.hid (HV.out.keep hb); replace H6 := Lib.hid (H6.out.keep hb); replace H7 := Lib.hid (H7.out.keep hb); have T6 := ADX.out W6 v6 H6.out hp; clear hb hp T5 ADX))
              | (go_at_call 11; ((with_reducible refine T6.mono ?_); rintro e W7 ⟨v7, rfl, hb, hp⟩; replace HB := Lib.hid (bthen HB.out hb); replace HV := Lib.hid (HV.out.keep hb); replace H7 := Lib.hid (H7.out.keep hb); have HO := Lib.hid hp; clear hb hp T6 H6)))
            obtain ⟨x0c, x1c, _, _⟩ := HV.out
            go_wp2_with (first
              | (go_at_call 39; ((with_reducible refine (N1 _).mono ?_); rintro e W8 ⟨rfl, hb⟩; replace HB := Lib.hid (bthen HB.out hb); replace H7 := Lib.hid (H7.out.keep hb); replace HO := Lib.hid (HO.out.keep hb); clear hb x0c x1c N1 HV))
              | (go_at_call 36; ((with_reducible refine (lift_one _).mono ?_); rintro e W9 ⟨rfl, hb⟩; replace HB := Lib.hid (bthen HB.out hb); replace H7 := Lib.hid (H7.out.keep hb); replace HO := Lib.hid (HO.out.keep hb); have T9 := MU.out W9 H7.out; clear hb MU))
              | (go_at_call 13; ((with_reducible refine T9.mono ?_); rintro e W10 ⟨v10, rfl, hb, hp⟩; have hbb := ((Below.refl W9.heap.size W9).alloc (Nat.le_refl _) (.cells #[.int .u64 (enc nx.a), .int .u64 (enc nx.b), .int .u64 1, .int .u64 0] 25)).trans (hb.mono (by simp)); replace HB := Lib.hid (bthen HB.out hbb); replace HO := Lib.hid (HO.out.keep hbb); have HN7 := Lib.hid hp; clear hb hbb hp T9 H7)))
            go_roundw
            case rel => exact ⟨k + 1, _, by omega, by go_num, HB.out, HO.out, HGN.out, HN7.out, HAN.out⟩
            case measure => simp [intOf]; omega
      · have hin : k = n := by omega
        subst hin
        obtain ⟨e1, e2⟩ := HALL.out o hG hAp
        have HB := Lib.hid hB; have HO := Lib.hid h6; have E1 := Lib.hid e1; have E2 := Lib.hid e2
        clear hB h6 h7 hG hAp e1 e2
        go_wp2_with fail
        go_ret2
        exact RetT.yes E1.out E2.out rfl HB.out HO.out
  · have H := Lib.hid (fun e w' => @RetT.no l m' w w' e (thrB_len hlen))
    have d1 : ((l.length : Int) == (m'.length : Int)) = false := by simp; omega
    have d2 : decide ((l.length : Int) = (m'.length : Int)) = false := by simp; omega
    generalize l.length = la at *
    generalize m'.length = lb at *
    clear h1 h2
    go_enter Try.func25, Try.ntmps25
    go_wp2
    go_ret2
    exact H.out _ _ rfl (Below.refl _ _)
/-- The program's calls do what is asked of them. -/
theorem ask : AskPoly where
  trim v l w h hl := ptrim_is v l w h (by omega)
  degree v l w h hl := pdegree v l w h (by omega)
  at' v l x0 x1 x w h hx hl := pat_is v l x0 x1 x w h hx (by omega)
  lift v zs w h hu hl := plift_is v zs w h hu (by omega)
  add v u l m w h1 h2 hl hm := padd_is v u l m w h1 h2 (by omega) (by omega)
  scale v l x0 x1 x w h hx hl := pscale_is v l x0 x1 x w h hx (by omega)
  mul v u l m w h1 h2 hl hm := pmul_is v u l m w h1 h2 (by omega) (by omega)
  divide v l x0 x1 x w h hx hl := pdivide_is v l x0 x1 x w h hx (by omega)
  through v u l m w h1 h2 hl hm := pthr_is v u l m w h1 h2 (by omega) (by omega)
end Go.Proofs.Ytajmfpnkcenhaaa
