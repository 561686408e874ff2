/-
  The walk of FoldAdds: it answers true, where the program's calls do what is asked of them. (Written by gen_fadds.py.)
-/
import Derived.Test.YtepfdhcdalkddaaDoorGFold
import Derived.Test.YtepfdhcdalkddaaDoorGRows
import Derived.BigQuiet
namespace Go.Proofs.YtepfdhcdalkddaaDoor
open Go Go.RowKit Go.Sort Go.BigFrame
set_option linter.unusedVariables false

def FAddRel (w : World) (n : Nat) (l m : List (Int × Int)) (o i : Value) (W : World) : Prop := ∃ k : Nat, k ≤ n ∧ i = .int .i64 k ∧ MadeQ w W o (sumQ l m k)
def FAd7 (ad : Option Addr) (k cp b1 o1 n cp1 b2 o2 n2 cp2 : Nat) (a0 a1 c0 c1 : Int) (z : F2) (sl : Nat) (v : Value) (W : World) : Prop :=
  match sl with
  | 33 => v = .slice ad k cp
  | 34 => v = .slice (some ⟨b1, o1, none⟩) n cp1
  | 35 => v = .int .i64 (k : Int)
  | 36 => v = .pointer (some ⟨b1, o1 + k * 2, none⟩)
  | 37 => v = .agg #[.int .u64 a0, .int .u64 a1]
  | 38 => v = .slice (some ⟨b2, o2, none⟩) n2 cp2
  | 39 => v = .int .i64 (k : Int)
  | 40 => v = .pointer (some ⟨b2, o2 + k * 2, none⟩)
  | 41 => v = .agg #[.int .u64 c0, .int .u64 c1]
  | 42 => v = .agg #[.int .u64 (enc z.a), .int .u64 (enc z.b)]
  | 43 => ∃ q : Nat, q < W.heap.size ∧ v = .slice (some ⟨q, 0, none⟩) 1 1 ∧ W.cell? ⟨q, 0, none⟩ = some (.int .u64 (enc z.a)) ∧ W.cell? ⟨q, 1, none⟩ = some (.int .u64 (enc z.b))
  | _ => v = .bool true
theorem FAd7.keep {ad : Option Addr} {k cp b1 o1 n cp1 b2 o2 n2 cp2 : Nat} {a0 a1 c0 c1 : Int} {z : F2} {sl : Nat} {v : Value} {W W' : World} (h : FAd7 ad k cp b1 o1 n cp1 b2 o2 n2 cp2 a0 a1 c0 c1 z sl v W) (hb : Below W.heap.size W W') : FAd7 ad k cp b1 o1 n cp1 b2 o2 n2 cp2 a0 a1 c0 c1 z sl v W' := by
  unfold FAd7 at *
  split at h
  all_goals first | exact h | (obtain ⟨q, h0, h1, h2, h3⟩ := h; exact ⟨q, Nat.lt_of_lt_of_le h0 hb.size, h1, bkeep hb h2, bkeep hb h3⟩)
def FAd9 (a1 : Option Addr) (k cp1 : Nat) (a2 : Option Addr) (n2 cp2 g N3 : Nat) (y0 y1 : Int) (r2 : QL) (ok : Bool) (sl : Nat) (v : Value) (W : World) : Prop :=
  match sl with
  | 52 => v = .slice a2 n2 cp2
  | 53 => v = .slice a1 k cp1
  | 54 => v = .int .i64 k
  | 55 => v = .slice a2 k cp2
  | 56 => v = .agg #[.int .u64 y0, .int .u64 y1]
  | 57 => ∃ (ar : Option Addr) (cr : Nat), v = .tuple #[.slice ar N3 cr, .bool ok] ∧ QRowA W ar N3 r2
  | 51 => ∃ (ar : Option Addr) (cr : Nat), v = .tuple #[.slice ar N3 cr, .bool ok] ∧ QRowA W ar N3 r2
  | 58 => ∃ (ar : Option Addr) (cr : Nat), v = .slice ar N3 cr ∧ QRowA W ar N3 r2
  | 59 => v = .bool ok
  | 11 => ∃ (ar : Option Addr) (cr : Nat), v = .slice ar N3 cr ∧ QRowA W ar N3 r2
  | 12 => v = .bool ok
  | _ => v = .bool true
theorem FAd9.keep {a1 : Option Addr} {k cp1 : Nat} {a2 : Option Addr} {n2 cp2 g N3 : Nat} {y0 y1 : Int} {r2 : QL} {ok : Bool} {sl : Nat} {v : Value} {W W' : World} (h : FAd9 a1 k cp1 a2 n2 cp2 g N3 y0 y1 r2 ok sl v W) (hb : Below W.heap.size W W') : FAd9 a1 k cp1 a2 n2 cp2 g N3 y0 y1 r2 ok sl v W' := by
  unfold FAd9 at *
  split at h
  all_goals first | exact h | (obtain ⟨ar, cr, e, hq⟩ := h; exact ⟨ar, cr, e, hq.keep hb⟩)
set_option maxRecDepth 100000 in
set_option maxHeartbeats 8000000 in
theorem fadds_body (G : World → Prop) (hAk : AskFold G) (aw : ∀ W, G W → Calls Tryd.prog 8 #[] W fun e w' => e = .returned (.bool true) ∧ Below W.heap.size W w') (a1 : Option Addr) (n1 cp1 : Nat) (l : List (Int × Int)) (a2 : Option Addr) (n2 cp2 : Nat) (m : List (Int × Int)) (y0 y1 : Int) (w : World) (hG : G w) (ha : QRowA w a1 n1 l) (hcp1 : n1 ≤ cp1) (hu : ∀ n ∈ l, U n.1 ∧ U n.2) (ha2 : QRowA w a2 n2 m) (hu2 : ∀ n ∈ m, U n.1 ∧ U n.2) (hcp : n2 ≤ cp2) (h0 : U y0) (h1 : U y1) :
    Calls Tryd.prog 7 #[.slice a1 n1 cp1, .slice a2 n2 cp2, .agg #[.int .u64 y0, .int .u64 y1]] w fun e w' => e = .returned (.bool true) ∧ Below w.heap.size w w' := by
  have hl1 := ha.1
  have hl2 := ha2.1
  have hm := ha.2.1
  have hm2 := ha2.2.1
  unfold maxLen at hm hm2
  obtain ⟨i0, hi, hz0, hz1, hz2⟩ := info_parts infoQf
  have HK := Lib.hid (fun (W W' : World) => @AskFold.keep G hAk W W')
  have HG0 := Lib.hid hG
  have HA10 := Lib.hid ha; have HA20 := Lib.hid ha2
  have hy := rep_raw h0 h1
  clear ha ha2 h0 h1 hG
  go_enter Tryd.func7, Tryd.ntmps7
  go_upto_region 1 with fail
  obtain ⟨g, hg⟩ : ∃ g, w.heap.size = g := ⟨_, rfl⟩
  refine wp_gen (fun W => Below w.heap.size w W ∧ Duo W g (.int .u64 y0) (.int .u64 y1)) ⟨(Below.refl _ _).alloc (Nat.le_refl _) _, by rw [← hg]; simp [Duo, go_sem]⟩ ?_
  rintro w0 ⟨hB0, hY⟩
  simp only [hg]
  have HB0 := Lib.hid hB0
  have HA1 := Lib.hid (HA10.out.keep hB0); have HA2 := Lib.hid (HA20.out.keep hB0); have HG := Lib.hid (HK.out _ _ HG0.out hB0)
  have HB : Hid (Below w0.heap.size w0 w0) := Lib.hid (Below.refl _ _)
  obtain ⟨y0c, y1c, _, _⟩ := hY
  clear hB0 hg HG0 HA10 HA20
  have aw := fun W (h : Below w0.heap.size w0 W) => aw W (HK.out _ _ HG.out h)
  by_cases h70 : (70 : Int) < (n1 : Int)
  · go_wp2_with (go_at_call 8; (with_reducible refine (aw _ HB.out).mono ?_); rintro e w1 ⟨rfl, hb⟩; replace y0c := bkeep hb y0c; replace y1c := bkeep hb y1c; replace HB := Lib.hid (bthen HB.out hb); clear hb)
    go_ret
    exact ⟨rfl, bthen HB0.out HB.out⟩
  by_cases hlm : (n2 : Int) < (n1 : Int)
  · go_wp2_with (go_at_call 8; (with_reducible refine (aw _ HB.out).mono ?_); rintro e w1 ⟨rfl, hb⟩; replace y0c := bkeep hb y0c; replace y1c := bkeep hb y1c; replace HB := Lib.hid (bthen HB.out hb); clear hb)
    go_ret
    exact ⟨rfl, bthen HB0.out HB.out⟩
  have HY0 := Lib.hid (And.intro y0c y1c)
  have HU1 := Lib.hid hu; have HU2 := Lib.hid hu2
  clear HB y0c y1c hu hu2
  have HWA := Lib.hid (word_adds l (m.take n1) ⟨toF y0, toF y1⟩ 0 n1 hl1 (by rw [List.length_take]; omega))
  go_upto_region 5 with fail
  go_loopw [7, 8] (FAddRel w0 n1 l (m.take n1)) (fun _ i _ => n1 - (intOf i).toNat)
  case atStart => exact ⟨0, Nat.zero_le _, rfl, MadeQ.start _⟩
  case round =>
    obtain ⟨k, hk, rfl, hM⟩ := hrel
    have hsl := sumQ_len l (m.take n1) k
    obtain ⟨ad, cp, hv0⟩ := own_form hM.1
    rw [hsl] at hv0
    subst hv0
    by_cases hlt : k < n1
    · have hltI : (k : Int) < (n1 : Int) := by omega
      have hltM : (k : Int) < (n2 : Int) := by omega
      have hk0 : (0 : Int) ≤ (k : Int) := by omega
      obtain ⟨b1, o1, rfl, a0c, a1c⟩ := (HA1.out.keep hM.2).2.2 k hlt
      obtain ⟨b2, o2, rfl, c0c, c1c⟩ := (HA2.out.keep hM.2).2.2 k (by omega)
      have r1 := qAt_rep HU1.out (show k < l.length by rw [hl1]; exact hlt)
      have r2 := qAt_rep HU2.out (show k < m.length by rw [hl2]; omega)
      obtain ⟨z, hz⟩ : ∃ z, qAt l k + qAt m k = z := ⟨_, rfl⟩
      have ka := fun W => radd_q _ _ _ _ _ _ z r1 r2 hz W
      have HS : Hid (sumQ l (m.take n1) (k + 1) = sumQ l (m.take n1) k ++ [(enc z.a, enc z.b)]) := Lib.hid (by rw [sumQ_snoc, qAt_take m hlt, hz]; rfl)
      have HM := Lib.hid hM
      clear hM r1 r2 hz hlt
      generalize (l.getD k (0, 0)).1 = x0 at *
      generalize (l.getD k (0, 0)).2 = x1 at *
      generalize (m.getD k (0, 0)).1 = c0 at *
      generalize (m.getD k (0, 0)).2 = c1 at *
      generalize sumQ l (m.take n1) k = xs at *
      go_upto_region 7 with fail
      refine wp_loose [(33, []), (34, []), (35, []), (36, [34, 35]), (37, [36]), (38, []), (39, []), (40, [38, 39]), (41, [40]), (42, [37, 41]), (43, [42])]
        (FAd7 ad k cp b1 o1 n1 cp1 b2 o2 n2 cp2 x0 x1 c0 c1 z) (fun d => false) (by kernel_rfl) (by kernel_rfl) (fun _ _ _ _ h hb => h.keep hb) ?_ ?_
      · refine opsrun_cons ?_ (opsrun_cons ?_ (opsrun_cons ?_ (opsrun_cons ?_ (opsrun_cons ?_ (opsrun_cons ?_ (opsrun_cons ?_ (opsrun_cons ?_ (opsrun_cons ?_ (opsrun_cons ?_ (opsrun_cons ?_ opsrun_nil))))))))))
        all_goals
          refine OpRuns.any ?_
          intro Q0 σ W' K hb hn hK
          simp only [fill, List.map, Act.put, List.setIfInBounds_toArray, List.set_cons_zero, List.set_cons_succ] at hK ⊢
        · clear hn
          go_simp
          exact hK _ _ rfl (Below.refl _ _) (fun h => absurd h (by decide))
        · clear hn
          go_simp
          exact hK _ _ rfl (Below.refl _ _) (fun h => absurd h (by decide))
        · clear hn
          go_simp
          exact hK _ _ rfl (Below.refl _ _) (fun h => absurd h (by decide))
        · have h34 : σ 34 = _ := hn 34 (by decide)
          have h35 : σ 35 = _ := hn 35 (by decide)
          clear hn
          simp only [h34, h35] at hK
          go_simp
          exact hK _ _ rfl (Below.refl _ _) (fun h => absurd h (by decide))
        · have h36 : σ 36 = _ := hn 36 (by decide)
          clear hn
          simp only [h36] at hK
          have a0c' := bkeep hb a0c
          have a1c' := bkeep hb a1c
          clear a0c a1c
          go_simp
          exact hK _ _ rfl (Below.refl _ _) (fun h => absurd h (by decide))
        · clear hn
          go_simp
          exact hK _ _ rfl (Below.refl _ _) (fun h => absurd h (by decide))
        · clear hn
          go_simp
          exact hK _ _ rfl (Below.refl _ _) (fun h => absurd h (by decide))
        · have h38 : σ 38 = _ := hn 38 (by decide)
          have h39 : σ 39 = _ := hn 39 (by decide)
          clear hn
          simp only [h38, h39] at hK
          go_simp
          exact hK _ _ rfl (Below.refl _ _) (fun h => absurd h (by decide))
        · have h40 : σ 40 = _ := hn 40 (by decide)
          clear hn
          simp only [h40] at hK
          have c0c' := bkeep hb c0c
          have c1c' := bkeep hb c1c
          clear c0c c1c
          go_simp
          exact hK _ _ rfl (Below.refl _ _) (fun h => absurd h (by decide))
        · have h37 : σ 37 = _ := hn 37 (by decide)
          have h41 : σ 41 = _ := hn 41 (by decide)
          clear hn
          simp only [h37, h41] at hK
          go_simp
          go_at_call 19
          refine (ka _).mono ?_
          rintro e w1 ⟨rfl, hb1⟩
          exact hK _ _ rfl hb1 (fun h => absurd h (by decide))
        · have h42 : σ 42 = _ := hn 42 (by decide)
          clear hn
          simp only [h42] at hK
          go_simp
          exact hK _ _ ⟨W'.heap.size, by simp, rfl, by simp [go_sem], by simp [go_sem]⟩ ((Below.refl _ _).alloc (Nat.le_refl _) _) (fun h => absurd h (by decide))
      · intro σ W' hb hR' hF
        have h33 : σ 33 = _ := hR' 33 (by decide)
        obtain ⟨q, hq, h43, q0, q1⟩ : ∃ q : Nat, q < W'.heap.size ∧ σ 43 = .slice (some ⟨q, 0, none⟩) 1 1 ∧ W'.cell? ⟨q, 0, none⟩ = some (.int .u64 (enc z.a)) ∧ W'.cell? ⟨q, 1, none⟩ = some (.int .u64 (enc z.b)) := hR' 43 (by decide)
        have hown := (HM.out.keep hb).1
        have HM' := Lib.hid (HM.out.keep hb)
        have hsz := HM'.out.2.size
        clear hR' hF hb a0c a1c c0c c1c ka HM
        simp only [fill, List.map, Act.put, List.setIfInBounds_toArray, List.set_cons_zero, List.set_cons_succ, List.length_cons, List.length_nil, List.drop_succ_cons, List.drop_zero, Nat.reduceAdd, h33, h43]
        clear h33 h43
        generalize enc z.a = z0 at *
        generalize enc z.b = z1 at *
        rw [hsl] at hown
        go_upto_region 6 with (at_builtin; refine wpList_append_own _ rfl _ _ 33 rfl w0.heap.size 24 i0 (.agg #[.int .u64 0, .int .u64 0]) 2 16 Tryd.underlying33 hi hz0 hz1 hz2 rfl (by decide) _ _ _ rfl hown ⟨q, 0, none⟩ 1 1 [.int .u64 z0, .int .u64 z1] rfl rfl ?c1 ?c2 ?c3 ?c4 ?c5 ?_)
        case c1 => first | exact two_src q0 q1 | (intro j u hu; have := two_src q0 q1 j u hu; simpa [go_sem] using this)
        case c2 => first | exact ⟨rfl, rfl⟩ | (intro u hu; simp at hu; rcases hu with rfl | rfl <;> rfl)
        case c3 => unfold maxLen; omega
        case c4 => omega
        case c5 => exact hsz
        · intro v' w2 hown' hgrow _
          have HR : Hid (MadeQ w0 w2 v' (sumQ l (m.take n1) (k + 1))) := Lib.hid (by
            rw [HS.out]
            refine ⟨?_, HM'.out.2.grown hgrow HM'.out.2.size (own_ge HM'.out.1)⟩
            rw [List.length_append, flat_append, hsl]
            exact hown')
          clear hown hown' hgrow HM' q0 q1 hq HS
          go_wp2_with fail
          go_roundw
          case rel => exact ⟨k + 1, by omega, by go_num, HR.out⟩
          case measure => simp [intOf]; omega
    · obtain rfl : k = n1 := by omega
      obtain ⟨⟨y0c, y1c⟩, HY1⟩ : (wr.cell? ⟨g, 0, none⟩ = some (.int .u64 y0) ∧ wr.cell? ⟨g, 1, none⟩ = some (.int .u64 y1)) ∧ True := ⟨⟨bkeep hM.2 HY0.out.1, bkeep hM.2 HY0.out.2⟩, trivial⟩
      obtain ⟨ad', cp', hv, hq0⟩ := hM.told
      rw [hsl] at hv hq0
      cases hv
      obtain ⟨r1, ok, e1⟩ : ∃ r ok, wordV l ⟨toF y0, toF y1⟩ 0 = (r, ok) := ⟨_, _, rfl⟩
      have hwa := HWA.out
      rw [e1] at hwa
      obtain ⟨v1, v2, v3, v4, v5⟩ := hwa
      obtain ⟨r2, e2⟩ : ∃ r, wordV (m.take k) ⟨toF y0, toF y1⟩ 0 = (r, ok) := ⟨_, Prod.ext rfl v1⟩
      obtain ⟨r3, e3⟩ : ∃ r, wordV (sumQ l (m.take k) k) ⟨toF y0, toF y1⟩ 0 = (r, ok) := ⟨_, Prod.ext rfl v2⟩
      rw [e2] at v3
      rw [e3] at v4
      rw [e2, e3] at v5
      simp only at v3 v4 v5
      obtain ⟨N3, hN3⟩ : ∃ N, r1.length = N := ⟨_, rfl⟩
      rw [hN3] at v3 v4 v5
      have hkc : k ≤ cp2 := by omega
      have hcpk : k ≤ cp := own_cap hM.1
      have k1 := fun W (h : Below w0.heap.size w0 W) => hAk.word a1 k cp1 l y0 y1 0 _ r1 ok W (HA1.out.keep h) hcp1 HU1.out (by omega) hy (by unfold I64; omega) e1 (HK.out _ _ HG.out h)
      have k2 := fun W (h : Below w0.heap.size w0 W) => hAk.word a2 k cp2 (m.take k) y0 y1 0 _ r2 ok W ((HA2.out.keep h).cut (by omega)) hkc (fun n hn => HU2.out n (List.mem_of_mem_take hn)) (by rw [List.length_take]; omega) hy (by unfold I64; omega) e2 (HK.out _ _ HG.out h)
      have k3 := fun W (h : Below w0.heap.size w0 W) (hq : QRowA W ad k (sumQ l (m.take k) k)) => hAk.word ad k cp (sumQ l (m.take k) k) y0 y1 0 _ r3 ok W hq hcpk (sumQ_U _ _ _) (by rw [hsl]; omega) hy (by unfold I64; omega) e3 (HK.out _ _ HG.out h)
      unfold WordPost at k1 k2 k3
      rw [hN3] at k1
      rw [v3] at k2
      rw [v4] at k3
      have HV5 := Lib.hid v5
      have HL : Hid (r1.length = N3 ∧ r2.length = N3) := Lib.hid ⟨hN3, v3⟩
      have HU4 : Hid ((∀ n ∈ r1, U n.1 ∧ U n.2) ∧ ∀ n ∈ r2, U n.1 ∧ U n.2) := Lib.hid ⟨wordV_U e1, wordV_U e2⟩
      have HB := Lib.hid hM.2
      have HQ0 := Lib.hid hq0
      clear hM hq0 v1 v2 v3 v4 v5 e1 e2 e3 hN3 HWA HU1 HA1 hlt
      go_upto_region 9 with (go_at_call 15; (with_reducible refine (k1 _ HB.out).mono ?_); rintro e w1 ⟨hb, ar1, cr1, rfl, hq1⟩; replace y0c := bkeep hb y0c; replace y1c := bkeep hb y1c; replace HQ0 := Lib.hid (HQ0.out.keep hb); have HQ1 := Lib.hid hq1; clear hq1; replace HB := Lib.hid (bthen HB.out hb); clear hb)
      have kw := fun W (h : Below w1.heap.size w1 W) => k2 W (bthen HB.out h)
      clear k1 k2
      refine wp_loose [(52, []), (53, []), (54, [53]), (55, [52, 54]), (56, []), (57, [55, 56]), (51, [57]), (58, [51]), (59, [51]), (11, [58]), (12, [59])]
        (FAd9 a1 k cp1 a2 n2 cp2 g N3 y0 y1 r2 ok) (fun d => false) (by kernel_rfl) (by kernel_rfl) (fun _ _ _ _ h hb => h.keep hb) ?_ ?_
      · refine opsrun_cons ?_ (opsrun_cons ?_ (opsrun_cons ?_ (opsrun_cons ?_ (opsrun_cons ?_ (opsrun_cons ?_ (opsrun_cons ?_ (opsrun_cons ?_ (opsrun_cons ?_ (opsrun_cons ?_ (opsrun_cons ?_ opsrun_nil))))))))))
        all_goals
          refine OpRuns.any ?_
          intro Q0 σ W' K hb hn hK
          simp only [fill, List.map, Act.put, List.setIfInBounds_toArray, List.set_cons_zero, List.set_cons_succ] at hK ⊢
        · clear hn
          go_simp
          exact hK _ _ rfl (Below.refl _ _) (fun h => absurd h (by decide))
        · clear hn
          go_simp
          exact hK _ _ rfl (Below.refl _ _) (fun h => absurd h (by decide))
        · have h53 : σ 53 = _ := hn 53 (by decide)
          clear hn
          simp only [h53] at hK
          go_simp
          exact hK _ _ rfl (Below.refl _ _) (fun h => absurd h (by decide))
        · have h52 : σ 52 = _ := hn 52 (by decide)
          have h54 : σ 54 = _ := hn 54 (by decide)
          clear hn
          simp only [h52, h54] at hK
          go_simp
          exact hK _ _ rfl (Below.refl _ _) (fun h => absurd h (by decide))
        · clear hn
          have y0c' := bkeep hb y0c
          have y1c' := bkeep hb y1c
          clear y0c y1c
          go_simp
          exact hK _ _ rfl (Below.refl _ _) (fun h => absurd h (by decide))
        · have h55 : σ 55 = _ := hn 55 (by decide)
          have h56 : σ 56 = _ := hn 56 (by decide)
          clear hn
          simp only [h55, h56] at hK
          go_simp
          go_at_call 15
          refine (kw _ hb).mono ?_
          rintro e w1 ⟨hb1, ar, cr, rfl, hq⟩
          exact hK _ _ ⟨ar, cr, rfl, hq⟩ hb1 (fun h => absurd h (by decide))
        · have p57 : ∃ (ar : Option Addr) (cr : Nat), (σ 57) = .tuple #[.slice ar N3 cr, .bool ok] ∧ QRowA W' ar N3 r2 := hn 57 (by decide)
          clear hn
          obtain ⟨ar, cr, e, hq⟩ := p57
          simp only [e] at hK
          go_simp
          exact hK _ _ ⟨ar, cr, rfl, hq⟩ (Below.refl _ _) (fun h => absurd h (by decide))
        · have p51 : ∃ (ar : Option Addr) (cr : Nat), (σ 51) = .tuple #[.slice ar N3 cr, .bool ok] ∧ QRowA W' ar N3 r2 := hn 51 (by decide)
          clear hn
          obtain ⟨ar, cr, e, hq⟩ := p51
          simp only [e] at hK
          go_simp
          exact hK _ _ ⟨ar, cr, rfl, hq⟩ (Below.refl _ _) (fun h => absurd h (by decide))
        · have p51 : ∃ (ar : Option Addr) (cr : Nat), (σ 51) = .tuple #[.slice ar N3 cr, .bool ok] ∧ QRowA W' ar N3 r2 := hn 51 (by decide)
          clear hn
          obtain ⟨ar, cr, e, hq⟩ := p51
          simp only [e] at hK
          go_simp
          exact hK _ _ rfl (Below.refl _ _) (fun h => absurd h (by decide))
        · have p58 : ∃ (ar : Option Addr) (cr : Nat), (σ 58) = .slice ar N3 cr ∧ QRowA W' ar N3 r2 := hn 58 (by decide)
          clear hn
          obtain ⟨ar, cr, e, hq⟩ := p58
          simp only [e] at hK
          go_simp
          exact hK _ _ ⟨ar, cr, rfl, hq⟩ (Below.refl _ _) (fun h => absurd h (by decide))
        · have h59 : σ 59 = _ := hn 59 (by decide)
          clear hn
          simp only [h59] at hK
          go_simp
          exact hK _ _ rfl (Below.refl _ _) (fun h => absurd h (by decide))
      · intro σ W' hb hR' hF
        have h12 : σ 12 = _ := hR' 12 (by decide)
        obtain ⟨ar2, cr2, h11, hq2⟩ : ∃ (ar : Option Addr) (cr : Nat), σ 11 = .slice ar N3 cr ∧ QRowA W' ar N3 r2 := hR' 11 (by decide)
        replace y0c := bkeep hb y0c; replace y1c := bkeep hb y1c
        replace HQ0 := Lib.hid (HQ0.out.keep hb); replace HQ1 := Lib.hid (HQ1.out.keep hb); replace HB := Lib.hid (bthen HB.out hb)
        have HQ2 := Lib.hid hq2
        clear hR' hF hb hq2 kw
        simp only [fill, List.map, Act.put, List.setIfInBounds_toArray, List.set_cons_zero, List.set_cons_succ, List.length_cons, List.length_nil, List.drop_succ_cons, List.drop_zero, Nat.reduceAdd, h11, h12]
        cases ok
        all_goals
          go_upto_region 11 with (go_at_call 15; (with_reducible refine (k3 _ HB.out HQ0.out).mono ?_); rintro e w9 ⟨hb, ar3, cr3, rfl, hq3⟩; replace HQ1 := Lib.hid (HQ1.out.keep hb); replace HQ2 := Lib.hid (HQ2.out.keep hb); replace HB := Lib.hid (bthen HB.out hb); have HQ3 := Lib.hid hq3; clear hb hq3)
          clear k3 y0c y1c HQ0
          go_upto_region 14 with fail
          have hN63 := HQ1.out.2.1
          unfold maxLen at hN63
          go_loopw [15] (fun i W => ∃ j : Nat, j ≤ N3 ∧ i = .int .i64 j ∧ Below w9.heap.size w9 W) (fun i _ => N3 - (intOf i).toNat)
          case atStart => exact ⟨0, Nat.zero_le _, rfl, Below.refl _ _⟩
          case round =>
            obtain ⟨j, hj, rfl, hV⟩ := hrel
            by_cases hlt : j < N3
            · have hltI : (j : Int) < (N3 : Int) := by omega
              have hj0 : (0 : Int) ≤ (j : Int) := by omega
              obtain ⟨b1, o1, e1, a0c, a1c⟩ := (HQ1.out.keep hV).2.2 j hlt
              obtain ⟨b2, o2, e2, b0c, b1c⟩ := (HQ2.out.keep hV).2.2 j hlt
              obtain ⟨b3, o3, e3, c0c, c1c⟩ := (HQ3.out.keep hV).2.2 j hlt
              subst e1 e2 e3
              have t1 := qAt_rep (HU4.out.1) (show j < r1.length by rw [HL.out.1]; exact hlt)
              have t2 := qAt_rep (HU4.out.2) (show j < r2.length by rw [HL.out.2]; exact hlt)
              obtain ⟨z, hz⟩ : ∃ z, qAt r1 j + qAt r2 j = z := ⟨_, rfl⟩
              have hc3 := HV5.out j hlt
              rw [hz] at hc3
              have kz := fun W (h : Below wr.heap.size wr W) => radd_q _ _ _ _ _ _ z t1 t2 hz W
              rw [hc3] at c0c c1c
              have c0c : wr.cell? _ = some (.int .u64 (enc z.a)) := c0c
              have c1c : wr.cell? _ = some (.int .u64 (enc z.b)) := c1c
              have HV := Lib.hid hV
              clear hV t1 t2 hz hc3
              generalize (r1.getD j (0, 0)).1 = x0 at *
              generalize (r1.getD j (0, 0)).2 = x1 at *
              generalize (r2.getD j (0, 0)).1 = d0 at *
              generalize (r2.getD j (0, 0)).2 = d1 at *
              generalize enc z.a = z0 at *
              generalize enc z.b = z1 at *
              go_upto_region 16 with fail
              replace a0c := fun q : Regrown => cell_regrown a0c q.d q.os
              replace a1c := fun q : Regrown => cell_regrown a1c q.d q.os
              replace b0c := fun q : Regrown => cell_regrown b0c q.d q.os
              replace b1c := fun q : Regrown => cell_regrown b1c q.d q.os
              replace c0c := fun q : Regrown => cell_regrown c0c q.d q.os
              replace c1c := fun q : Regrown => cell_regrown c1c q.d q.os
              refine wp_region_quiet_below (by kernel_rfl) (by kernel_rfl) ?_
              repeat (first | go_big_quiet_step (first
                | (go_at_call 19; with_reducible exact Calls.regrown_of (kz _ (below_regrown wr _ _)))) | quiet_step (fail))
              refine wpQuiet_nil ?_
              rintro _ ⟨pq, rfl⟩
              have HBE := Lib.hid (bthen HV.out (below_regrown wr pq.d pq.os))
              clear a0c a1c b0c b1c c0c c1c kz HV
              go_wp2_with fail
              go_roundw
              case rel => exact ⟨j + 1, by omega, by go_num, HBE.out⟩
              case measure => simp [intOf]; omega
            · obtain rfl : j = N3 := by omega
              have HV := Lib.hid (bthen HB.out hV)
              clear hV HB
              go_wp2_with (go_at_call 8; (with_reducible refine (aw _ HV.out).mono ?_); rintro e w8 ⟨rfl, hb⟩; replace HV := Lib.hid (bthen HV.out hb); clear hb)
              go_ret
              exact ⟨rfl, bthen HB0.out HV.out⟩
end Go.Proofs.YtepfdhcdalkddaaDoor
