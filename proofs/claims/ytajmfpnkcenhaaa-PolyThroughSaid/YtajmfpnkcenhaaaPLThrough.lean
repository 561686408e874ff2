/-
  The walk of PolyThrough: it answers true, where the program's calls do what is asked of them. (Written by gen_plaw_through.py.)
-/
import Derived.Test.YtajmfpnkcenhaaaPolyNwt
namespace Go.Proofs.Ytajmfpnkcenhaaa
open Go.RowKit Go.Sort Go.BigFrame
set_option linter.unusedVariables false

def ThrQ1 (b off lb cb i k : Nat) (z0 z1 y0 y1 s0 s1 : Int) (sl : Nat) (v : Value) (W : World) : Prop :=
  match sl with
  | 32 => v = .slice (some ⟨b, off, none⟩) lb cb
  | 33 => v = .int .i64 i
  | 34 => v = .pointer (some ⟨b, off + i * 2, none⟩)
  | 35 => v = .agg #[.int .u64 z0, .int .u64 z1]
  | 36 => v = .slice (some ⟨b, off, none⟩) lb cb
  | 37 => v = .int .i64 k
  | 38 => v = .pointer (some ⟨b, off + k * 2, none⟩)
  | 39 => v = .agg #[.int .u64 y0, .int .u64 y1]
  | 40 => v = .agg #[.int .u64 s0, .int .u64 s1]
  | 41 => v = .agg #[.int .u64 0, .int .u64 0]
  | 42 => v = .bool true
  | _ => v = .bool true
theorem ThrQ1.keep {b off lb cb i k : Nat} {z0 z1 y0 y1 s0 s1 : Int} {sl : Nat} {v : Value} {W W' : World} (h : ThrQ1 b off lb cb i k z0 z1 y0 y1 s0 s1 sl v W) (hb : Below W.heap.size W W') : ThrQ1 b off lb cb i k z0 z1 y0 y1 s0 s1 sl v W' := by
  unfold ThrQ1 at *
  split at h
  all_goals first | exact h | exact IsP.keep h hb
def ThrQ2 (b off lb cb i k : Nat) (z0 z1 y0 y1 s0 s1 : Int) (sl : Nat) (v : Value) (W : World) : Prop :=
  match sl with
  | 32 => v = .slice (some ⟨b, off, none⟩) lb cb
  | 33 => v = .int .i64 i
  | 34 => v = .pointer (some ⟨b, off + i * 2, none⟩)
  | 35 => v = .agg #[.int .u64 z0, .int .u64 z1]
  | 36 => v = .slice (some ⟨b, off, none⟩) lb cb
  | 37 => v = .int .i64 k
  | 38 => v = .pointer (some ⟨b, off + k * 2, none⟩)
  | 39 => v = .agg #[.int .u64 y0, .int .u64 y1]
  | 40 => v = .agg #[.int .u64 s0, .int .u64 s1]
  | 41 => v = .agg #[.int .u64 0, .int .u64 0]
  | 42 => v = .bool false
  | _ => v = .bool true
theorem ThrQ2.keep {b off lb cb i k : Nat} {z0 z1 y0 y1 s0 s1 : Int} {sl : Nat} {v : Value} {W W' : World} (h : ThrQ2 b off lb cb i k z0 z1 y0 y1 s0 s1 sl v W) (hb : Below W.heap.size W W') : ThrQ2 b off lb cb i k z0 z1 y0 y1 s0 s1 sl v W' := by
  unfold ThrQ2 at *
  split at h
  all_goals first | exact h | exact IsP.keep h hb
def ThrQ22 (v9 : Value) (b off lb cb q g o c7 : Nat) (z0 z1 y0 y1 : Int) (sl : Nat) (v : Value) (W : World) : Prop :=
  match sl with
  | 80 => v = v9
  | 81 => v = .slice (some ⟨b, off, none⟩) lb cb
  | 82 => v = .int .i64 q
  | 83 => v = .pointer (some ⟨b, off + q * 2, none⟩)
  | 84 => v = .agg #[.int .u64 z0, .int .u64 z1]
  | 85 => v = .agg #[.int .u64 y0, .int .u64 y1]
  | 86 => v = .slice (some ⟨g, o, none⟩) lb c7
  | 87 => v = .int .i64 q
  | 88 => v = .pointer (some ⟨g, o + q * 2, none⟩)
  | 89 => v = .agg #[.int .u64 y0, .int .u64 y1]
  | 90 => v = .bool false
  | _ => v = .bool true
theorem ThrQ22.keep {v9 : Value} {b off lb cb q g o c7 : Nat} {z0 z1 y0 y1 : Int} {sl : Nat} {v : Value} {W W' : World} (h : ThrQ22 v9 b off lb cb q g o c7 z0 z1 y0 y1 sl v W) (hb : Below W.heap.size W W') : ThrQ22 v9 b off lb cb q g o c7 z0 z1 y0 y1 sl v W' := by
  unfold ThrQ22 at *
  split at h
  all_goals first | exact h | exact IsP.keep h hb

def ThrL1 (w : World) (m : List F2) (n : Nat) (i : Value) (W : World) : Prop := ∃ k : Nat, k ≤ n ∧ i = .int .i64 k ∧ Below w.heap.size w W ∧ ApartTo m k
def ThrL2 (w : World) (m : List F2) (i0 : Nat) (i : Value) (W : World) : Prop := ∃ k : Nat, k ≤ i0 ∧ i = .int .i64 k ∧ Below w.heap.size w W ∧ ∀ j, j < k → cq m i0 ≠ cq m j
def ThrL3 (w : World) (l m : List F2) (n : Nat) (v i : Value) (W : World) : Prop := ∃ k : Nat, k ≤ n ∧ i = .int .i64 k ∧ MadeQ w W v (encL (valsP l m k))
def ThrL4 (w : World) (v7 v9 : Value) (lv lt : List F2) (n : Nat) (i : Value) (W : World) : Prop := ∃ k : Nat, k ≤ n ∧ i = .int .i64 k ∧ Below w.heap.size w W ∧ IsP W v7 lv ∧ IsP W v9 lt
theorem valsP_snoc (l m : List F2) (k : Nat) : encL (valsP l m k) ++ [(enc (atP l (cq m k)).a, enc (atP l (cq m k)).b)] = encL (valsP l m (k + 1)) := by
  rw [valsP_succ]; unfold encL; rw [List.map_append]; rfl
theorem ApartTo.next {m : List F2} {i : Nat} (h : ApartTo m i) (h2 : ∀ j, j < i → cq m i ≠ cq m j) : ApartTo m (i + 1) := by
  intro a b ha hb
  by_cases e : a = i
  · subst e; exact h2 b hb
  · exact h a b (by omega) hb
theorem IsP.cellsT {W : World} {a : Option Addr} {n c : Nat} {l : List F2} (h : IsP W (.slice a n c) l) (k : Nat) (hk : k < n) : ∃ b off : Nat, a = some ⟨b, off, none⟩ ∧ W.cell? ⟨b, off + k * 2, none⟩ = some (.int .u64 (enc (cq l k).a)) ∧ W.cell? ⟨b, off + k * 2 + 1, none⟩ = some (.int .u64 (enc (cq l k).b)) := by
  obtain ⟨_, _, hc⟩ := QRow.at h
  obtain ⟨b, off, e, c0, c1⟩ := hc k hk
  rw [encL_at] at c0 c1
  exact ⟨b, off, e, c0, c1⟩

set_option maxRecDepth 100000 in
set_option maxHeartbeats 16000000 in
theorem pthrough_body (hA : AskPoly) (aw : ∀ W, Calls Try.prog 9 #[] W fun e w' => e = .returned (.bool true) ∧ Below W.heap.size W w') (a b : Option Addr) (la lb ca cb : Nat) (l m : List F2) (w : World) (h1 : Poly w (.slice a la ca) l) (h2 : Poly w (.slice b lb cb) m) :
    Calls Try.prog 6 #[.slice a la ca, .slice b lb cb] w fun e w' => e = .returned (.bool true) ∧ Below w.heap.size w w' := by
  obtain ⟨i0, hi, hz0, hz1, hz2⟩ := info_parts infoQ5
  have e1 := h1.at.1
  obtain ⟨e2, hm2, hc2⟩ := h2.at
  by_cases hc : la ≤ 8 ∧ lb ≤ 8
  · obtain ⟨l1, l2⟩ := hc
    have HC := Lib.hid hc2
    have HP1 := Lib.hid h1; have HP2 := Lib.hid h2
    have HAll : Hid (ApartTo m lb → Apart m) := Lib.hid (fun h => by rw [← e2] at h; exact h)
    have HML := Lib.hid e2; have HLL := Lib.hid e1
    have n1 : (la : Int) ≤ 8 := by omega
    have n2 : (lb : Int) ≤ 8 := by omega
    clear hc2 h1 h2 e1 hm2
    go_enter Try.func6, Try.ntmps6
    go_upto_region 4 with fail
    go_loopw [5] (ThrL1 w m lb) (fun i _ => lb - (intOf i).toNat)
    case atStart => exact ⟨0, Nat.zero_le _, rfl, Below.refl _ _, ApartTo.start m⟩
    case round =>
      obtain ⟨i, hi', rfl, hB, hAp⟩ := hrel
      by_cases hlt : i < lb
      · have hi1 : (i : Int) < (lb : Int) := by omega
        have hi2 : (0 : Int) ≤ (i : Int) := by omega
        have HAp := Lib.hid hAp
        have HB1 := Lib.hid hB
        obtain ⟨b1, off, z0, z1, rfl, g0', g1', hR⟩ := HC.out i hlt
        have HR := Lib.hid hR
        have G0 := Lib.hid g0'; have G1 := Lib.hid g1'
        clear hAp hB hR g0' g1'
        go_upto_region 7 with fail
        go_loopw [6] (ThrL2 w m i) (fun k _ => i - (intOf k).toNat)
        case atStart => exact ⟨0, Nat.zero_le _, rfl, HB1.out, fun j hj => absurd hj (Nat.not_lt_zero _)⟩
        case round =>
          clear HB1
          obtain ⟨k, hk, rfl, hB, hne⟩ := hrel
          by_cases hlt2 : k < i
          · obtain ⟨b2, off2, y0, y1, he, g2, g3, hS⟩ := HC.out k (by omega)
            cases he
            have g0 := bkeep hB G0.out
            have g1 := bkeep hB G1.out
            replace g2 := bkeep hB g2
            replace g3 := bkeep hB g3
            have hk1 : (k : Int) < (i : Int) := by omega
            have hk2 : (k : Int) < (lb : Int) := by omega
            have hk0 : (0 : Int) ≤ (k : Int) := by omega
            obtain ⟨s, hs⟩ : ∃ s, cq m i - cq m k = s := ⟨_, rfl⟩
            have S1 := rsub_q z0 z1 y0 y1 (cq m i) (cq m k) s HR.out hS hs
            have HB := Lib.hid hB
            by_cases hs0 : s = 0
            · rw [hs0, show enc (0 : F2).a = 0 from rfl, show enc (0 : F2).b = 0 from rfl] at S1
              clear hB hS hs hs0 hne
              go_upto_region 9 with fail
              refine wp_loose [(32, []), (33, []), (34, [32, 33]), (35, [34]), (36, []), (37, []), (38, [36, 37]), (39, [38]), (40, [35, 39]), (41, []), (42, [40, 41])]
                (ThrQ1 b1 off lb cb i k z0 z1 y0 y1 0 0) (fun d => false) (by kernel_rfl) (by kernel_rfl) (fun _ _ _ _ h hb => h.keep hb) ?_ ?_
              · refine opsrun_cons ?_ (opsrun_cons ?_ (opsrun_cons ?_ (opsrun_cons ?_ (opsrun_cons ?_ (opsrun_cons ?_ (opsrun_cons ?_ (opsrun_cons ?_ (opsrun_cons ?_ (opsrun_cons ?_ (opsrun_cons ?_ opsrun_nil))))))))))
                all_goals
                  refine OpRuns.any ?_
                  intro Q0 σ W' K hb hn hK
                  simp only [fill, List.map, Act.put, List.setIfInBounds_toArray, List.set_cons_zero, List.set_cons_succ] at hK ⊢
                · clear hn
                  go_simp
                  exact hK _ _ rfl (Below.refl _ _) (fun h => absurd h (by decide))
                · clear hn
                  go_simp
                  exact hK _ _ rfl (Below.refl _ _) (fun h => absurd h (by decide))
                · have h32 : σ 32 = _ := hn 32 (by decide)
                  have h33 : σ 33 = _ := hn 33 (by decide)
                  clear hn
                  simp only [h32, h33] at hK
                  go_simp
                  exact hK _ _ rfl (Below.refl _ _) (fun h => absurd h (by decide))
                · have h34 : σ 34 = _ := hn 34 (by decide)
                  clear hn
                  simp only [h34] at hK
                  have g0' := bkeep hb g0
                  have g1' := bkeep hb g1
                  clear g0 g1
                  go_simp
                  exact hK _ _ rfl (Below.refl _ _) (fun h => absurd h (by decide))
                · clear hn
                  go_simp
                  exact hK _ _ rfl (Below.refl _ _) (fun h => absurd h (by decide))
                · clear hn
                  go_simp
                  exact hK _ _ rfl (Below.refl _ _) (fun h => absurd h (by decide))
                · have h36 : σ 36 = _ := hn 36 (by decide)
                  have h37 : σ 37 = _ := hn 37 (by decide)
                  clear hn
                  simp only [h36, h37] at hK
                  go_simp
                  exact hK _ _ rfl (Below.refl _ _) (fun h => absurd h (by decide))
                · have h38 : σ 38 = _ := hn 38 (by decide)
                  clear hn
                  simp only [h38] at hK
                  have g2' := bkeep hb g2
                  have g3' := bkeep hb g3
                  clear g2 g3
                  go_simp
                  exact hK _ _ rfl (Below.refl _ _) (fun h => absurd h (by decide))
                · have h35 : σ 35 = _ := hn 35 (by decide)
                  have h39 : σ 39 = _ := hn 39 (by decide)
                  clear hn
                  simp only [h35, h39] at hK
                  go_simp
                  go_at_call 32
                  refine (S1 _).mono ?_
                  rintro e w1 ⟨rfl, hb1⟩
                  exact hK _ _ rfl hb1 (fun h => absurd h (by decide))
                · clear hn
                  go_simp
                  exact hK _ _ rfl (Below.refl _ _) (fun h => absurd h (by decide))
                · have h40 : σ 40 = _ := hn 40 (by decide)
                  have h41 : σ 41 = _ := hn 41 (by decide)
                  clear hn
                  simp only [h40, h41] at hK
                  go_simp
                  exact hK _ _ rfl (Below.refl _ _) (fun h => absurd h (by decide))
              · intro σ W' hb hR' hF
                have h42 : σ 42 = _ := hR' 42 (by decide)
                replace HB := Lib.hid (bthen HB.out hb)
                clear hR' hF hb g0 g1 g2 g3 S1
                simp only [fill, List.map, Act.put, List.setIfInBounds_toArray, List.set_cons_zero, List.set_cons_succ, List.length_cons, List.length_nil, List.drop_succ_cons, List.drop_zero, Nat.reduceAdd, h42]
                clear h42
                have AWW := aw W'
                go_wp2_with (go_at_call 9; ((with_reducible refine AWW.mono ?_); rintro e w1 ⟨rfl, hb⟩; have HBE := Lib.hid (bthen HB.out hb); clear hb AWW))
                go_ret
                exact ⟨rfl, HBE.out⟩
            · have HNE := Lib.hid (enc_ne hs0)
              have HNX : Hid (∀ j, j < k + 1 → cq m i ≠ cq m j) := Lib.hid (fun j hj => by
                by_cases e : j = k
                · subst e; intro h; exact hs0 (by rw [← hs, h]; exact sub_self' _)
                · exact hne j (by omega))
              generalize enc s.a = s0 at *
              generalize enc s.b = s1 at *
              clear hB hS hs hs0 hne
              go_upto_region 9 with fail
              refine wp_loose [(32, []), (33, []), (34, [32, 33]), (35, [34]), (36, []), (37, []), (38, [36, 37]), (39, [38]), (40, [35, 39]), (41, []), (42, [40, 41])]
                (ThrQ2 b1 off lb cb i k z0 z1 y0 y1 s0 s1) (fun d => false) (by kernel_rfl) (by kernel_rfl) (fun _ _ _ _ h hb => h.keep hb) ?_ ?_
              · refine opsrun_cons ?_ (opsrun_cons ?_ (opsrun_cons ?_ (opsrun_cons ?_ (opsrun_cons ?_ (opsrun_cons ?_ (opsrun_cons ?_ (opsrun_cons ?_ (opsrun_cons ?_ (opsrun_cons ?_ (opsrun_cons ?_ opsrun_nil))))))))))
                all_goals
                  refine OpRuns.any ?_
                  intro Q0 σ W' K hb hn hK
                  simp only [fill, List.map, Act.put, List.setIfInBounds_toArray, List.set_cons_zero, List.set_cons_succ] at hK ⊢
                · clear hn
                  go_simp
                  exact hK _ _ rfl (Below.refl _ _) (fun h => absurd h (by decide))
                · clear hn
                  go_simp
                  exact hK _ _ rfl (Below.refl _ _) (fun h => absurd h (by decide))
                · have h32 : σ 32 = _ := hn 32 (by decide)
                  have h33 : σ 33 = _ := hn 33 (by decide)
                  clear hn
                  simp only [h32, h33] at hK
                  go_simp
                  exact hK _ _ rfl (Below.refl _ _) (fun h => absurd h (by decide))
                · have h34 : σ 34 = _ := hn 34 (by decide)
                  clear hn
                  simp only [h34] at hK
                  have g0' := bkeep hb g0
                  have g1' := bkeep hb g1
                  clear g0 g1
                  go_simp
                  exact hK _ _ rfl (Below.refl _ _) (fun h => absurd h (by decide))
                · clear hn
                  go_simp
                  exact hK _ _ rfl (Below.refl _ _) (fun h => absurd h (by decide))
                · clear hn
                  go_simp
                  exact hK _ _ rfl (Below.refl _ _) (fun h => absurd h (by decide))
                · have h36 : σ 36 = _ := hn 36 (by decide)
                  have h37 : σ 37 = _ := hn 37 (by decide)
                  clear hn
                  simp only [h36, h37] at hK
                  go_simp
                  exact hK _ _ rfl (Below.refl _ _) (fun h => absurd h (by decide))
                · have h38 : σ 38 = _ := hn 38 (by decide)
                  clear hn
                  simp only [h38] at hK
                  have g2' := bkeep hb g2
                  have g3' := bkeep hb g3
                  clear g2 g3
                  go_simp
                  exact hK _ _ rfl (Below.refl _ _) (fun h => absurd h (by decide))
                · have h35 : σ 35 = _ := hn 35 (by decide)
                  have h39 : σ 39 = _ := hn 39 (by decide)
                  clear hn
                  simp only [h35, h39] at hK
                  go_simp
                  go_at_call 32
                  refine (S1 _).mono ?_
                  rintro e w1 ⟨rfl, hb1⟩
                  exact hK _ _ rfl hb1 (fun h => absurd h (by decide))
                · clear hn
                  go_simp
                  exact hK _ _ rfl (Below.refl _ _) (fun h => absurd h (by decide))
                · have h40 : σ 40 = _ := hn 40 (by decide)
                  have h41 : σ 41 = _ := hn 41 (by decide)
                  clear hn
                  simp only [h40, h41] at hK
                  rcases HNE.out with hne | hne
                  · go_simp
                    exact hK _ _ rfl (Below.refl _ _) (fun h => absurd h (by decide))
                  · go_simp
                    exact hK _ _ rfl (Below.refl _ _) (fun h => absurd h (by decide))
              · intro σ W' hb hR' hF
                have h42 : σ 42 = _ := hR' 42 (by decide)
                replace HB := Lib.hid (bthen HB.out hb)
                clear hR' hF hb g0 g1 g2 g3 S1
                simp only [fill, List.map, Act.put, List.setIfInBounds_toArray, List.set_cons_zero, List.set_cons_succ, List.length_cons, List.length_nil, List.drop_succ_cons, List.drop_zero, Nat.reduceAdd, h42]
                clear h42
                go_wp2_with fail
                go_roundw
                case rel => exact ⟨k + 1, by omega, by go_num, HB.out, HNX.out⟩
                case measure => simp [intOf]; omega
          · have hki : k = i := by omega
            subst hki
            have HAN := Lib.hid (HAp.out.next hne)
            have HB := Lib.hid hB
            clear hB hne
            go_wp2_with fail
            go_roundw
            case rel => exact ⟨k + 1, by omega, by go_num, HB.out, HAN.out⟩
            case measure => simp [intOf]; omega
      · have hin : i = lb := by omega
        rw [hin] at hAp
        have HApp := Lib.hid (HAll.out hAp)
        have HB := Lib.hid hB
        have hi3 : ¬ (i : Int) < (lb : Int) := by omega
        clear hAp hB
        go_upto_region 13 with fail
        go_loopw [7, 8] (fun v i W => ThrL3 w l m lb v i W) (fun _ i _ => lb - (intOf i).toNat)
        case atStart => exact ⟨0, Nat.zero_le _, rfl, by simpa [encL, valsP, mk] using MadeQ.start w |>.keep HB.out⟩
        case round =>
          clear HB hi3 hin hlt
          obtain ⟨k, hk, rfl, hM⟩ := hrel
          by_cases hlt : k < lb
          · obtain ⟨b1, off, z0, z1, rfl, g0, g1, hR⟩ := HC.out k hlt
            replace g0 := bkeep hM.2 g0
            replace g1 := bkeep hM.2 g1
            have hk1 : (k : Int) < (lb : Int) := by omega
            have hk0 : (0 : Int) ≤ (k : Int) := by omega
            have L1 := hA.at' _ l z0 z1 (cq m k) wr (HP1.out.keep hM.2) hR (by have := HLL.out; omega)
            have HSS := Lib.hid (valsP_snoc l m k)
            have hlen : (encL (valsP l m k)).length ≤ 4294967296 := by rw [encL_len, valsP_len]; omega
            unfold RetQ at L1
            have HM0 := Lib.hid hM
            clear hM hR
            generalize encL (valsP l m k) = xs at *
            generalize enc (atP l (cq m k)).a = y at *
            generalize enc (atP l (cq m k)).b = y' at *
            go_wp2_with (first
              | (go_at_call 21; ((with_reducible refine L1.mono ?_); rintro e w1 ⟨rfl, hb⟩; have HM := Lib.hid (HM0.out.keep hb); have hown := HM.out.1; have hsz := HM.out.2.size; have HT := Lib.hid (fun w2 v' => @MadeQ.step w _ w2 _ v' xs y y' HM.out); clear hb g0 g1 HM0 HM; generalize xs.length = nn at *; generalize flat xs = cs at *))
              | (at_builtin; refine wpList_append_own _ rfl _ _ 22 rfl w.heap.size 25 i0 (.agg #[.int .u64 0, .int .u64 0]) 2 16 Try.underlying22 hi hz0 hz1 hz2 rfl (by decide) _ _ _ rfl (hown.alloc _) ⟨w1.heap.size, 0, none⟩ 1 1 [.int .u64 y, .int .u64 y'] rfl rfl ?c1 ?c2 ?c3 ?c4 ?c5 ?_))
            case c1 => exact two_src (by simp [go_sem]) (by simp [go_sem])
            case c2 => first | rfl | (intro u hu; simp at hu; rcases hu with rfl | rfl <;> rfl)
            case c3 => unfold maxLen; omega
            case c4 => omega
            case c5 => first | omega | (simp; omega)
            · intro v' w2 hown' hgrow _
              have R := Lib.hid (HT.out w2 v' _ hown' hgrow)
              clear hown' hgrow hown HT
              go_wp2_with fail
              go_roundw
              case rel => exact ⟨k + 1, by omega, by go_num, by rw [← HSS.out]; exact R.out⟩
              case measure => simp [intOf]; omega
          · have hkl : k = lb := by omega
            rw [hkl] at hM
            have hk3 : ¬ (k : Int) < (lb : Int) := by omega
            obtain ⟨a7, c7, hv, hrow⟩ := hM.row
            rw [encL_len, valsP_len] at hv hrow
            have HVL : Hid (m.length = (valsP l m lb).length) := Lib.hid (by rw [HML.out, valsP_len])
            have HDG : Hid (degP (thrL m (valsP l m lb)) < lb) := Lib.hid (by have := HApp.out.deg HVL.out; rw [HML.out] at this; exact this)
            have HTL : Hid ((thrL m (valsP l m lb)).length ≤ lb) := Lib.hid (by have := HApp.out.len HVL.out; rw [HML.out] at this; exact this)
            have HAT : Hid (∀ q, q < lb → atP (thrL m (valsP l m lb)) (cq m q) = cq (valsP l m lb) q) := Lib.hid (fun q hq => HApp.out.at HVL.out q (by rw [HML.out]; exact hq))
            have HON : Hid (degP l < lb → thrL m (valsP l m lb) = trimP l) := Lib.hid (fun h => by have := HApp.out.one (p := l) (by rw [HML.out]; exact h); rw [HML.out] at this; exact this)
            have h7 : IsP wr (.slice a7 lb c7) (valsP l m lb) := hrow
            have T := hA.through _ _ m (valsP l m lb) wr (HP2.out.keep hM.2) h7.poly (by have := HML.out; omega) (by rw [valsP_len]; omega)
            unfold RetT at T
            rw [HApp.out.yes HVL.out] at T
            have HB := Lib.hid hM.2
            have H7 := Lib.hid h7
            subst hv
            have D := fun W v (h : IsP W v (thrL m (valsP l m lb))) => hA.degree v _ W h.poly (by have := HTL.out; omega)
            clear hM hrow h7 HVL hkl hlt
            generalize hlt' : thrL m (valsP l m lb) = lt at *
            have HLT := Lib.hid hlt'
            generalize hlv : valsP l m lb = lv at *
            clear hlt' hlv
            have hdl := HDG.out
            generalize degP lt = d at *
            have hd2 : ¬ (lb : Int) ≤ d := by omega
            unfold RetI at D
            go_upto_region 20 with (first
              | (go_at_call 25; ((with_reducible refine T.mono ?_); rintro e W1 ⟨v9, rfl, hb, hp⟩; replace HB := Lib.hid (bthen HB.out hb); replace H7 := Lib.hid (H7.out.keep hb); have H9 := Lib.hid hp; have D2 := D W1 v9 hp; clear hb hp T))
              | (go_at_call 17; ((with_reducible refine D2.mono ?_); rintro e W2 ⟨rfl, hb⟩; replace HB := Lib.hid (bthen HB.out hb); replace H7 := Lib.hid (H7.out.keep hb); replace H9 := Lib.hid (H9.out.keep hb); clear hb D2 D)))
            go_loopw [11] (ThrL4 w (.slice a7 lb c7) v9 lv lt lb) (fun i _ => lb - (intOf i).toNat)
            case atStart => exact ⟨0, Nat.zero_le _, rfl, HB.out, H7.out, H9.out⟩
            case round =>
              clear HB H7 H9
              obtain ⟨q, hq, rfl, hB, h7, h9⟩ := hrel
              by_cases hlt : q < lb
              · obtain ⟨b1, off, z0, z1, rfl, g0, g1, hR⟩ := HC.out q hlt
                replace g0 := bkeep hB g0
                replace g1 := bkeep hB g1
                obtain ⟨g, o, rfl, g2, g3⟩ := h7.cellsT q hlt
                have hq1 : (q : Int) < (lb : Int) := by omega
                have hq0 : (0 : Int) ≤ (q : Int) := by omega
                have A1 := fun W (hb : Below wr.heap.size wr W) => hA.at' v9 lt z0 z1 (cq m q) W (h9.keep hb).poly hR (by have := HTL.out; omega)
                rw [HAT.out q hlt] at A1
                unfold RetQ at A1
                have HB := Lib.hid hB; have H7 := Lib.hid h7; have H9 := Lib.hid h9
                generalize cq lv q = y at *
                clear hB h7 h9 hR
                go_upto_region 22 with fail
                refine wp_loose [(80, []), (81, []), (82, []), (83, [81, 82]), (84, [83]), (85, [80, 84]), (86, []), (87, []), (88, [86, 87]), (89, [88]), (90, [85, 89])]
                  (ThrQ22 v9 b1 off lb cb q g o c7 z0 z1 (enc y.a) (enc y.b)) (fun d => false) (by kernel_rfl) (by kernel_rfl) (fun _ _ _ _ h hb => h.keep hb) ?_ ?_
                · refine opsrun_cons ?_ (opsrun_cons ?_ (opsrun_cons ?_ (opsrun_cons ?_ (opsrun_cons ?_ (opsrun_cons ?_ (opsrun_cons ?_ (opsrun_cons ?_ (opsrun_cons ?_ (opsrun_cons ?_ (opsrun_cons ?_ opsrun_nil))))))))))
                  all_goals
                    refine OpRuns.any ?_
                    intro Q0 σ W' K hb hn hK
                    simp only [fill, List.map, Act.put, List.setIfInBounds_toArray, List.set_cons_zero, List.set_cons_succ] at hK ⊢
                  · clear hn
                    go_simp
                    exact hK _ _ rfl (Below.refl _ _) (fun h => absurd h (by decide))
                  · clear hn
                    go_simp
                    exact hK _ _ rfl (Below.refl _ _) (fun h => absurd h (by decide))
                  · clear hn
                    go_simp
                    exact hK _ _ rfl (Below.refl _ _) (fun h => absurd h (by decide))
                  · have h81 : σ 81 = _ := hn 81 (by decide)
                    have h82 : σ 82 = _ := hn 82 (by decide)
                    clear hn
                    simp only [h81, h82] at hK
                    go_simp
                    exact hK _ _ rfl (Below.refl _ _) (fun h => absurd h (by decide))
                  · have h83 : σ 83 = _ := hn 83 (by decide)
                    clear hn
                    simp only [h83] at hK
                    have g0' := bkeep hb g0
                    have g1' := bkeep hb g1
                    clear g0 g1
                    go_simp
                    exact hK _ _ rfl (Below.refl _ _) (fun h => absurd h (by decide))
                  · have h80 : σ 80 = _ := hn 80 (by decide)
                    have h84 : σ 84 = _ := hn 84 (by decide)
                    clear hn
                    simp only [h80, h84] at hK
                    go_simp
                    go_at_call 21
                    refine (A1 _ hb).mono ?_
                    rintro e w1 ⟨rfl, hb1⟩
                    exact hK _ _ rfl hb1 (fun h => absurd h (by decide))
                  · clear hn
                    go_simp
                    exact hK _ _ rfl (Below.refl _ _) (fun h => absurd h (by decide))
                  · clear hn
                    go_simp
                    exact hK _ _ rfl (Below.refl _ _) (fun h => absurd h (by decide))
                  · have h86 : σ 86 = _ := hn 86 (by decide)
                    have h87 : σ 87 = _ := hn 87 (by decide)
                    clear hn
                    simp only [h86, h87] at hK
                    go_simp
                    exact hK _ _ rfl (Below.refl _ _) (fun h => absurd h (by decide))
                  · have h88 : σ 88 = _ := hn 88 (by decide)
                    clear hn
                    simp only [h88] at hK
                    have g2' := bkeep hb g2
                    have g3' := bkeep hb g3
                    clear g2 g3
                    go_simp
                    exact hK _ _ rfl (Below.refl _ _) (fun h => absurd h (by decide))
                  · have h85 : σ 85 = _ := hn 85 (by decide)
                    have h89 : σ 89 = _ := hn 89 (by decide)
                    clear hn
                    simp only [h85, h89] at hK
                    go_simp
                    exact hK _ _ rfl (Below.refl _ _) (fun h => absurd h (by decide))
                · intro σ W' hb hR' hF
                  have h90 : σ 90 = _ := hR' 90 (by decide)
                  replace HB := Lib.hid (bthen HB.out hb)
                  replace H7 := Lib.hid (H7.out.keep hb)
                  replace H9 := Lib.hid (H9.out.keep hb)
                  clear hR' hF hb g0 g1 g2 g3 A1
                  simp only [fill, List.map, Act.put, List.setIfInBounds_toArray, List.set_cons_zero, List.set_cons_succ, List.length_cons, List.length_nil, List.drop_succ_cons, List.drop_zero, Nat.reduceAdd, h90]
                  clear h90
                  go_wp2_with fail
                  go_roundw
                  case rel => exact ⟨q + 1, by omega, by go_num, HB.out, H7.out, H9.out⟩
                  case measure => simp [intOf]; omega
              · have hq3 : ¬ (q : Int) < (lb : Int) := by omega
                have AWW := aw wr
                have HB := Lib.hid hB; have H9 := Lib.hid h9
                have HBB : Hid (∀ W, Below wr.heap.size wr W → Below w.heap.size w W) := Lib.hid (fun W h => bthen HB.out h)
                have DL := fun W (hb : Below wr.heap.size wr W) => hA.degree _ l W (HP1.out.keep (HBB.out W hb)) (by have := HLL.out; omega)
                have TL := fun W (hb : Below wr.heap.size wr W) => hA.trim _ l W (HP1.out.keep (HBB.out W hb)) (by have := HLL.out; omega)
                unfold RetI at DL
                clear hB h7 h9 hlt
                by_cases hdd : degP l < lb
                · have SM := fun W v (hb : Below wr.heap.size wr W) (h : IsP W v (trimP l)) => sameP v9 v (trimP l) W (by have := H9.out.keep hb; rw [HON.out hdd] at this; exact this) h
                  generalize degP l = dl at *
                  have hd3 : ¬ (lb : Int) ≤ dl := by omega
                  go_wp2_with (first
                    | (go_at_call 9; ((with_reducible refine AWW.mono ?_); rintro e W1 ⟨rfl, hb1⟩; have D1 := DL W1 hb1; clear AWW DL))
                    | (go_at_call 17; ((with_reducible refine D1.mono ?_); rintro e W2 ⟨rfl, hb2⟩; have T1 := TL W2 (bthen hb1 hb2); clear D1 TL))
                    | (go_at_call 19; ((with_reducible refine T1.mono ?_); rintro e W3 ⟨v3, rfl, hb3, hp3⟩; have S1 := SM W3 v3 (bthen (bthen hb1 hb2) hb3) hp3; clear T1 SM))
                    | (go_at_call 10; ((with_reducible refine S1.mono ?_); rintro e W4 ⟨rfl, hb4⟩; have HBE := Lib.hid (HBB.out _ (bthen (bthen (bthen hb1 hb2) hb3) hb4)); clear S1)))
                  go_ret
                  exact ⟨rfl, HBE.out⟩
                · generalize degP l = dl at *
                  have hd3 : (lb : Int) ≤ dl := by omega
                  clear TL
                  go_wp2_with (first
                    | (go_at_call 9; ((with_reducible refine AWW.mono ?_); rintro e W1 ⟨rfl, hb1⟩; have D1 := DL W1 hb1; clear AWW DL))
                    | (go_at_call 17; ((with_reducible refine D1.mono ?_); rintro e W2 ⟨rfl, hb2⟩; have HBE := Lib.hid (HBB.out _ (bthen hb1 hb2)); clear D1)))
                  go_ret
                  exact ⟨rfl, HBE.out⟩
  · clear h1 h2 hA e1 e2 hm2 hc2
    by_cases c1 : la ≤ 8
    · have c2 : 8 < lb := by omega
      clear hc
      go_enter Try.func6, Try.ntmps6
      go_wp2_with (go_at_call 9; ((with_reducible refine (aw _).mono ?_); rintro e w1 ⟨rfl, hb⟩; have HB := Lib.hid hb; clear hb))
      go_ret
      exact ⟨rfl, HB.out⟩
    · have c2 : 8 < la := by omega
      clear hc
      go_enter Try.func6, Try.ntmps6
      go_wp2_with (go_at_call 9; ((with_reducible refine (aw _).mono ?_); rintro e w1 ⟨rfl, hb⟩; have HB := Lib.hid hb; clear hb))
      go_ret
      exact ⟨rfl, HB.out⟩
end Go.Proofs.Ytajmfpnkcenhaaa
