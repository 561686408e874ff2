/-
  What the document's Parse of layer 18 comes to. (Written by gen_airparse.py.)
-/
import Derived.Test.YtckipfcjgmiacaaAirUp
namespace Go.Proofs.Ytckipfcjgmiacaa
open Go Go.RowKit
set_option linter.unusedVariables false

theorem infoStrA : (Try.prog.info? 9).map (fun i => (i.zero, i.size, i.bytes)) = some (some (.string ⟨#[]⟩), 1, 16) := by kernel_rfl
theorem infoBound : (Try.prog.info? 48).map (fun i => (i.zero, i.size, i.bytes)) = some (some (.agg #[.int .i64 0, .int .i64 0]), 2, 16) := by kernel_rfl
theorem manyR_all {α : Type} {f : Rest → α × Rest} {P : α → Prop} (hf : ∀ r, P (f r).1) (r : Rest) : ∀ k, ∀ x ∈ (manyR f r k).1, P x
  | 0, x, hx => by cases hx
  | k + 1, x, hx => by
    rw [manyR] at hx
    rcases List.mem_append.1 hx with hx | hx
    · exact manyR_all hf r k x hx
    · obtain rfl : x = _ := by simpa using hx
      exact hf _
theorem textR_out {m : Int} (hm : 0 ≤ m) (r : Rest) : ((textR m r).1.size : Int) ≤ m := by
  have := numR_bd hm r
  unfold textR
  split
  · exact hm
  · next c =>
    simp only [not_or] at c
    show (((numR m r).2.1.extract 0 (numR m r).1.toNat).size : Int) ≤ m
    rw [ByteArray.size_extract]
    omega
theorem airA_nil (W : World) : AirA W airZ ⟨none, 0, none, 0, none, 0⟩ :=
  ⟨⟨by unfold maxLen; show 0 ≤ _; omega, fun k hk => absurd hk (Nat.not_lt_zero k)⟩, ⟨by unfold maxLen; show 0 ≤ _; omega, fun k hk => absurd hk (Nat.not_lt_zero k)⟩, ⟨rfl, by unfold maxLen; show 0 ≤ _; omega, fun k hk => absurd hk (Nat.not_lt_zero k)⟩, Nat.le_refl _⟩
theorem own_cap {W : World} {B : Nat} {e : TypeId} {s : Nat} {a : Option Addr} {n c : Nat} {xs : List Value} (h : W.ownsRow B e s (.slice a n c) n xs) : n ≤ c := by
  rcases h.2 with ⟨e, _⟩ | ⟨g, cap, cur, e, _, _, hn, _⟩
  · simp only [Value.slice.injEq] at e; omega
  · simp only [Value.slice.injEq] at e; omega
theorem own_str_at {W : World} {B : Nat} {a : Option Addr} {c : Nat} {l : List ByteArray} (h : W.ownsRow B 9 1 (.slice a l.length c) l.length (strsV l)) : StrA W a l.length (tx l) := by
  obtain ⟨a', c', e, h'⟩ := own_strA h
  simp only [Value.slice.injEq] at e
  obtain ⟨rfl, _, rfl⟩ := e
  exact h'
theorem own_bound_at {W : World} {B : Nat} {a : Option Addr} {c : Nat} {l : List (Int × Int)} (h : W.ownsRow B 48 2 (.slice a l.length c) l.length (flatI l)) : BoundA W a l.length l := by
  obtain ⟨a', c', e, h'⟩ := own_boundA h
  simp only [Value.slice.injEq] at e
  obtain ⟨rfl, _, rfl⟩ := e
  exact h'
theorem own_set5 {W : World} {B g : Nat} {e : TypeId} {s n : Nat} {v : Value} {xs : List Value} {x0 x1 x2 x3 x4 : Value} (h : W.ownsRow B e s v n xs) (hg : g < B) : (((((W.setCell ⟨g, 0, none⟩ x0).setCell ⟨g, 1, none⟩ x1).setCell ⟨g, 2, none⟩ x2).setCell ⟨g, 3, none⟩ x3).setCell ⟨g, 4, none⟩ x4).ownsRow B e s v n xs :=
  own_set (own_set (own_set (own_set (own_set h hg) hg) hg) hg) hg
theorem airA_own {W : World} {B : Nat} {c l : Int} {xs ys : List ByteArray} {zs : List (Int × Int)} {sa ra ba : Option Addr} {sc rc bc : Nat} (h2 : W.ownsRow B 9 1 (.slice sa xs.length sc) xs.length (strsV xs)) (h3 : W.ownsRow B 9 1 (.slice ra ys.length rc) ys.length (strsV ys)) (h4 : W.ownsRow B 48 2 (.slice ba zs.length bc) zs.length (flatI zs)) : AirA W ⟨c, l, xs, ys, zs⟩ ⟨sa, sc, ra, rc, ba, bc⟩ :=
  ⟨own_str_at h2, own_str_at h3, own_bound_at h4, own_cap h4⟩
theorem empty_text : noText.toList.isEmpty = true := by rw [ByteArray.toList_eq]; rfl
theorem some_text {s : ByteArray} (h : s.size ≠ 0) : s.toList.isEmpty = false := by
  rw [ByteArray.toList_eq]
  cases e : s.data.toList with
  | nil => exact absurd (by show s.data.size = 0; rw [← Array.length_toList, e]; rfl) h
  | cons a l => rfl
abbrev nilV : Value := .slice none 0 0
def StepsRel (w : World) (B gr gR gA : Nat) (r0 : Rest) (c l : Int) (n : Nat) (i : Value) (W : World) : Prop :=
  ∃ (k : Nat) (v : Value), k ≤ n ∧ i = .int .i64 k ∧ AirUp w B gr gR gA (manyR (textR 4096) r0 k).2 c l v nilV nilV v nilV nilV (manyR (textR 4096) r0 k).1 [] [] W
def RulesRelP (w : World) (B gr gR gA : Nat) (r0 : Rest) (c l : Int) (v2 : Value) (xs : List ByteArray) (n : Nat) (i : Value) (W : World) : Prop :=
  ∃ (k : Nat) (v : Value), k ≤ n ∧ i = .int .i64 k ∧ AirUp w B gr gR gA (manyR (textR 4096) r0 k).2 c l v2 v nilV v2 v nilV xs (manyR (textR 4096) r0 k).1 [] W
def BoundsRel (w : World) (B gr gR gA : Nat) (r0 : Rest) (c l : Int) (v2 v3 : Value) (xs ys : List ByteArray) (n : Nat) (i : Value) (W : World) : Prop :=
  ∃ (k : Nat) (v : Value), k ≤ n ∧ i = .int .i64 k ∧ AirUp w B gr gR gA (manyR placeR r0 k).2 c l v2 v3 v v2 v3 v xs ys (manyR placeR r0 k).1 W
def FillVal2 (gA gR : Nat) (v t : Value) : Nat → Value
  | 32 => .pointer (some ⟨gA, 2, none⟩)
  | 33 => v
  | 34 => .pointer (some ⟨gR, 0, none⟩)
  | 35 => t
  | _ => .pointer (some ⟨gA, 2, none⟩)
def FillVal3 (gA gR : Nat) (v t : Value) : Nat → Value
  | 44 => .pointer (some ⟨gA, 3, none⟩)
  | 45 => v
  | 46 => .pointer (some ⟨gR, 0, none⟩)
  | 47 => t
  | _ => .pointer (some ⟨gA, 3, none⟩)
def FillVal4 (gA gR : Nat) (v : Value) (x y : Int) : Nat → Value
  | 56 => .pointer (some ⟨gA, 4, none⟩)
  | 57 => v
  | 58 => .pointer (some ⟨gR, 0, none⟩)
  | 59 => .int .i64 x
  | 60 => .pointer (some ⟨gR, 0, none⟩)
  | 61 => .int .i64 y
  | 62 => .agg #[.int .i64 x, .int .i64 y]
  | _ => .pointer (some ⟨gA, 4, none⟩)
set_option maxRecDepth 100000 in
set_option maxHeartbeats 8000000 in
theorem raparse_is (s : ByteArray) (A : AirP) (r : Int) (w : World) (hs : s.size ≤ 100000) (hr : parseA s = (A, r)) : Calls Try.prog 22 #[.string s] w (AirPost w A r) := by
  obtain ⟨i0, hi, hz0, hz1, hz2⟩ := info_parts infoStrA
  obtain ⟨i1, ki, kz0, kz1, kz2⟩ := info_parts infoBound
  obtain ⟨c, qa, hc⟩ : ∃ n q, numR 8 (s, false) = (n, q) := ⟨_, _, rfl⟩
  obtain ⟨l, qb, hl⟩ : ∃ n q, numR 10 qa = (n, q) := ⟨_, _, rfl⟩
  obtain ⟨ns, qc, hns⟩ : ∃ n q, numR 8 qb = (n, q) := ⟨_, _, rfl⟩
  obtain ⟨nr, qd, hnr⟩ : ∃ n q, numR 16 qc = (n, q) := ⟨_, _, rfl⟩
  obtain ⟨nb, r0, hnb⟩ : ∃ n q, numR 16 qd = (n, q) := ⟨_, _, rfl⟩
  have HH : Hid (headR (s, false) = (⟨c, l, ns, nr, nb⟩, r0)) := Lib.hid (by unfold headR; rw [hc]; dsimp only; rw [hl]; dsimp only; rw [hns]; dsimp only; rw [hnr]; dsimp only; rw [hnb])
  have bc := numR_bd (m := 8) (by decide) (s, false); have bl := numR_bd (m := 10) (by decide) qa; have bs := numR_bd (m := 8) (by decide) qb; have br := numR_bd (m := 16) (by decide) qc; have bb := numR_bd (m := 16) (by decide) qd
  have za := numR_size 8 (s, false); have zb := numR_size 10 qa; have zc := numR_size 8 qb; have zd := numR_size 16 qc; have ze := numR_size 16 qd
  rw [hc] at bc za; rw [hl] at bl zb; rw [hns] at bs zc; rw [hnr] at br zd; rw [hnb] at bb ze
  dsimp only at bc bl bs br bb za zb zc zd ze
  have hr0 : r0.1.size ≤ 100000 := by omega
  obtain ⟨n, rfl⟩ := Int.eq_ofNat_of_zero_le bs.1
  obtain ⟨n3, rfl⟩ := Int.eq_ofNat_of_zero_le br.1
  obtain ⟨n4, rfl⟩ := Int.eq_ofNat_of_zero_le bb.1
  have k1 := fun gR W (h : Duo W gR (.string s) (.bool false)) => ranum_is gR s false 8 c qa.1 qa.2 W h (by decide) hc
  have k2 := fun gR W (h : Duo W gR (.string qa.1) (.bool qa.2)) => ranum_is gR qa.1 qa.2 10 l qb.1 qb.2 W h (by decide) hl
  have k3 := fun gR W (h : Duo W gR (.string qb.1) (.bool qb.2)) => ranum_is gR qb.1 qb.2 8 n qc.1 qc.2 W h (by decide) hns
  have k4 := fun gR W (h : Duo W gR (.string qc.1) (.bool qc.2)) => ranum_is gR qc.1 qc.2 16 n3 qd.1 qd.2 W h (by decide) hnr
  have k5 := fun gR W (h : Duo W gR (.string qd.1) (.bool qd.2)) => ranum_is gR qd.1 qd.2 16 n4 r0.1 r0.2 W h (by decide) hnb
  unfold ReadPost18 at k1 k2 k3 k4 k5
  have HR := Lib.hid hr
  clear hr hc hl hns hnr hnb za zb zc zd ze
  have hn8 : n ≤ 8 := by omega
  have hn16 : n3 ≤ 16 := by omega
  have hn17 : n4 ≤ 16 := by omega
  go_enter Try.func22, Try.ntmps22
  go_upto_region 2 with fail
  obtain ⟨gr, hgr⟩ : ∃ g, w.heap.size = g := ⟨_, rfl⟩
  obtain ⟨gR, hgR⟩ : ∃ g, gr + 1 = g := ⟨_, rfl⟩
  refine wp_gen (fun W => Below w.heap.size w W ∧ gR + 1 ≤ W.heap.size ∧ Five W gr (.int .i64 0) (.int .i64 0) nilV nilV nilV ∧ Duo W gR (.string s) (.bool false)) ⟨((Below.refl _ _).alloc (Nat.le_refl _) _).alloc (by simp) _, by simp; omega, by rw [← hgr]; simp [Five, go_sem], by rw [← hgR, ← hgr]; simp [Duo, go_sem]⟩ ?_
  rintro W1 ⟨hB1, hz1, hF1, hD1⟩
  simp only [hgr, hgR]
  have HD1 := Lib.hid hD1
  clear hD1
  go_upto_region 3 with (first
    | (go_at_call 32; (with_reducible refine (k1 gR _ HD1.out).mono ?_); rintro e w2 ⟨rfl, hD2, hg2⟩; have HD2 := Lib.hid hD2; have HG2 := Lib.hid hg2; clear hD2 hg2)
    | (go_at_call 32; (with_reducible refine (k2 gR _ HD2.out).mono ?_); rintro e w3 ⟨rfl, hD3, hg3⟩; have HD3 := Lib.hid hD3; have HG3 := Lib.hid hg3; clear hD3 hg3))
  have hgg := grown_trans HG2.out HG3.out
  have hw3 := hgg.size
  obtain ⟨gA, hgA⟩ : ∃ g, w3.heap.size = g := ⟨_, rfl⟩
  have hal : Below w3.heap.size w3 (w3.alloc (.cells #[.int .i64 c, .int .i64 l, .slice none 0 0, .slice none 0 0, .slice none 0 0] 25)) := (Below.refl _ _).alloc (Nat.le_refl _) _
  refine wp_gen (fun W => AirUp w (gA + 1) gr gR gA qb c l nilV nilV nilV nilV nilV nilV [] [] [] W) ⟨bthen (hB1.grown hgg hB1.size (fun k hk => by cases hk; omega)) hal, by simp [hgA], HD3.out.keep hal, by rw [← hgA]; exact Five.new _ _, (hF1.grown hgg (fun k hk => by cases hk; omega)).keep hal, World.ownsRow_nil _ _ _ _, World.ownsRow_nil _ _ _ _, World.ownsRow_nil _ _ _ _, fun k hk => by cases hk⟩ ?_
  rintro W4 hU4
  have HB : Hid (AirB w (gA + 1) gr gR gA) := Lib.hid ⟨by omega, by omega, by omega, by omega⟩
  obtain ⟨B, hBB⟩ : ∃ B, gA + 1 = B := ⟨_, rfl⟩
  rw [hBB] at hU4 HB
  simp only [hgA]
  have HU4 := Lib.hid hU4
  clear hU4 hal hgg hw3 HD1 HD2 HD3 HG2 HG3 hB1 hz1 hF1 k1 k2 hgr hgR hgA hBB
  go_upto_region 4 with (first
    | (go_at_call 32; (with_reducible refine (k3 gR _ HU4.out.rd).mono ?_); rintro e w5 ⟨rfl, hD5, hg5⟩; have HU5 := Lib.hid (HU4.out.read HB.out hD5 hg5); clear hD5 hg5)
    | (go_at_call 32; (with_reducible refine (k4 gR _ HU5.out.rd).mono ?_); rintro e w6 ⟨rfl, hD6, hg6⟩; have HU6 := Lib.hid (HU5.out.read HB.out hD6 hg6); clear hD6 hg6)
    | (go_at_call 32; (with_reducible refine (k5 gR _ HU6.out.rd).mono ?_); rintro e w7 ⟨rfl, hD7, hg7⟩; have HU7 := Lib.hid (HU6.out.read HB.out hD7 hg7); clear hD7 hg7))
  clear k3 k4 k5 HU4 HU5 HU6
  go_upto_region 5 with fail
  go_loopw [9] (StepsRel w B gr gR gA r0 c l n) (fun i _ => n - (intOf i).toNat)
  case atStart => exact ⟨0, nilV, Nat.zero_le _, rfl, HU7.out⟩
  case round =>
    obtain ⟨k, v, hk2, rfl, hU⟩ := hrel
    have hzl := manyR_len (textR 4096) r0 k
    have hqs := manyR_size (textR_size 4096) r0 k
    by_cases hlt : k < n
    · have hltI : (k : Int) < (n : Int) := by omega
      have HNX : Hid (manyR (textR 4096) r0 (k + 1) = ((manyR (textR 4096) r0 k).1 ++ [(textR 4096 (manyR (textR 4096) r0 k).2).1], (textR 4096 (manyR (textR 4096) r0 k).2).2)) := Lib.hid rfl
      generalize (manyR (textR 4096) r0 k).1 = zs at *
      generalize (manyR (textR 4096) r0 k).2 = q0 at *
      obtain ⟨T, q1, hT⟩ : ∃ T q1, textR 4096 q0 = (T, q1) := ⟨_, _, rfl⟩
      rw [hT] at HNX
      have kt := fun W (h : Duo W gR (.string q0.1) (.bool q0.2)) => ratx_is gR q0.1 q0.2 4096 T q1.1 q1.2 W (by omega) h (by decide) hT
      unfold ReadPost18 at kt
      have HU := Lib.hid hU
      have hz16 : zs.length ≤ 16 := by omega
      have HZL := Lib.hid hzl
      clear hU hT hqs hzl
      go_upto_region 7 with fail
      refine wp_lay [(32, []), (33, [32]), (34, []), (35, [34]), (36, [35]), (37, [33, 36]), (38, [])]
        (FillW (fun a _ W => (a = false → AirUp w B gr gR gA q0 c l v nilV nilV v nilV nilV zs [] [] W) ∧ (a = true → AirUp w B gr gR gA q1 c l v nilV nilV v nilV nilV zs [] [] W)) (fun u W => AirUp w B gr gR gA q1 c l v nilV nilV u nilV nilV (zs ++ [T]) [] [] W) 35 35 35 36 37 [.string T] [32, 33, 34, 35, 38] (FillVal2 gA gR v (.string T))) (by kernel_rfl) (by kernel_rfl) (fun σ => FillW.start ⟨fun _ => HU.out.keep ((Below.refl _ _).drew), fun h => absurd h Bool.false_ne_true⟩ σ) ?_ ?_
      · refine opsw_cons ?_ (opsw_cons ?_ (opsw_cons ?_ (opsw_cons ?_ (opsw_cons ?_ (opsw_cons ?_ (opsw_cons ?_ opsw_nil))))))
        all_goals
          refine OpRunsW.any ?_
          intro Q0 D σ W K hW hd hn hK
          simp only [fill, List.map, Act.put, List.setIfInBounds_toArray, List.set_cons_zero, List.set_cons_succ] at hK ⊢
        · have HW := Lib.hid hW
          clear hW
          go_simp
          exact hK _ _ (HW.out.next (by decide) rfl (fun h => absurd h (by decide)))
        · have h32 : σ 32 = _ := hW.sv 32 (by decide) (hn 32 (by decide))
          unfold FillVal2 at h32
          simp only [h32] at hK
          have c0 : W.cell? ⟨gA, 2, none⟩ = some v := by
            cases e : D 37 with
            | true => exact (hW.post e).a.1.2.2.1
            | false =>
              have hs := hW.st e
              cases e2 : D 35 with
              | true => exact (hs.2 e2).a.1.2.2.1
              | false => exact (hs.1 e2).a.1.2.2.1
          have HW := Lib.hid hW
          clear hW
          go_simp
          exact hK _ _ (HW.out.next (by decide) rfl (fun h => absurd h (by decide)))
        · have HW := Lib.hid hW
          clear hW
          go_simp
          exact hK _ _ (HW.out.next (by decide) rfl (fun h => absurd h (by decide)))
        · have h34 : σ 34 = _ := hW.sv 34 (by decide) (hn 34 (by decide))
          unfold FillVal2 at h34
          simp only [h34] at hK
          have hs := (hW.st (hW.open_c (.inl rfl) hd).2).1 hd
          have HS := Lib.hid hs
          have HD := Lib.hid hd
          have HW := Lib.hid hW
          clear hW hs hd
          go_simp
          go_at_call 33
          with_reducible refine (kt _ HS.out.rd).mono ?_
          rintro e w2 ⟨rfl, hD2, hg2⟩
          refine hK _ _ (HW.out.call (.inl rfl) HD.out (by decide) (fun _ => ⟨rfl, rfl⟩) rfl ?_)
          rw [if_pos rfl]
          exact ⟨fun h => absurd h.symm Bool.false_ne_true, fun _ => HS.out.read HB.out hD2 hg2⟩
        · have h35 : σ 35 = _ := hW.sv 35 (by decide) (hn 35 (by decide))
          unfold FillVal2 at h35
          simp only [h35] at hK
          have h3 := hn 35 (by decide)
          have hs := (hW.st (hW.open_b hd)).2 h3
          have HS := Lib.hid hs
          have HH := Lib.hid (And.intro hd h3)
          have HW := Lib.hid hW
          clear hW hs hd h3
          go_simp
          exact hK _ _ (HW.out.build HH.out.1 HH.out.2 HH.out.2 (by decide) (by decide) (one_src (by simp [go_sem])) ⟨fun h => absurd h.symm Bool.false_ne_true, fun _ => HS.out.keep ((Below.refl _ _).alloc (Nat.le_refl _) _)⟩)
        · have h33 : σ 33 = _ := hW.sv 33 (by decide) (hn 33 (by decide))
          unfold FillVal2 at h33
          have hb := hn 36 (by decide)
          obtain ⟨g6, h6, hcell⟩ := hW.li hd hb
          have hs := (hW.st hd).2 (hW.o1 hb).1
          rw [if_pos (by rfl)]
          refine wp_append_at3 (.tmp 33) (.tmp 36) 22 (by rfl) B 9 i0 (.string ⟨#[]⟩) 1 16 Try.underlying22 hi hz0 hz1 hz2 rfl (by decide) v zs.length (strsV zs) (by exact h33) hs.o2 (some ⟨g6, 0, none⟩) 1 1 [.string T] (by exact h6) rfl (fun h => by cases h) (fun h => by cases h) (by rintro ad e; cases e; exact hcell) (by intro u hu; simp at hu; subst hu; rfl) (by unfold maxLen; omega) (by omega) hs.lt ?_
          intro v' w' q1 q2 q3
          exact hK _ _ (hW.app hb (by decide) (by decide) (hs.app2 HB.out q1 q2 q3))
        · have HW := Lib.hid hW
          clear hW
          go_simp
          exact hK _ _ (HW.out.next (by decide) rfl (fun h => absurd h (by decide)))
      · intro D σ W hW hD
        have hu := hW.post (hD 37 (by decide))
        have h38 : σ 38 = _ := hW.sv 38 (by decide) (hD 38 (by decide))
        unfold FillVal2 at h38
        obtain ⟨u, hsu⟩ : ∃ u, σ 37 = u := ⟨_, rfl⟩
        rw [hsu] at hu
        obtain ⟨M, hM⟩ : ∃ M, (zs ++ [T]).length = M := ⟨_, rfl⟩
        obtain ⟨ua, uc, hu'⟩ := own_form hu.o2
        rw [hM] at hu'
        subst hu'
        clear hM
        have f2 := hu.a.2.2.2.1
        have cc := hu.a.1.2.2.1
        have HU2 := Lib.hid (hu.store HB.out 2 (.slice ua M uc) (.slice ua M uc) nilV nilV (hu.a.set2 (.slice ua M uc)))
        clear hW hD HU kt hu
        simp only [fill, List.map, Act.put, List.setIfInBounds_toArray, List.set_cons_zero, List.set_cons_succ, List.length_cons, List.length_nil, List.drop_succ_cons, List.drop_zero, Nat.reduceAdd, h38, hsu]
        clear h38 hsu
        go_wp2_with fail
        go_roundw
        case rel => exact ⟨k + 1, .slice ua M uc, by omega, by go_num, by rw [HNX.out]; exact HU2.out⟩
        case measure => simp [intOf]; omega
    · obtain rfl : k = n := by omega
      have hr1 := manyR_size (textR_size 4096) r0 k
      obtain ⟨xs, hxs⟩ : ∃ xs, (manyR (textR 4096) r0 k).1 = xs := ⟨_, rfl⟩
      obtain ⟨r1, hr1'⟩ : ∃ r1, (manyR (textR 4096) r0 k).2 = r1 := ⟨_, rfl⟩
      have HX := Lib.hid (show manyR (textR 4096) r0 k = (xs, r1) from Prod.ext hxs hr1')
      rw [hxs, hr1'] at hU
      rw [hr1'] at hr1
      have hxl : xs.length = k := by rw [← hxs, manyR_len]
      have HXL := Lib.hid hxl
      have HX4 : Hid (∀ t ∈ xs, (t.size : Int) ≤ 4096) := Lib.hid (by have := manyR_all (f := textR 4096) (P := fun t => (t.size : Int) ≤ 4096) (fun r => textR_out (m := 4096) (by decide) r) r0 k; rw [hxs] at this; exact this)
      have HU1 := Lib.hid hU
      clear hU hxs hr1' hxl hzl hqs
      generalize v = v2 at *
      go_upto_region 9 with fail
      go_loopw [10] (RulesRelP w B gr gR gA r1 c l v2 xs n3) (fun i _ => n3 - (intOf i).toNat)
      case atStart => exact ⟨0, nilV, Nat.zero_le _, rfl, HU1.out⟩
      case round =>
        obtain ⟨k, v, hk2, rfl, hU⟩ := hrel
        have hzl := manyR_len (textR 4096) r1 k
        have hqs := manyR_size (textR_size 4096) r1 k
        by_cases hlt : k < n3
        · have hltI : (k : Int) < (n3 : Int) := by omega
          have HNX : Hid (manyR (textR 4096) r1 (k + 1) = ((manyR (textR 4096) r1 k).1 ++ [(textR 4096 (manyR (textR 4096) r1 k).2).1], (textR 4096 (manyR (textR 4096) r1 k).2).2)) := Lib.hid rfl
          generalize (manyR (textR 4096) r1 k).1 = zs at *
          generalize (manyR (textR 4096) r1 k).2 = q0 at *
          obtain ⟨T, q1, hT⟩ : ∃ T q1, textR 4096 q0 = (T, q1) := ⟨_, _, rfl⟩
          rw [hT] at HNX
          have kt := fun W (h : Duo W gR (.string q0.1) (.bool q0.2)) => ratx_is gR q0.1 q0.2 4096 T q1.1 q1.2 W (by omega) h (by decide) hT
          unfold ReadPost18 at kt
          have HU := Lib.hid hU
          have hz16 : zs.length ≤ 16 := by omega
          have HZL := Lib.hid hzl
          clear hU hT hqs hzl
          go_upto_region 11 with fail
          refine wp_lay [(44, []), (45, [44]), (46, []), (47, [46]), (48, [47]), (49, [45, 48]), (50, [])]
            (FillW (fun a _ W => (a = false → AirUp w B gr gR gA q0 c l v2 v nilV v2 v nilV xs zs [] W) ∧ (a = true → AirUp w B gr gR gA q1 c l v2 v nilV v2 v nilV xs zs [] W)) (fun u W => AirUp w B gr gR gA q1 c l v2 v nilV v2 u nilV xs (zs ++ [T]) [] W) 47 47 47 48 49 [.string T] [44, 45, 46, 47, 50] (FillVal3 gA gR v (.string T))) (by kernel_rfl) (by kernel_rfl) (fun σ => FillW.start ⟨fun _ => HU.out.keep ((Below.refl _ _).drew), fun h => absurd h Bool.false_ne_true⟩ σ) ?_ ?_
          · refine opsw_cons ?_ (opsw_cons ?_ (opsw_cons ?_ (opsw_cons ?_ (opsw_cons ?_ (opsw_cons ?_ (opsw_cons ?_ opsw_nil))))))
            all_goals
              refine OpRunsW.any ?_
              intro Q0 D σ W K hW hd hn hK
              simp only [fill, List.map, Act.put, List.setIfInBounds_toArray, List.set_cons_zero, List.set_cons_succ] at hK ⊢
            · have HW := Lib.hid hW
              clear hW
              go_simp
              exact hK _ _ (HW.out.next (by decide) rfl (fun h => absurd h (by decide)))
            · have h44 : σ 44 = _ := hW.sv 44 (by decide) (hn 44 (by decide))
              unfold FillVal3 at h44
              simp only [h44] at hK
              have c0 : W.cell? ⟨gA, 3, none⟩ = some v := by
                cases e : D 49 with
                | true => exact (hW.post e).a.1.2.2.2.1
                | false =>
                  have hs := hW.st e
                  cases e2 : D 47 with
                  | true => exact (hs.2 e2).a.1.2.2.2.1
                  | false => exact (hs.1 e2).a.1.2.2.2.1
              have HW := Lib.hid hW
              clear hW
              go_simp
              exact hK _ _ (HW.out.next (by decide) rfl (fun h => absurd h (by decide)))
            · have HW := Lib.hid hW
              clear hW
              go_simp
              exact hK _ _ (HW.out.next (by decide) rfl (fun h => absurd h (by decide)))
            · have h46 : σ 46 = _ := hW.sv 46 (by decide) (hn 46 (by decide))
              unfold FillVal3 at h46
              simp only [h46] at hK
              have hs := (hW.st (hW.open_c (.inl rfl) hd).2).1 hd
              have HS := Lib.hid hs
              have HD := Lib.hid hd
              have HW := Lib.hid hW
              clear hW hs hd
              go_simp
              go_at_call 33
              with_reducible refine (kt _ HS.out.rd).mono ?_
              rintro e w2 ⟨rfl, hD2, hg2⟩
              refine hK _ _ (HW.out.call (.inl rfl) HD.out (by decide) (fun _ => ⟨rfl, rfl⟩) rfl ?_)
              rw [if_pos rfl]
              exact ⟨fun h => absurd h.symm Bool.false_ne_true, fun _ => HS.out.read HB.out hD2 hg2⟩
            · have h47 : σ 47 = _ := hW.sv 47 (by decide) (hn 47 (by decide))
              unfold FillVal3 at h47
              simp only [h47] at hK
              have h3 := hn 47 (by decide)
              have hs := (hW.st (hW.open_b hd)).2 h3
              have HS := Lib.hid hs
              have HH := Lib.hid (And.intro hd h3)
              have HW := Lib.hid hW
              clear hW hs hd h3
              go_simp
              exact hK _ _ (HW.out.build HH.out.1 HH.out.2 HH.out.2 (by decide) (by decide) (one_src (by simp [go_sem])) ⟨fun h => absurd h.symm Bool.false_ne_true, fun _ => HS.out.keep ((Below.refl _ _).alloc (Nat.le_refl _) _)⟩)
            · have h45 : σ 45 = _ := hW.sv 45 (by decide) (hn 45 (by decide))
              unfold FillVal3 at h45
              have hb := hn 48 (by decide)
              obtain ⟨g6, h6, hcell⟩ := hW.li hd hb
              have hs := (hW.st hd).2 (hW.o1 hb).1
              rw [if_pos (by rfl)]
              refine wp_append_at3 (.tmp 45) (.tmp 48) 22 (by rfl) B 9 i0 (.string ⟨#[]⟩) 1 16 Try.underlying22 hi hz0 hz1 hz2 rfl (by decide) v zs.length (strsV zs) (by exact h45) hs.o3 (some ⟨g6, 0, none⟩) 1 1 [.string T] (by exact h6) rfl (fun h => by cases h) (fun h => by cases h) (by rintro ad e; cases e; exact hcell) (by intro u hu; simp at hu; subst hu; rfl) (by unfold maxLen; omega) (by omega) hs.lt ?_
              intro v' w' q1 q2 q3
              exact hK _ _ (hW.app hb (by decide) (by decide) (hs.app3 HB.out q1 q2 q3))
            · have HW := Lib.hid hW
              clear hW
              go_simp
              exact hK _ _ (HW.out.next (by decide) rfl (fun h => absurd h (by decide)))
          · intro D σ W hW hD
            have hu := hW.post (hD 49 (by decide))
            have h38 : σ 50 = _ := hW.sv 50 (by decide) (hD 50 (by decide))
            unfold FillVal3 at h38
            obtain ⟨u, hsu⟩ : ∃ u, σ 49 = u := ⟨_, rfl⟩
            rw [hsu] at hu
            obtain ⟨M, hM⟩ : ∃ M, (zs ++ [T]).length = M := ⟨_, rfl⟩
            obtain ⟨ua, uc, hu'⟩ := own_form hu.o3
            rw [hM] at hu'
            subst hu'
            clear hM
            have f2 := hu.a.2.2.2.2.1
            have cc := hu.a.1.2.2.2.1
            have HU2 := Lib.hid (hu.store HB.out 3 (.slice ua M uc) v2 (.slice ua M uc) nilV (hu.a.set3 (.slice ua M uc)))
            clear hW hD HU kt hu
            simp only [fill, List.map, Act.put, List.setIfInBounds_toArray, List.set_cons_zero, List.set_cons_succ, List.length_cons, List.length_nil, List.drop_succ_cons, List.drop_zero, Nat.reduceAdd, h38, hsu]
            clear h38 hsu
            go_wp2_with fail
            go_roundw
            case rel => exact ⟨k + 1, .slice ua M uc, by omega, by go_num, by rw [HNX.out]; exact HU2.out⟩
            case measure => simp [intOf]; omega
        · obtain rfl : k = n3 := by omega
          have hr2 := manyR_size (textR_size 4096) r1 k
          obtain ⟨ys, hys⟩ : ∃ ys, (manyR (textR 4096) r1 k).1 = ys := ⟨_, rfl⟩
          obtain ⟨r2, hr2'⟩ : ∃ r2, (manyR (textR 4096) r1 k).2 = r2 := ⟨_, rfl⟩
          have HY := Lib.hid (show manyR (textR 4096) r1 k = (ys, r2) from Prod.ext hys hr2')
          rw [hys, hr2'] at hU
          rw [hr2'] at hr2
          have hyl : ys.length = k := by rw [← hys, manyR_len]
          have HYL := Lib.hid hyl
          have HY4 : Hid (∀ t ∈ ys, (t.size : Int) ≤ 4096) := Lib.hid (by have := manyR_all (f := textR 4096) (P := fun t => (t.size : Int) ≤ 4096) (fun r => textR_out (m := 4096) (by decide) r) r1 k; rw [hys] at this; exact this)
          have HU2 := Lib.hid hU
          clear hU hys hr2' hyl hzl hqs
          generalize v = v3 at *
          go_upto_region 13 with fail
          go_loopw [11] (BoundsRel w B gr gR gA r2 c l v2 v3 xs ys n4) (fun i _ => n4 - (intOf i).toNat)
          case atStart => exact ⟨0, nilV, Nat.zero_le _, rfl, HU2.out⟩
          case round =>
            obtain ⟨k, v, hk2, rfl, hU⟩ := hrel
            have hzl := manyR_len placeR r2 k
            by_cases hlt : k < n4
            · have hltI : (k : Int) < (n4 : Int) := by omega
              have HNX : Hid (manyR placeR r2 (k + 1) = ((manyR placeR r2 k).1 ++ [(placeR (manyR placeR r2 k).2).1], (placeR (manyR placeR r2 k).2).2)) := Lib.hid rfl
              generalize (manyR placeR r2 k).1 = zs at *
              generalize (manyR placeR r2 k).2 = q0 at *
              obtain ⟨x, q1, hx⟩ : ∃ x q1, numR 8 q0 = (x, q1) := ⟨_, _, rfl⟩
              obtain ⟨y, q2, hy⟩ : ∃ y q2, numR 1024 q1 = (y, q2) := ⟨_, _, rfl⟩
              have hp : placeR q0 = ((x, y), q2) := by unfold placeR; rw [hx]; dsimp only; rw [hy]
              rw [hp] at HNX
              have kx := fun W (h : Duo W gR (.string q0.1) (.bool q0.2)) => ranum_is gR q0.1 q0.2 8 x q1.1 q1.2 W h (by decide) hx
              have ky := fun W (h : Duo W gR (.string q1.1) (.bool q1.2)) => ranum_is gR q1.1 q1.2 1024 y q2.1 q2.2 W h (by decide) hy
              unfold ReadPost18 at kx ky
              have HU := Lib.hid hU
              have hz16 : zs.length ≤ 16 := by omega
              have HZL := Lib.hid hzl
              clear hU hx hy hp hzl
              go_upto_region 15 with fail
              refine wp_lay [(56, []), (57, [56]), (58, []), (59, [58]), (60, []), (61, [59, 60]), (62, [59, 61]), (63, [62]), (64, [57, 63]), (65, [])]
                (FillW (fun a b W => (b = true → a = true) ∧ AirUp w B gr gR gA (if b = true then q2 else if a = true then q1 else q0) c l v2 v3 v v2 v3 v xs ys zs W) (fun u W => AirUp w B gr gR gA q2 c l v2 v3 v v2 v3 u xs ys (zs ++ [(x, y)]) W) 59 61 62 63 64 [.int .i64 x, .int .i64 y] [56, 57, 58, 59, 60, 61, 62, 65] (FillVal4 gA gR v x y)) (by kernel_rfl) (by kernel_rfl) (fun σ => FillW.start ⟨fun h => absurd h Bool.false_ne_true, by simpa using HU.out.keep ((Below.refl _ _).drew)⟩ σ) ?_ ?_
              · refine opsw_cons ?_ (opsw_cons ?_ (opsw_cons ?_ (opsw_cons ?_ (opsw_cons ?_ (opsw_cons ?_ (opsw_cons ?_ (opsw_cons ?_ (opsw_cons ?_ (opsw_cons ?_ opsw_nil)))))))))
                all_goals
                  refine OpRunsW.any ?_
                  intro Q0 D σ W K hW hd hn hK
                  simp only [fill, List.map, Act.put, List.setIfInBounds_toArray, List.set_cons_zero, List.set_cons_succ] at hK ⊢
                · have HW := Lib.hid hW
                  clear hW
                  go_simp
                  exact hK _ _ (HW.out.next (by decide) rfl (fun h => absurd h (by decide)))
                · have h56 : σ 56 = _ := hW.sv 56 (by decide) (hn 56 (by decide))
                  unfold FillVal4 at h56
                  simp only [h56] at hK
                  have c0 : W.cell? ⟨gA, 4, none⟩ = some v := by
                    cases e : D 64 with
                    | true => exact (hW.post e).a.1.2.2.2.2
                    | false => exact (hW.st e).2.a.1.2.2.2.2
                  have HW := Lib.hid hW
                  clear hW
                  go_simp
                  exact hK _ _ (HW.out.next (by decide) rfl (fun h => absurd h (by decide)))
                · have HW := Lib.hid hW
                  clear hW
                  go_simp
                  exact hK _ _ (HW.out.next (by decide) rfl (fun h => absurd h (by decide)))
                · have h58 : σ 58 = _ := hW.sv 58 (by decide) (hn 58 (by decide))
                  unfold FillVal4 at h58
                  simp only [h58] at hK
                  have hs := hW.st (hW.open_c (.inl rfl) hd).2
                  have h61 : D 61 = false := by cases e : D 61 with | false => rfl | true => exact absurd (hs.1 e) (by simp [hd])
                  have hs2 := hs.2
                  rw [hd, h61] at hs2
                  simp only [Bool.false_eq_true, if_false] at hs2
                  have HS := Lib.hid hs2
                  have HH := Lib.hid (And.intro hd h61)
                  have HW := Lib.hid hW
                  clear hW hs hs2 hd h61
                  go_simp
                  go_at_call 32
                  with_reducible refine (kx _ HS.out.rd).mono ?_
                  rintro e w2 ⟨rfl, hD2, hg2⟩
                  refine hK _ _ (HW.out.call (.inl rfl) HH.out.1 (by decide) (by decide) rfl ?_)
                  rw [if_pos rfl, if_neg (by decide), HH.out.2]
                  exact ⟨fun h => absurd h Bool.false_ne_true, by simpa using HS.out.read (q' := q1) HB.out hD2 hg2⟩
                · have HW := Lib.hid hW
                  clear hW
                  go_simp
                  exact hK _ _ (HW.out.next (by decide) rfl (fun h => absurd h (by decide)))
                · have h60 : σ 60 = _ := hW.sv 60 (by decide) (hn 60 (by decide))
                  unfold FillVal4 at h60
                  simp only [h60] at hK
                  have h59 := hn 59 (by decide)
                  have hs2 := (hW.st (hW.open_c (.inr rfl) hd).2).2
                  rw [hd, h59] at hs2
                  simp only [Bool.false_eq_true, if_false, if_true] at hs2
                  have HS := Lib.hid hs2
                  have HH := Lib.hid (And.intro hd h59)
                  have HW := Lib.hid hW
                  clear hW hs2 hd h59
                  go_simp
                  go_at_call 32
                  with_reducible refine (ky _ HS.out.rd).mono ?_
                  rintro e w2 ⟨rfl, hD2, hg2⟩
                  refine hK _ _ (HW.out.call (.inr rfl) HH.out.1 (by decide) (by decide) rfl ?_)
                  rw [show (if (59 : Nat) = 61 then true else D 59) = true by rw [if_neg (by decide)]; exact HH.out.2, if_pos (rfl : (61 : Nat) = 61)]
                  exact ⟨fun _ => rfl, by simpa using HS.out.read (q' := q2) HB.out hD2 hg2⟩
                · have h59 : σ 59 = _ := hW.sv 59 (by decide) (hn 59 (by decide))
                  have h61 : σ 61 = _ := hW.sv 61 (by decide) (hn 61 (by decide))
                  unfold FillVal4 at h59 h61
                  simp only [h59, h61] at hK
                  have HN := Lib.hid (And.intro (hn 59 (by decide)) (hn 61 (by decide)))
                  have HW := Lib.hid hW
                  clear hW
                  go_simp
                  exact hK _ _ (HW.out.next (by decide) rfl (fun _ => HN.out))
                · have h62 : σ 62 = _ := hW.sv 62 (by decide) (hn 62 (by decide))
                  unfold FillVal4 at h62
                  simp only [h62] at hK
                  obtain ⟨h59, h61⟩ := hW.o3 (hn 62 (by decide))
                  have hs2 := (hW.st (hW.open_b hd)).2
                  rw [h59, h61] at hs2
                  have HS := Lib.hid hs2
                  have HH := Lib.hid (And.intro hd (And.intro h59 h61))
                  have HW := Lib.hid hW
                  clear hW hs2 hd h59 h61
                  go_simp
                  exact hK _ _ (HW.out.build HH.out.1 HH.out.2.1 HH.out.2.2 (by decide) (by decide) (two_src (by simp [go_sem]) (by simp [go_sem])) ⟨fun _ => rfl, HS.out.keep ((Below.refl _ _).alloc (Nat.le_refl _) _)⟩)
                · have h57 : σ 57 = _ := hW.sv 57 (by decide) (hn 57 (by decide))
                  unfold FillVal4 at h57
                  have hb := hn 63 (by decide)
                  obtain ⟨g6, h6, hcell⟩ := hW.li hd hb
                  have hs := (hW.st hd).2
                  rw [(hW.o1 hb).1, (hW.o1 hb).2] at hs
                  simp only [if_true] at hs
                  rw [if_pos (by rfl)]
                  refine wp_append_at3 (.tmp 57) (.tmp 63) 23 (by rfl) B 48 i1 (.agg #[.int .i64 0, .int .i64 0]) 2 16 Try.underlying23 ki kz0 kz1 kz2 rfl (by decide) v zs.length (flatI zs) (by exact h57) hs.o4 (some ⟨g6, 0, none⟩) 1 1 [.int .i64 x, .int .i64 y] (by exact h6) rfl (fun h => by cases h) (fun h => by cases h) (by rintro ad e; cases e; exact hcell) (by intro u hu; simp at hu; rcases hu with rfl | rfl <;> rfl) (by unfold maxLen; omega) (by omega) hs.lt ?_
                  intro v' w' q1' q2' q3'
                  exact hK _ _ (hW.app hb (by decide) (by decide) (hs.app4 (b := (x, y)) HB.out q1' q2'))
                · have HW := Lib.hid hW
                  clear hW
                  go_simp
                  exact hK _ _ (HW.out.next (by decide) rfl (fun h => absurd h (by decide)))
              · intro D σ W hW hD
                have hu := hW.post (hD 64 (by decide))
                have h65 : σ 65 = _ := hW.sv 65 (by decide) (hD 65 (by decide))
                unfold FillVal4 at h65
                obtain ⟨u, hsu⟩ : ∃ u, σ 64 = u := ⟨_, rfl⟩
                rw [hsu] at hu
                obtain ⟨M, hM⟩ : ∃ M, (zs ++ [(x, y)]).length = M := ⟨_, rfl⟩
                obtain ⟨ua, uc, hu'⟩ := own_form hu.o4
                rw [hM] at hu'
                subst hu'
                clear hM
                have f4 := hu.a.2.2.2.2.2
                have cc := hu.a.1.2.2.2.2
                have HU3 := Lib.hid (hu.store HB.out 4 (.slice ua M uc) v2 v3 (.slice ua M uc) (hu.a.set4 (.slice ua M uc)))
                clear hW hD HU kx ky hu
                simp only [fill, List.map, Act.put, List.setIfInBounds_toArray, List.set_cons_zero, List.set_cons_succ, List.length_cons, List.length_nil, List.drop_succ_cons, List.drop_zero, Nat.reduceAdd, h65, hsu]
                clear h65 hsu
                go_wp2_with fail
                go_roundw
                case rel => exact ⟨k + 1, .slice ua M uc, by omega, by go_num, by rw [HNX.out]; exact HU3.out⟩
                case measure => simp [intOf]; omega
            · obtain rfl : k = n4 := by omega
              obtain ⟨zs, hzs⟩ : ∃ zs, (manyR placeR r2 k).1 = zs := ⟨_, rfl⟩
              obtain ⟨q3, hq3⟩ : ∃ q, (manyR placeR r2 k).2 = q := ⟨_, rfl⟩
              have hmz : manyR placeR r2 k = (zs, q3) := Prod.ext hzs hq3
              rw [hzs, hq3] at hU
              have hzl2 : zs.length = k := by rw [← hzs, manyR_len]
              have hread : readA s = (⟨c, l, xs, ys, zs⟩, q3) := by
                unfold readA
                rw [HH.out]
                dsimp only
                simp only [Int.toNat_natCast]
                rw [HX.out]
                dsimp only
                rw [HY.out]
                dsimp only
                rw [hmz]
              have HP : Hid ((if q3.2 = true ∨ q3.1.size ≠ 0 then (airZ, 2) else if (AirP.mk c l xs ys zs).check ≠ 0 then (airZ, (AirP.mk c l xs ys zs).check) else (AirP.mk c l xs ys zs, 0)) = (A, r)) := Lib.hid (by rw [← HR.out]; unfold parseA; rw [hread])
              have hxs4 := HX4.out; have hys4 := HY4.out
              have hzs4 : ∀ b ∈ zs, (0 ≤ b.1 ∧ b.1 ≤ 8) ∧ (0 ≤ b.2 ∧ b.2 ≤ 1024) := by
                have := manyR_all (f := placeR) (P := fun b => (0 ≤ b.1 ∧ b.1 ≤ 8) ∧ (0 ≤ b.2 ∧ b.2 ≤ 1024)) (fun r => ⟨numR_bd (by decide) _, numR_bd (by decide) _⟩) r2 k
                rw [hmz] at this
                exact this
              have HOK : Hid (OkAir ⟨c, l, xs, ys, zs⟩) := Lib.hid ⟨by show _ ≤ c ∧ c ≤ _; omega, by show _ ≤ l ∧ l ≤ _; omega, fun t ht => by have := hxs4 t ht; omega, fun t ht => by have := hys4 t ht; omega, fun b hb => by have := hzs4 b hb; omega⟩
              have HFW : Hid (FewAir ⟨c, l, xs, ys, zs⟩) := Lib.hid ⟨by show xs.length ≤ 40; have := HXL.out; omega, by show ys.length ≤ 40; have := HYL.out; omega, by show zs.length ≤ 40; omega⟩
              have HGB : Hid (gr < B) := Lib.hid (by have := HB.out.r1; have := HB.out.r2; have := HB.out.r3; omega)
              have HGR : Hid (w.heap.size ≤ gr) := Lib.hid HB.out.r0
              obtain ⟨rest, bad⟩ := q3
              have HU3 := Lib.hid hU
              obtain ⟨sa, sc, rfl, hS2⟩ := own_strA hU.o2
              obtain ⟨ra, rc, rfl, hS3⟩ := own_strA hU.o3
              obtain ⟨ba, bc', rfl, hS4⟩ := own_boundA hU.o4
              have HAA : Hid (AirA wr ⟨c, l, xs, ys, zs⟩ ⟨sa, sc, ra, rc, ba, bc'⟩) := Lib.hid ⟨hS2, hS3, hS4, own_cap hU.o4⟩
              obtain ⟨d0, d1, g0, g1⟩ := hU.rd
              obtain ⟨⟨a0, a1, a2, a3, a4⟩, _⟩ := hU.a
              obtain ⟨⟨r0c, r1c, r2c, r3c, r4c⟩, e0, e1, e2, e3, e4⟩ := hU.r
              obtain ⟨ck, hck⟩ : ∃ e, (AirP.mk c l xs ys zs).check = e := ⟨_, rfl⟩
              rw [hck] at HP
              have HCK := Lib.hid hck
              have kc : ∀ W, AirA W ⟨c, l, xs, ys, zs⟩ ⟨sa, sc, ra, rc, ba, bc'⟩ → Calls Try.prog 13 #[.agg #[.int .i64 c, .int .i64 l, .slice sa xs.length sc, .slice ra ys.length rc, .slice ba zs.length bc']] W fun e w' => e = .returned (.int .i64 ck) ∧ Below W.heap.size W w' := fun W h => racheck_is ⟨c, l, xs, ys, zs⟩ ⟨sa, sc, ra, rc, ba, bc'⟩ ck W h HOK.out HFW.out hck
              clear hck hzl2 hread hxs4 hys4 hzs4 hmz hzs hq3 hU hS2 hS3 hS4 HR HH HX HY hzl hr1 hr2 hr0 bc bl bs br bb
              dsimp only at d0 d1
              cases bad with
              | true =>
                obtain ⟨rfl, rfl⟩ := Prod.mk.inj ((if_pos (.inl rfl)).symm.trans HP.out)
                clear HP kc
                go_wp2_with fail
                exact bodyPost_ret (v := .tuple #[.agg #[.int .i64 0, .int .i64 0, .slice none 0 0, .slice none 0 0, .slice none 0 0], .int .i64 2]) (by simp [results, Try.results22, go_sem, r0c, r1c, r2c, r3c, r4c]) rfl ⟨((((HU3.out.bel.setCell HGR.out _).setCell HGR.out _).setCell HGR.out _).setCell HGR.out _).setCell HGR.out _, ⟨none, 0, none, 0, none, 0⟩, rfl, airA_nil _⟩
              | false =>
                by_cases hz : rest.size = 0
                · obtain rfl : rest = noText := byt_ext _ _ hz fun j hj => by omega
                  have HP2 := Lib.hid ((if_neg (fun h => h.elim (fun h => by cases h) (fun h => h rfl))).symm.trans HP.out)
                  clear HP hz
                  have hie := empty_text
                  go_upto_region 19 with (go_at_call 13; (with_reducible refine (kc _ HAA.out).mono ?_); rintro e w8 ⟨rfl, hb⟩)
                  have HU8 := Lib.hid (HU3.out.keep hb)
                  have HA8 := Lib.hid (HAA.out.keep hb)
                  obtain ⟨⟨a0, a1, a2, a3, a4⟩, _⟩ := HU8.out.a
                  obtain ⟨⟨r0c, r1c, r2c, r3c, r4c⟩, e0, e1, e2, e3, e4⟩ := HU8.out.r
                  clear hb kc d0 d1 g0 g1
                  by_cases hc0 : ck = 0
                  · subst hc0
                    obtain ⟨rfl, rfl⟩ := Prod.mk.inj ((if_neg (by simp)).symm.trans HP2.out)
                    clear HP2
                    go_wp2_with fail
                    exact bodyPost_ret (v := .tuple #[.agg #[.int .i64 c, .int .i64 l, .slice sa xs.length sc, .slice ra ys.length rc, .slice ba zs.length bc'], .int .i64 0]) (by simp [results, Try.results22, go_sem, r0c, r1c, r2c, r3c, r4c]) rfl ⟨((((HU8.out.bel.setCell HGR.out _).setCell HGR.out _).setCell HGR.out _).setCell HGR.out _).setCell HGR.out _, ⟨sa, sc, ra, rc, ba, bc'⟩, rfl, airA_own (own_set5 HU8.out.o2 HGB.out) (own_set5 HU8.out.o3 HGB.out) (own_set5 HU8.out.o4 HGB.out)⟩
                  · obtain ⟨rfl, rfl⟩ := Prod.mk.inj ((if_pos hc0).symm.trans HP2.out)
                    clear HP2
                    go_wp2_with fail
                    exact bodyPost_ret (v := .tuple #[.agg #[.int .i64 0, .int .i64 0, .slice none 0 0, .slice none 0 0, .slice none 0 0], .int .i64 ck]) (by simp [results, Try.results22, go_sem, r0c, r1c, r2c, r3c, r4c]) rfl ⟨((((HU8.out.bel.setCell HGR.out _).setCell HGR.out _).setCell HGR.out _).setCell HGR.out _).setCell HGR.out _, ⟨none, 0, none, 0, none, 0⟩, rfl, airA_nil _⟩
                · obtain ⟨rfl, rfl⟩ := Prod.mk.inj ((if_pos (.inr hz)).symm.trans HP.out)
                  have hie := some_text hz
                  clear HP kc hz
                  go_wp2_with fail
                  exact bodyPost_ret (v := .tuple #[.agg #[.int .i64 0, .int .i64 0, .slice none 0 0, .slice none 0 0, .slice none 0 0], .int .i64 2]) (by simp [results, Try.results22, go_sem, r0c, r1c, r2c, r3c, r4c]) rfl ⟨((((HU3.out.bel.setCell HGR.out _).setCell HGR.out _).setCell HGR.out _).setCell HGR.out _).setCell HGR.out _, ⟨none, 0, none, 0, none, 0⟩, rfl, airA_nil _⟩
end Go.Proofs.Ytckipfcjgmiacaa
