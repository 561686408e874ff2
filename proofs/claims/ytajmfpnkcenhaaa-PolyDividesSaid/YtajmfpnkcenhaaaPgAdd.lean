/-
  What the program's Add of package poly comes to: a contract for the walk. (Written by gen_pg1.py.)
-/
import Derived.Test.YtajmfpnkcenhaaaPgTrim
import Derived.Test.YtajmfpnkcenhaaaPgScale
import Derived.Test.YtajmfpnkcenhaaaCopy
namespace Go.Proofs.Ytajmfpnkcenhaaa
open Go.RowKit
set_option linter.unusedVariables false

def PgAddR (g n k : Nat) (o0 o1 z0 z1 m0 m1 : Int) (sl : Nat) (v : Value) (W : World) : Prop :=
  match sl with
  | 24 => v = .slice (some ⟨g, 0, none⟩) n n
  | 25 => v = .int .i64 k
  | 26 => v = .slice (some ⟨g, 0, none⟩) n n
  | 27 => v = .int .i64 k
  | 28 => v = .pointer (some ⟨g, k * 2, none⟩)
  | 29 => v = .agg #[.int .u64 o0, .int .u64 o1]
  | 30 => v = .agg #[.int .u64 z0, .int .u64 z1]
  | 31 => v = .agg #[.int .u64 m0, .int .u64 m1]
  | _ => v = .pointer (some ⟨g, k * 2, none⟩)
theorem PgAddR.keep {g n k : Nat} {o0 o1 z0 z1 m0 m1 : Int} {sl : Nat} {v : Value} {W W' : World} (h : PgAddR g n k o0 o1 z0 z1 m0 m1 sl v W) (hb : Below W.heap.size W W') : PgAddR g n k o0 o1 z0 z1 m0 m1 sl v W' := h

/-- A row of raw pairs, its first m made sums. -/
def prx (x : Nat → Int × Int) (f : Nat → F2) (m j : Nat) : Int × Int := if j < m then encP (f j) else x j
theorem prx_step {x : Nat → Int × Int} {f : Nat → F2} {m : Nat} {y : F2} (hy : f m = y) : ∀ j, (if j = m then (enc y.a, enc y.b) else prx x f m j) = prx x f (m + 1) j := by
  intro j
  unfold prx
  by_cases h : j = m
  · subst h; rw [if_pos rfl, if_pos (by omega), hy]; rfl
  · rw [if_neg h]
    by_cases h2 : j < m
    · rw [if_pos h2, if_pos (by omega)]
    · rw [if_neg h2, if_neg (by omega)]
theorem prx_zero (x : Nat → Int × Int) (f : Nat → F2) (j : Nat) : prx x f 0 j = x j := if_neg (Nat.not_lt_zero _)
/-- A row of raw pairs that a call made, as a polynomial. -/
theorem Arr.poly {W : World} {g n c : Nat} {x : Nat → Int × Int} {f : Nat → F2} (h : Arr W g (n * 2) (pc x)) (hx : ∀ j, j < n → Rep (x j).1 (x j).2 (f j)) (h1 : n ≤ c) (h2 : c ≤ maxLen) : Poly W (.slice (some ⟨g, 0, none⟩) n c) (mk n f) := by
  refine ⟨(List.range n).map x, Or.inr (Or.inr ⟨g, 0, c, by simp, by simpa using h1, h2, fun i hi => ?_⟩), fun z hz => ?_, ?_⟩
  · have hi' : i < n := by simpa using hi
    have e : ((List.range n).map x).getD i (0, 0) = x i := by simp [List.getD, hi']
    rw [e, Nat.zero_add]
    exact ⟨(h.cells i hi').1, (h.cells i hi').2.1⟩
  · obtain ⟨j, hj, rfl⟩ := List.mem_map.1 hz
    have := hx j (List.mem_range.1 hj)
    exact ⟨this.1, this.2.1⟩
  · unfold mk
    rw [List.map_map]
    refine List.map_congr_left fun j hj => ?_
    have := hx j (List.mem_range.1 hj)
    exact F2.eq this.2.2.1 this.2.2.2
theorem ptrim_raw {n : Nat} {f : Nat → F2} (h : Upto n f) (hn : n ≤ 4294967296) (W : World) (g : Nat) {x : Nat → Int × Int} (hA : Arr W g (n * 2) (pc x)) (hx : ∀ j, j < n → Rep (x j).1 (x j).2 (f j)) : Calls Try.prog 19 #[.slice (some ⟨g, 0, none⟩) n n] W (RetA (pl n f) W) := by
  have := ptrim_new _ (mk n f) W (hA.poly hx (Nat.le_refl _) (by unfold maxLen; omega)) (by rw [mk_len]; exact hn)
  have e : trimP (mk n f) = pl n f := pl_mk h
  rwa [e] at this
theorem cop_flat (zs : List (Int × Int)) (j : Nat) : cop (pc fun _ => (0, 0)) 0 (flat zs) j = pc (fun i => zs.getD i (0, 0)) j := by
  unfold cop
  rw [flat_length, Nat.sub_zero]
  by_cases h : j < zs.length * 2
  · rw [if_pos (by omega)]
    have hi : j / 2 < zs.length := by omega
    obtain ⟨e0, e1⟩ := flat_at zs (j / 2) hi
    unfold pc
    by_cases c : j % 2 = 0
    · rw [if_pos c]
      rw [show j / 2 * 2 = j by omega] at e0
      rw [List.getD, e0]; rfl
    · rw [if_neg c]
      rw [show j / 2 * 2 + 1 = j by omega] at e1
      rw [List.getD, e1]; rfl
  · rw [if_neg (by omega)]
    have : zs.getD (j / 2) (0, 0) = (0, 0) := by rw [List.getD, List.getElem?_eq_none (by omega)]; rfl
    unfold pc
    simp only [this]
theorem rep_getD {zs : List (Int × Int)} (hu : ∀ n ∈ zs, U n.1 ∧ U n.2) (j : Nat) : Rep (zs.getD j (0, 0)).1 (zs.getD j (0, 0)).2 (cq (zs.map toQ) j) := by
  by_cases h : j < zs.length
  · have hu := UU_getD hu j h
    have : cq (zs.map toQ) j = toQ (zs.getD j (0, 0)) := by unfold cq; simp [List.getD, h]
    rw [this]
    exact rep_raw hu.1 hu.2
  · have e1 : zs.getD j (0, 0) = (0, 0) := by rw [List.getD, List.getElem?_eq_none (by omega)]; rfl
    have e2 : cq (zs.map toQ) j = 0 := cq_upto _ _ (by simp; omega)
    rw [e1, e2]; exact rep_zero
def PgAddUp (w : World) (n lb : Nat) (x : Nat → Int × Int) (f : Nat → F2) (i : Value) (W : World) : Prop :=
  ∃ m : Nat, m ≤ lb ∧ i = .int .i64 m ∧ Below w.heap.size w W ∧ Arr W w.heap.size (n * 2) (pc (prx x f m))
theorem qrow_src {W : World} {a : Option Addr} {len : Nat} {zs : List (Int × Int)} (h : QRowA W a len zs) (h0 : 0 < len) : ∃ ad, a = some ad ∧ ∀ j v, (flat zs)[j]? = some v → W.cell? (ad.add j) = some v := by
  obtain ⟨hl, hm, hc⟩ := h
  obtain ⟨b, off, rfl, _⟩ := hc 0 h0
  refine ⟨_, rfl, fun j v hv => ?_⟩
  have hj : j < zs.length * 2 := by
    have := (List.getElem?_eq_some_iff.1 hv).1
    rwa [flat_length] at this
  have hi : j / 2 < zs.length := by omega
  obtain ⟨e0, e1⟩ := flat_at zs (j / 2) hi
  obtain ⟨b', off', he, c0, c1⟩ := hc (j / 2) (by omega)
  cases he
  rw [Addr.add_lit]
  by_cases c : j % 2 = 0
  · rw [show j / 2 * 2 = j by omega] at e0 c0
    rw [hv] at e0
    rw [c0]; exact e0.symm
  · rw [show j / 2 * 2 + 1 = j by omega] at e1
    rw [show off + j / 2 * 2 + 1 = off + j by omega] at c1
    rw [hv] at e1
    rw [c1]; exact e1.symm
set_option maxHeartbeats 8000000 in
theorem padd_core (a b : Option Addr) (la lb ca cb n : Nat) (zs : List (Int × Int)) (l m : List F2) (w : World) (h1 : QRow w (.slice a la ca) zs) (hzu : ∀ n ∈ zs, U n.1 ∧ U n.2) (hzl : zs.map toQ = l) (h2 : Poly w (.slice b lb cb) m) (hla : la ≤ 4294967296) (hlb : lb ≤ 4294967296) (hn : (la < lb ∧ lb = n) ∨ (lb ≤ la ∧ la = n)) :
    Calls Try.prog 11 #[.slice a la ca, .slice b lb cb] w (RetA (addP l m) w) := by
  obtain ⟨e2, hm2, hc2⟩ := h2.at
  have h1a := h1.at
  have hlen : zs.length = la := h1a.1
  have ell : l.length = la := by rw [← hzl, List.length_map]; exact hlen
  have HTR : Hid (∀ (W : World) (g : Nat) (x : Nat → Int × Int), Arr W g (n * 2) (pc x) → (∀ j, j < n → Rep (x j).1 (x j).2 (cq l j + cq m j)) → Calls Try.prog 19 #[.slice (some ⟨g, 0, none⟩) n n] W (RetA (addP l m) W)) := Lib.hid (fun W g x hA hx => by
    have := ptrim_raw (addP_upto l m (n := n) (by omega) (by omega)) (by omega) W g hA hx
    rwa [addP_is l m (by omega) (by omega)] at this)
  have HRX : Hid (∀ j, Rep (zs.getD j (0, 0)).1 (zs.getD j (0, 0)).2 (cq l j)) := Lib.hid (fun j => by rw [← hzl]; exact rep_getD hzu j)
  have HMU := Lib.hid (e2 ▸ cq_upto m : Upto lb (cq m))
  have HLEN := Lib.hid hlen
  have HRA := Lib.hid h1a
  have HD := Lib.hid hc2
  unfold maxLen at hm2
  generalize addP l m = res at *
  generalize cq l = f at *
  generalize cq m = h at *
  clear hc2 h1 h1a h2 e2 ell hzl hzu hlen
  rcases hn with ⟨hcI, rfl⟩ | ⟨hcI, rfl⟩
  · have hcJ : (la : Int) < (lb : Int) := by omega
    go_enter Try.func11, Try.ntmps11
    have hmk := fun W => run_make_pairs (P := Try.prog) 22 25 (.agg #[.int .u64 0, .int .u64 0]) Try.underlying22 infoQ5 rfl lb (by omega) W
    go_upto_region 2 with fail
    clear hmk
    have hA0 := Arr.newq w lb 25
    have hB0 := (Below.refl w.heap.size w).alloc (Nat.le_refl _) (.cells (madeCells #[.int .u64 0, .int .u64 0] (lb * 2)) 25)
    have hRB := HRA.out.keep hB0
    go_upto_region 4 with (refine wpList_copy_arr rfl (.tmp 14) (.tmp 15) 22 22 rfl 25 Try.underlying22 2 (by kernel_rfl) w.heap.size (lb * 2) 0 lb lb la ca a rfl rfl la (by simp only [Nat.min_def]; rw [if_pos (by omega)]) (flat zs) (by rw [flat_length, HLEN.out]) _ hA0 (fun h0 => qrow_src hRB h0) (fun h0 => by rw [← List.length_eq_zero_iff, flat_length, HLEN.out]; omega) (by rw [flat_length, HLEN.out]; omega) (by intro u hu; obtain ⟨x, _, hx⟩ := List.mem_flatMap.1 hu; simp at hx; rcases hx with rfl | rfl <;> rfl) ?_; intro w2 hb2 hA2)
    have hA3 := hA2.out.same (fun j _ => cop_flat zs j)
    have hB3 : Below w.heap.size w w2 := But.below hB0 hb2.out (Nat.le_refl _) hB0.size
    clear hA0 hB0 hRB hA2 hb2
    generalize hxx : (fun i => zs.getD i (0, 0)) = x at *
    have HRX2 : Hid (∀ j, Rep (x j).1 (x j).2 (f j)) := Lib.hid (by rw [← hxx]; exact HRX.out)
    clear hxx HRX
    go_loopw [19] (PgAddUp w lb lb x (fun j => f j + h j)) (fun i _ => lb - (intOf i).toNat)
    case atStart => exact ⟨0, Nat.zero_le _, rfl, hB3, hA3.same (pc_same fun i _ => (prx_zero _ _ i).symm)⟩
    case round =>
      clear hB3 hA3
      obtain ⟨k, hk, rfl, hB, hA⟩ := hrel
      by_cases hlt : k < lb
      · obtain ⟨b2, off2, z0, z1, rfl, g0, g1, hS⟩ := HD.out k hlt
        replace g0 := bkeep hB g0
        replace g1 := bkeep hB g1
        obtain ⟨y, hy⟩ : ∃ y, f k + h k = y := ⟨_, rfl⟩
        have m1 := padd_q (x k).1 (x k).2 z0 z1 (f k) (h k) y (HRX2.out k) hS hy
        have HST := Lib.hid (prx_step (x := x) (f := fun j => f j + h j) (m := k) hy)
        have hk1 : (k : Int) < (lb : Int) := by omega
        have hk0 : (0 : Int) ≤ (k : Int) := by omega
        have hkn : k < lb := by omega
        have hk2 : (k : Int) < ((lb : Nat) : Int) := by omega
        have hz : prx x (fun j => f j + h j) k k = x k := if_neg (Nat.lt_irrefl _)
        clear hS hy
        go_upto_region 6 with fail
        refine wp_gen (fun W => Below w.heap.size w W ∧ Arr W w.heap.size (lb * 2) (pc (prx x (fun j => f j + h j) k)) ∧ Var W wr.heap.size z0 z1) ⟨hB.alloc hB.size _, hA.alloc _, Var.new _ _ _ _⟩ ?_
        clear hB hA g0 g1
        rintro W1 ⟨hB, hA, ⟨y0c, y1c, _, _⟩⟩
        have HB := Lib.hid hB; have HA := Lib.hid hA
        obtain ⟨o0c, o1c, _, _⟩ := hA.cells k hkn
        rw [hz] at o0c o1c
        clear hB hA hz
        refine wp_loose [(24, []), (25, []), (26, []), (27, []), (28, [26, 27]), (29, [28]), (30, []), (31, [29, 30]), (32, [24, 25])]
          (PgAddR w.heap.size lb k (x k).1 (x k).2 z0 z1 (enc y.a) (enc y.b)) (fun d => false) (by kernel_rfl) (by kernel_rfl) (fun _ _ _ _ h hb => h.keep hb) ?_ ?_
        · refine opsrun_cons ?_ (opsrun_cons ?_ (opsrun_cons ?_ (opsrun_cons ?_ (opsrun_cons ?_ (opsrun_cons ?_ (opsrun_cons ?_ (opsrun_cons ?_ (opsrun_cons ?_ opsrun_nil))))))))
          all_goals
            refine OpRuns.any ?_
            intro Q0 σ W' K hb hn hK
            simp only [fill, List.map, Act.put, List.setIfInBounds_toArray, List.set_cons_zero, List.set_cons_succ] at hK ⊢
          · clear hn
            go_simp
            exact hK _ _ rfl (Below.refl _ _) (fun h => absurd h (by decide))
          · clear hn
            go_simp
            exact hK _ _ rfl (Below.refl _ _) (fun h => absurd h (by decide))
          · clear hn
            go_simp
            exact hK _ _ rfl (Below.refl _ _) (fun h => absurd h (by decide))
          · clear hn
            go_simp
            exact hK _ _ rfl (Below.refl _ _) (fun h => absurd h (by decide))
          · have h26 : σ 26 = _ := hn 26 (by decide)
            have h27 : σ 27 = _ := hn 27 (by decide)
            clear hn
            simp only [h26, h27] at hK
            go_simp
            exact hK _ _ rfl (Below.refl _ _) (fun h => absurd h (by decide))
          · have h28 : σ 28 = _ := hn 28 (by decide)
            clear hn
            simp only [h28] at hK
            have o0c' := bkeep hb o0c
            have o1c' := bkeep hb o1c
            clear o0c o1c
            go_simp
            exact hK _ _ rfl (Below.refl _ _) (fun h => absurd h (by decide))
          · clear hn
            have y0c' := bkeep hb y0c
            have y1c' := bkeep hb y1c
            clear y0c y1c
            go_simp
            exact hK _ _ rfl (Below.refl _ _) (fun h => absurd h (by decide))
          · have h29 : σ 29 = _ := hn 29 (by decide)
            have h30 : σ 30 = _ := hn 30 (by decide)
            clear hn
            simp only [h29, h30] at hK
            go_simp
            go_at_call 33
            refine (m1 _).mono ?_
            rintro e w1 ⟨rfl, hb1⟩
            exact hK _ _ rfl hb1 (fun h => absurd h (by decide))
          · have h24 : σ 24 = _ := hn 24 (by decide)
            have h25 : σ 25 = _ := hn 25 (by decide)
            clear hn
            simp only [h24, h25] at hK
            go_simp
            exact hK _ _ rfl (Below.refl _ _) (fun h => absurd h (by decide))
        · intro σ W' hb hR' hF
          have h31 : σ 31 = _ := hR' 31 (by decide)
          have h32 : σ 32 = _ := hR' 32 (by decide)
          replace HB := Lib.hid (bthen HB.out hb)
          have hA := HA.out.keep hb
          obtain ⟨c0, c1, f0, f1⟩ := hA.cells k hkn
          have HA2 := Lib.hid ((hA.setq k (enc y.a) (enc y.b) hkn).same (pc_same fun j _ => HST.out j))
          clear hR' hF hA o0c o1c y0c y1c hb m1
          simp only [fill, List.map, Act.put, List.setIfInBounds_toArray, List.set_cons_zero, List.set_cons_succ, List.length_cons, List.length_nil, List.drop_succ_cons, List.drop_zero, Nat.reduceAdd, h31, h32]
          clear h31 h32
          go_wp2_with fail
          go_roundw
          case rel => exact ⟨k + 1, by omega, by go_num, (HB.out.setCell (Nat.le_refl _) _).setCell (Nat.le_refl _) _, HA2.out⟩
          case measure => simp [intOf]; omega
      · have hkn : k = lb := by omega
        subst hkn
        have T := HTR.out wr _ _ hA (fun j hj => by
          unfold prx
          by_cases hc : j < k
          · rw [if_pos hc]; exact rep_enc _
          · rw [if_neg hc, HMU.out j (by omega), F2.add_zero]; exact HRX2.out j)
        have HB := Lib.hid hB
        clear hA hB
        go_wp2_with ((go_at_call 19; ((with_reducible refine T.mono ?_); rintro e w1 ⟨g, rfl, hg, hb, hA⟩; have HB2 := Lib.hid (bthen HB.out hb); have HA := Lib.hid hA; have HG := Lib.hid (Nat.le_trans HB.out.size hg); clear hb hA hg T)))
        go_ret
        exact ⟨_, rfl, HG.out, HB2.out, HA.out⟩
  · have hcJ : (lb : Int) ≤ (la : Int) := by omega
    go_enter Try.func11, Try.ntmps11
    have hmk := fun W => run_make_pairs (P := Try.prog) 22 25 (.agg #[.int .u64 0, .int .u64 0]) Try.underlying22 infoQ5 rfl la (by omega) W
    go_upto_region 2 with fail
    clear hmk
    have hA0 := Arr.newq w la 25
    have hB0 := (Below.refl w.heap.size w).alloc (Nat.le_refl _) (.cells (madeCells #[.int .u64 0, .int .u64 0] (la * 2)) 25)
    have hRB := HRA.out.keep hB0
    go_upto_region 4 with (refine wpList_copy_arr rfl (.tmp 14) (.tmp 15) 22 22 rfl 25 Try.underlying22 2 (by kernel_rfl) w.heap.size (la * 2) 0 la la la ca a rfl rfl la (by simp only [Nat.min_def]; rw [if_pos (by omega)]) (flat zs) (by rw [flat_length, HLEN.out]) _ hA0 (fun h0 => qrow_src hRB h0) (fun h0 => by rw [← List.length_eq_zero_iff, flat_length, HLEN.out]; omega) (by rw [flat_length, HLEN.out]; omega) (by intro u hu; obtain ⟨x, _, hx⟩ := List.mem_flatMap.1 hu; simp at hx; rcases hx with rfl | rfl <;> rfl) ?_; intro w2 hb2 hA2)
    have hA3 := hA2.out.same (fun j _ => cop_flat zs j)
    have hB3 : Below w.heap.size w w2 := But.below hB0 hb2.out (Nat.le_refl _) hB0.size
    clear hA0 hB0 hRB hA2 hb2
    generalize hxx : (fun i => zs.getD i (0, 0)) = x at *
    have HRX2 : Hid (∀ j, Rep (x j).1 (x j).2 (f j)) := Lib.hid (by rw [← hxx]; exact HRX.out)
    clear hxx HRX
    go_loopw [19] (PgAddUp w la lb x (fun j => f j + h j)) (fun i _ => lb - (intOf i).toNat)
    case atStart => exact ⟨0, Nat.zero_le _, rfl, hB3, hA3.same (pc_same fun i _ => (prx_zero _ _ i).symm)⟩
    case round =>
      clear hB3 hA3
      obtain ⟨k, hk, rfl, hB, hA⟩ := hrel
      by_cases hlt : k < lb
      · obtain ⟨b2, off2, z0, z1, rfl, g0, g1, hS⟩ := HD.out k hlt
        replace g0 := bkeep hB g0
        replace g1 := bkeep hB g1
        obtain ⟨y, hy⟩ : ∃ y, f k + h k = y := ⟨_, rfl⟩
        have m1 := padd_q (x k).1 (x k).2 z0 z1 (f k) (h k) y (HRX2.out k) hS hy
        have HST := Lib.hid (prx_step (x := x) (f := fun j => f j + h j) (m := k) hy)
        have hk1 : (k : Int) < (lb : Int) := by omega
        have hk0 : (0 : Int) ≤ (k : Int) := by omega
        have hkn : k < la := by omega
        have hk2 : (k : Int) < ((la : Nat) : Int) := by omega
        have hz : prx x (fun j => f j + h j) k k = x k := if_neg (Nat.lt_irrefl _)
        clear hS hy
        go_upto_region 6 with fail
        refine wp_gen (fun W => Below w.heap.size w W ∧ Arr W w.heap.size (la * 2) (pc (prx x (fun j => f j + h j) k)) ∧ Var W wr.heap.size z0 z1) ⟨hB.alloc hB.size _, hA.alloc _, Var.new _ _ _ _⟩ ?_
        clear hB hA g0 g1
        rintro W1 ⟨hB, hA, ⟨y0c, y1c, _, _⟩⟩
        have HB := Lib.hid hB; have HA := Lib.hid hA
        obtain ⟨o0c, o1c, _, _⟩ := hA.cells k hkn
        rw [hz] at o0c o1c
        clear hB hA hz
        refine wp_loose [(24, []), (25, []), (26, []), (27, []), (28, [26, 27]), (29, [28]), (30, []), (31, [29, 30]), (32, [24, 25])]
          (PgAddR w.heap.size la k (x k).1 (x k).2 z0 z1 (enc y.a) (enc y.b)) (fun d => false) (by kernel_rfl) (by kernel_rfl) (fun _ _ _ _ h hb => h.keep hb) ?_ ?_
        · refine opsrun_cons ?_ (opsrun_cons ?_ (opsrun_cons ?_ (opsrun_cons ?_ (opsrun_cons ?_ (opsrun_cons ?_ (opsrun_cons ?_ (opsrun_cons ?_ (opsrun_cons ?_ opsrun_nil))))))))
          all_goals
            refine OpRuns.any ?_
            intro Q0 σ W' K hb hn hK
            simp only [fill, List.map, Act.put, List.setIfInBounds_toArray, List.set_cons_zero, List.set_cons_succ] at hK ⊢
          · clear hn
            go_simp
            exact hK _ _ rfl (Below.refl _ _) (fun h => absurd h (by decide))
          · clear hn
            go_simp
            exact hK _ _ rfl (Below.refl _ _) (fun h => absurd h (by decide))
          · clear hn
            go_simp
            exact hK _ _ rfl (Below.refl _ _) (fun h => absurd h (by decide))
          · clear hn
            go_simp
            exact hK _ _ rfl (Below.refl _ _) (fun h => absurd h (by decide))
          · have h26 : σ 26 = _ := hn 26 (by decide)
            have h27 : σ 27 = _ := hn 27 (by decide)
            clear hn
            simp only [h26, h27] at hK
            go_simp
            exact hK _ _ rfl (Below.refl _ _) (fun h => absurd h (by decide))
          · have h28 : σ 28 = _ := hn 28 (by decide)
            clear hn
            simp only [h28] at hK
            have o0c' := bkeep hb o0c
            have o1c' := bkeep hb o1c
            clear o0c o1c
            go_simp
            exact hK _ _ rfl (Below.refl _ _) (fun h => absurd h (by decide))
          · clear hn
            have y0c' := bkeep hb y0c
            have y1c' := bkeep hb y1c
            clear y0c y1c
            go_simp
            exact hK _ _ rfl (Below.refl _ _) (fun h => absurd h (by decide))
          · have h29 : σ 29 = _ := hn 29 (by decide)
            have h30 : σ 30 = _ := hn 30 (by decide)
            clear hn
            simp only [h29, h30] at hK
            go_simp
            go_at_call 33
            refine (m1 _).mono ?_
            rintro e w1 ⟨rfl, hb1⟩
            exact hK _ _ rfl hb1 (fun h => absurd h (by decide))
          · have h24 : σ 24 = _ := hn 24 (by decide)
            have h25 : σ 25 = _ := hn 25 (by decide)
            clear hn
            simp only [h24, h25] at hK
            go_simp
            exact hK _ _ rfl (Below.refl _ _) (fun h => absurd h (by decide))
        · intro σ W' hb hR' hF
          have h31 : σ 31 = _ := hR' 31 (by decide)
          have h32 : σ 32 = _ := hR' 32 (by decide)
          replace HB := Lib.hid (bthen HB.out hb)
          have hA := HA.out.keep hb
          obtain ⟨c0, c1, f0, f1⟩ := hA.cells k hkn
          have HA2 := Lib.hid ((hA.setq k (enc y.a) (enc y.b) hkn).same (pc_same fun j _ => HST.out j))
          clear hR' hF hA o0c o1c y0c y1c hb m1
          simp only [fill, List.map, Act.put, List.setIfInBounds_toArray, List.set_cons_zero, List.set_cons_succ, List.length_cons, List.length_nil, List.drop_succ_cons, List.drop_zero, Nat.reduceAdd, h31, h32]
          clear h31 h32
          go_wp2_with fail
          go_roundw
          case rel => exact ⟨k + 1, by omega, by go_num, (HB.out.setCell (Nat.le_refl _) _).setCell (Nat.le_refl _) _, HA2.out⟩
          case measure => simp [intOf]; omega
      · have hkn : k = lb := by omega
        subst hkn
        have T := HTR.out wr _ _ hA (fun j hj => by
          unfold prx
          by_cases hc : j < k
          · rw [if_pos hc]; exact rep_enc _
          · rw [if_neg hc, HMU.out j (by omega), F2.add_zero]; exact HRX2.out j)
        have HB := Lib.hid hB
        clear hA hB
        go_wp2_with ((go_at_call 19; ((with_reducible refine T.mono ?_); rintro e w1 ⟨g, rfl, hg, hb, hA⟩; have HB2 := Lib.hid (bthen HB.out hb); have HA := Lib.hid hA; have HG := Lib.hid (Nat.le_trans HB.out.size hg); clear hb hA hg T)))
        go_ret
        exact ⟨_, rfl, HG.out, HB2.out, HA.out⟩
theorem padd_new (v u : Value) (l m : List F2) (w : World) (h1 : Poly w v l) (h2 : Poly w u m) (hl : l.length ≤ 4294967296) (hm : m.length ≤ 4294967296) : Calls Try.prog 11 #[v, u] w (RetA (addP l m) w) := by
  obtain ⟨a, ca, rfl⟩ := h1.slice
  obtain ⟨b, cb, rfl⟩ := h2.slice
  obtain ⟨zs, hq, hu, he⟩ := h1
  rcases Nat.lt_or_ge l.length m.length with h | h
  · exact padd_core a b _ _ ca cb _ zs l m w hq hu he h2 hl hm (Or.inl ⟨h, rfl⟩)
  · exact padd_core a b _ _ ca cb _ zs l m w hq hu he h2 hl hm (Or.inr ⟨h, rfl⟩)
end Go.Proofs.Ytajmfpnkcenhaaa
