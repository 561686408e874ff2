/-
  What the document's Add of layer 5 comes to: a contract for the walk. (Written by gen_polyref2.py.)
-/
import Derived.Test.YtlgfnlkblehlbaaPTrim
import Derived.Test.YtlgfnlkblehlbaaGNum
namespace Go.Proofs.Ytlgfnlkblehlbaa
open Go.RowKit
set_option linter.unusedVariables false

/-- A sum. -/
def addP (l m : List F2) : List F2 := pl (max l.length m.length) (fun i => cq l i + cq m i)
theorem addP_upto (l m : List F2) {n : Nat} (h1 : l.length ≤ n) (h2 : m.length ≤ n) : Upto n (fun i => cq l i + cq m i) := fun i hi => by dsimp only; rw [cq_upto l i (by omega), cq_upto m i (by omega), F2.add_zero]
theorem addP_is (l m : List F2) {n : Nat} (h1 : l.length ≤ n) (h2 : m.length ≤ n) : pl n (fun i => cq l i + cq m i) = addP l m := pl_same (addP_upto l m h1 h2) (addP_upto l m (Nat.le_max_left _ _) (Nat.le_max_right _ _)) (fun _ => rfl)
def AddR6 (g n b off len cap k : Nat) (o0 o1 z0 z1 m0 m1 : Int) (sl : Nat) (v : Value) (W : World) : Prop :=
  match sl with
  | 23 => v = .slice (some ⟨g, 0, none⟩) n n
  | 24 => v = .int .i64 k
  | 25 => v = .slice (some ⟨g, 0, none⟩) n n
  | 26 => v = .int .i64 k
  | 27 => v = .pointer (some ⟨g, k * 2, none⟩)
  | 28 => v = .agg #[.int .u64 o0, .int .u64 o1]
  | 29 => v = .slice (some ⟨b, off, none⟩) len cap
  | 30 => v = .int .i64 k
  | 31 => v = .pointer (some ⟨b, off + k * 2, none⟩)
  | 32 => v = .agg #[.int .u64 z0, .int .u64 z1]
  | 33 => v = .agg #[.int .u64 m0, .int .u64 m1]
  | _ => v = .pointer (some ⟨g, k * 2, none⟩)
theorem AddR6.keep {g n b off len cap k : Nat} {o0 o1 z0 z1 m0 m1 : Int} {sl : Nat} {v : Value} {W W' : World} (h : AddR6 g n b off len cap k o0 o1 z0 z1 m0 m1 sl v W) (hb : Below W.heap.size W W') : AddR6 g n b off len cap k o0 o1 z0 z1 m0 m1 sl v W' := h
def AddR8 (g n b off len cap k : Nat) (o0 o1 z0 z1 m0 m1 : Int) (sl : Nat) (v : Value) (W : World) : Prop :=
  match sl with
  | 39 => v = .slice (some ⟨g, 0, none⟩) n n
  | 40 => v = .int .i64 k
  | 41 => v = .slice (some ⟨g, 0, none⟩) n n
  | 42 => v = .int .i64 k
  | 43 => v = .pointer (some ⟨g, k * 2, none⟩)
  | 44 => v = .agg #[.int .u64 o0, .int .u64 o1]
  | 45 => v = .slice (some ⟨b, off, none⟩) len cap
  | 46 => v = .int .i64 k
  | 47 => v = .pointer (some ⟨b, off + k * 2, none⟩)
  | 48 => v = .agg #[.int .u64 z0, .int .u64 z1]
  | 49 => v = .agg #[.int .u64 m0, .int .u64 m1]
  | _ => v = .pointer (some ⟨g, k * 2, none⟩)
theorem AddR8.keep {g n b off len cap k : Nat} {o0 o1 z0 z1 m0 m1 : Int} {sl : Nat} {v : Value} {W W' : World} (h : AddR8 g n b off len cap k o0 o1 z0 z1 m0 m1 sl v W) (hb : Below W.heap.size W W') : AddR8 g n b off len cap k o0 o1 z0 z1 m0 m1 sl v W' := h

def AddUp (w : World) (n : Nat) (f : Nat → F2) (i : Value) (W : World) : Prop :=
  ∃ m : Nat, m ≤ n ∧ i = .int .i64 m ∧ Below w.heap.size w W ∧ Arr W w.heap.size (n * 2) (pc (prt f m))

set_option maxHeartbeats 8000000 in
theorem raddP_lt (a b : Option Addr) (la lb ca cb : Nat) (l m : List F2) (w : World) (h1 : Poly w (.slice a la ca) l) (h2 : Poly w (.slice b lb cb) m) (hla : la ≤ 4294967296) (hlb : lb ≤ 4294967296) (hc : la < lb) :
    Calls Try.prog 46 #[.slice a la ca, .slice b lb cb] w (RetF (addP l m) w) := by
  obtain ⟨e1, hm1, hc1⟩ := h1.at
  obtain ⟨e2, hm2, hc2⟩ := h2.at
  have HTR : Hid (∀ (W : World) (g : Nat), Arr W g (lb * 2) (pc fun j => encP (cq l j + cq m j)) → Calls Try.prog 61 #[.slice (some ⟨g, 0, none⟩) lb lb] W (RetF (addP l m) W)) := Lib.hid (fun W g hA => by
    have := rtrim_new _ (mk lb (fun i => cq l i + cq m i)) W (hA.isP (Nat.le_refl _) (by unfold maxLen; omega)).poly (by rw [mk_len]; omega)
    rw [pl_mk (addP_upto l m (by omega) (by omega)), addP_is l m (by omega) (by omega)] at this
    exact this)
  have HLU := Lib.hid (e1 ▸ cq_upto l : Upto la (cq l)); have HMU := Lib.hid (e2 ▸ cq_upto m : Upto lb (cq m))
  have HNE2 : Hid (∀ k, k < lb → ∀ b2 off2, b = some ⟨b2, off2, none⟩ → w.heap.size ≠ b2) := Lib.hid (fun k hk b2 off2 hb e => by
    obtain ⟨b', off', z0, z1, e', c, d, r⟩ := hc2 k hk
    rw [hb] at e'
    cases e'
    have := World.block_lt_of_cell? w _ c
    simp at this; omega)
  unfold maxLen at hm1 hm2
  have hmk := fun W => run_make_pairs (P := Try.prog) 23 29 (.agg #[.int .u64 0, .int .u64 0]) Try.underlying23 infoQ5 rfl lb (by omega) W
  have HC := Lib.hid hc1; have HD := Lib.hid hc2
  have hcI : (la : Int) < (lb : Int) := by omega
  have l1 : (la : Int) ≤ 4294967296 := by omega
  have l2 : (lb : Int) ≤ 4294967296 := by omega
  clear hc1 hc2 h1 h2 e1 e2
  go_enter Try.func46, Try.ntmps46
  go_upto_region 3 with fail
  clear hmk
  go_loopw [6] (AddUp w lb (fun i => cq l i + cq m i)) (fun i _ => lb - (intOf i).toNat)
  case atStart => exact ⟨0, Nat.zero_le _, rfl, (Below.refl _ _).alloc (Nat.le_refl _) _, (Arr.newq w _ _).same (pc_same (fun i _ => by unfold prt; rw [if_neg (by omega)]))⟩
  case round =>
    obtain ⟨k, hk, rfl, hB, hA⟩ := hrel
    by_cases hlt : k < lb
    · have hk1 : (k : Int) < ((lb : Nat) : Int) := by omega
      have hk0 : (0 : Int) ≤ (k : Int) := by omega
      have HST : Hid (∀ x : F2, cq l k + cq m k = x → ∀ j, (if j = k then (enc x.a, enc x.b) else prt (fun i => cq l i + cq m i) k j) = prt (fun i => cq l i + cq m i) (k + 1) j) := Lib.hid (fun x hx => prt_step hx)
      by_cases hka : k < la
      · obtain ⟨b, off, z0, z1, rfl, g0, g1, hR⟩ := HC.out k hka
        replace g0 := bkeep hB g0
        replace g1 := bkeep hB g1
        have m1 := radd_q 0 0 z0 z1 0 (cq l k) (cq l k) rep_zero hR (F2.zero_add _)
        have hka1 : (k : Int) < (la : Int) := by omega
        have hz : prt (fun i => cq l i + cq m i) k k = (0, 0) := if_neg (Nat.lt_irrefl _)
        obtain ⟨o0c, o1c, _, _⟩ := hA.cells k hlt
        rw [hz] at o0c o1c
        dsimp only at o0c o1c
        have HB := Lib.hid hB; have HA := Lib.hid hA
        clear hR hB hA hz
        by_cases hkb : k < lb
        · obtain ⟨b2, off2, y0, y1, rfl, k0, k1, hS⟩ := HD.out k hkb
          have hkb1 : (k : Int) < (lb : Int) := by omega
          have m2 := radd_q (enc (cq l k).a) (enc (cq l k).b) y0 y1 (cq l k) (cq m k) (cq l k + cq m k) (rep_enc _) hS rfl
          have HST2 := Lib.hid (HST.out _ rfl)
          have K0 := Lib.hid (bkeep HB.out k0); have K1 := Lib.hid (bkeep HB.out k1)
          clear hS HST k0 k1
          generalize cq l k + cq m k = y at *
          generalize hxl : cq l k = x at *
          clear hxl
          go_upto_region 6 with fail
          refine wp_loose [(23, []), (24, []), (25, []), (26, []), (27, [25, 26]), (28, [27]), (29, []), (30, []), (31, [29, 30]), (32, [31]), (33, [28, 32]), (34, [23, 24])]
            (AddR6 w.heap.size lb b off la ca k 0 0 z0 z1 (enc x.a) (enc x.b)) (fun d => false) (by kernel_rfl) (by kernel_rfl) (fun _ _ _ _ h hb => h.keep hb) ?_ ?_
          · refine opsrun_cons ?_ (opsrun_cons ?_ (opsrun_cons ?_ (opsrun_cons ?_ (opsrun_cons ?_ (opsrun_cons ?_ (opsrun_cons ?_ (opsrun_cons ?_ (opsrun_cons ?_ (opsrun_cons ?_ (opsrun_cons ?_ (opsrun_cons ?_ opsrun_nil)))))))))))
            all_goals
              refine OpRuns.any ?_
              intro Q0 σ W' K hb hn hK
              simp only [fill, List.map, Act.put, List.setIfInBounds_toArray, List.set_cons_zero, List.set_cons_succ] at hK ⊢
            · clear hn
              go_simp
              exact hK _ _ rfl (Below.refl _ _) (fun h => absurd h (by decide))
            · clear hn
              go_simp
              exact hK _ _ rfl (Below.refl _ _) (fun h => absurd h (by decide))
            · clear hn
              go_simp
              exact hK _ _ rfl (Below.refl _ _) (fun h => absurd h (by decide))
            · clear hn
              go_simp
              exact hK _ _ rfl (Below.refl _ _) (fun h => absurd h (by decide))
            · have h25 : σ 25 = _ := hn 25 (by decide)
              have h26 : σ 26 = _ := hn 26 (by decide)
              clear hn
              simp only [h25, h26] at hK
              go_simp
              exact hK _ _ rfl (Below.refl _ _) (fun h => absurd h (by decide))
            · have h27 : σ 27 = _ := hn 27 (by decide)
              clear hn
              simp only [h27] at hK
              have o0c' := bkeep hb o0c
              have o1c' := bkeep hb o1c
              clear o0c o1c
              go_simp
              exact hK _ _ rfl (Below.refl _ _) (fun h => absurd h (by decide))
            · clear hn
              go_simp
              exact hK _ _ rfl (Below.refl _ _) (fun h => absurd h (by decide))
            · clear hn
              go_simp
              exact hK _ _ rfl (Below.refl _ _) (fun h => absurd h (by decide))
            · have h29 : σ 29 = _ := hn 29 (by decide)
              have h30 : σ 30 = _ := hn 30 (by decide)
              clear hn
              simp only [h29, h30] at hK
              go_simp
              exact hK _ _ rfl (Below.refl _ _) (fun h => absurd h (by decide))
            · have h31 : σ 31 = _ := hn 31 (by decide)
              clear hn
              simp only [h31] at hK
              have g0' := bkeep hb g0
              have g1' := bkeep hb g1
              clear g0 g1
              go_simp
              exact hK _ _ rfl (Below.refl _ _) (fun h => absurd h (by decide))
            · have h28 : σ 28 = _ := hn 28 (by decide)
              have h32 : σ 32 = _ := hn 32 (by decide)
              clear hn
              simp only [h28, h32] at hK
              go_simp
              go_at_call 21
              refine (m1 _).mono ?_
              rintro e w1 ⟨rfl, hb1⟩
              exact hK _ _ rfl hb1 (fun h => absurd h (by decide))
            · have h23 : σ 23 = _ := hn 23 (by decide)
              have h24 : σ 24 = _ := hn 24 (by decide)
              clear hn
              simp only [h23, h24] at hK
              go_simp
              exact hK _ _ rfl (Below.refl _ _) (fun h => absurd h (by decide))
          · intro σ W' hb hR' hF
            have h33 : σ 33 = _ := hR' 33 (by decide)
            have h34 : σ 34 = _ := hR' 34 (by decide)
            replace HB := Lib.hid (bthen HB.out hb)
            have hA := HA.out.keep hb
            have g2 := bkeep hb K0.out
            have g3 := bkeep hb K1.out
            obtain ⟨c0, c1, f0, f1⟩ := hA.cells k hlt
            have HA2 := Lib.hid (hA.setq k (enc x.a) (enc x.b) hlt)
            clear hR' hF hA o0c o1c g0 g1 hb m1
            simp only [fill, List.map, Act.put, List.setIfInBounds_toArray, List.set_cons_zero, List.set_cons_succ, List.length_cons, List.length_nil, List.drop_succ_cons, List.drop_zero, Nat.reduceAdd, h33, h34]
            clear h33 h34
            go_upto_region 8 with fail
            refine wp_gen (fun W => Below w.heap.size w W ∧ Arr W w.heap.size (lb * 2) (pc fun i => if i = k then (enc x.a, enc x.b) else prt (fun i => cq l i + cq m i) k i) ∧ W.cell? ⟨b2, off2 + k * 2, none⟩ = some (.int .u64 y0) ∧ W.cell? ⟨b2, off2 + k * 2 + 1, none⟩ = some (.int .u64 y1)) ⟨(HB.out.setCell (Nat.le_refl _) _).setCell (Nat.le_refl _) _, HA2.out, ?_, ?_⟩ ?_
            · exact (World.cell?_setCell_far _ _ _ _ (by show w.heap.size ≠ b2; exact HNE2.out k hkb _ _ rfl)).trans ((World.cell?_setCell_far _ _ _ _ (by show w.heap.size ≠ b2; exact HNE2.out k hkb _ _ rfl)).trans g2)
            · exact (World.cell?_setCell_far _ _ _ _ (by show w.heap.size ≠ b2; exact HNE2.out k hkb _ _ rfl)).trans ((World.cell?_setCell_far _ _ _ _ (by show w.heap.size ≠ b2; exact HNE2.out k hkb _ _ rfl)).trans g3)
            clear HB HA2 HA c0 c1 f0 f1 g2 g3
            rintro W3 ⟨hB, hA, g2, g3⟩
            obtain ⟨o0c, o1c, _, _⟩ := hA.cells k hlt
            rw [if_pos rfl] at o0c o1c
            dsimp only at o0c o1c
            have HB := Lib.hid hB; have HA := Lib.hid hA
            clear hB hA
            refine wp_loose [(39, []), (40, []), (41, []), (42, []), (43, [41, 42]), (44, [43]), (45, []), (46, []), (47, [45, 46]), (48, [47]), (49, [44, 48]), (50, [39, 40])]
              (AddR8 w.heap.size lb b2 off2 lb cb k (enc x.a) (enc x.b) y0 y1 (enc y.a) (enc y.b)) (fun d => false) (by kernel_rfl) (by kernel_rfl) (fun _ _ _ _ h hb => h.keep hb) ?_ ?_
            · refine opsrun_cons ?_ (opsrun_cons ?_ (opsrun_cons ?_ (opsrun_cons ?_ (opsrun_cons ?_ (opsrun_cons ?_ (opsrun_cons ?_ (opsrun_cons ?_ (opsrun_cons ?_ (opsrun_cons ?_ (opsrun_cons ?_ (opsrun_cons ?_ opsrun_nil)))))))))))
              all_goals
                refine OpRuns.any ?_
                intro Q0 σ W' K hb hn hK
                simp only [fill, List.map, Act.put, List.setIfInBounds_toArray, List.set_cons_zero, List.set_cons_succ] at hK ⊢
              · clear hn
                go_simp
                exact hK _ _ rfl (Below.refl _ _) (fun h => absurd h (by decide))
              · clear hn
                go_simp
                exact hK _ _ rfl (Below.refl _ _) (fun h => absurd h (by decide))
              · clear hn
                go_simp
                exact hK _ _ rfl (Below.refl _ _) (fun h => absurd h (by decide))
              · clear hn
                go_simp
                exact hK _ _ rfl (Below.refl _ _) (fun h => absurd h (by decide))
              · have h41 : σ 41 = _ := hn 41 (by decide)
                have h42 : σ 42 = _ := hn 42 (by decide)
                clear hn
                simp only [h41, h42] at hK
                go_simp
                exact hK _ _ rfl (Below.refl _ _) (fun h => absurd h (by decide))
              · have h43 : σ 43 = _ := hn 43 (by decide)
                clear hn
                simp only [h43] at hK
                have o0c' := bkeep hb o0c
                have o1c' := bkeep hb o1c
                clear o0c o1c
                go_simp
                exact hK _ _ rfl (Below.refl _ _) (fun h => absurd h (by decide))
              · clear hn
                go_simp
                exact hK _ _ rfl (Below.refl _ _) (fun h => absurd h (by decide))
              · clear hn
                go_simp
                exact hK _ _ rfl (Below.refl _ _) (fun h => absurd h (by decide))
              · have h45 : σ 45 = _ := hn 45 (by decide)
                have h46 : σ 46 = _ := hn 46 (by decide)
                clear hn
                simp only [h45, h46] at hK
                go_simp
                exact hK _ _ rfl (Below.refl _ _) (fun h => absurd h (by decide))
              · have h47 : σ 47 = _ := hn 47 (by decide)
                clear hn
                simp only [h47] at hK
                have g2' := bkeep hb g2
                have g3' := bkeep hb g3
                clear g2 g3
                go_simp
                exact hK _ _ rfl (Below.refl _ _) (fun h => absurd h (by decide))
              · have h44 : σ 44 = _ := hn 44 (by decide)
                have h48 : σ 48 = _ := hn 48 (by decide)
                clear hn
                simp only [h44, h48] at hK
                go_simp
                go_at_call 21
                refine (m2 _).mono ?_
                rintro e w1 ⟨rfl, hb1⟩
                exact hK _ _ rfl hb1 (fun h => absurd h (by decide))
              · have h39 : σ 39 = _ := hn 39 (by decide)
                have h40 : σ 40 = _ := hn 40 (by decide)
                clear hn
                simp only [h39, h40] at hK
                go_simp
                exact hK _ _ rfl (Below.refl _ _) (fun h => absurd h (by decide))
            · intro σ W' hb hR' hF
              have h49 : σ 49 = _ := hR' 49 (by decide)
              have h50 : σ 50 = _ := hR' 50 (by decide)
              replace HB := Lib.hid (bthen HB.out hb)
              have hA := HA.out.keep hb
              obtain ⟨c0, c1, f0, f1⟩ := hA.cells k hlt
              have HA2 := Lib.hid ((hA.setq k (enc y.a) (enc y.b) hlt).same (pc_same fun j _ => by
                show (if j = k then (enc y.a, enc y.b) else if j = k then (enc x.a, enc x.b) else prt (fun i => cq l i + cq m i) k j) = prt (fun i => cq l i + cq m i) (k + 1) j
                rw [← HST2.out j]
                by_cases e : j = k
                · rw [if_pos e, if_pos e]
                · rw [if_neg e, if_neg e, if_neg e]))
              clear hR' hF hA o0c o1c g2 g3 hb m2
              simp only [fill, List.map, Act.put, List.setIfInBounds_toArray, List.set_cons_zero, List.set_cons_succ, List.length_cons, List.length_nil, List.drop_succ_cons, List.drop_zero, Nat.reduceAdd, h49, h50]
              clear h49 h50
              go_wp2_with fail
              go_roundw
              case rel => exact ⟨k + 1, by omega, by go_num, (HB.out.setCell (Nat.le_refl _) _).setCell (Nat.le_refl _) _, HA2.out⟩
              case measure => simp [intOf]; omega
        · exact absurd hlt hkb
      · have hka1 : ¬ (k : Int) < (la : Int) := by omega
        have hkb : k < lb := by omega
        have hkb1 : (k : Int) < (lb : Int) := by omega
        obtain ⟨b2, off2, y0, y1, rfl, g2, g3, hS⟩ := HD.out k hkb
        replace g2 := bkeep hB g2
        replace g3 := bkeep hB g3
        have m2 := radd_q 0 0 y0 y1 0 (cq m k) (cq m k) rep_zero hS (F2.zero_add _)
        have e0 : cq l k = 0 := HLU.out k (by omega)
        have HST2 := Lib.hid (HST.out (cq m k) (by rw [e0, F2.zero_add]))
        have hz : prt (fun i => cq l i + cq m i) k k = (0, 0) := if_neg (Nat.lt_irrefl _)
        obtain ⟨o0c, o1c, _, _⟩ := hA.cells k hlt
        rw [hz] at o0c o1c
        dsimp only at o0c o1c
        have HB := Lib.hid hB; have HA := Lib.hid hA
        clear hS hB hA hz HST e0
        generalize hym : cq m k = y at *
        clear hym
        go_upto_region 8 with fail
        refine wp_loose [(39, []), (40, []), (41, []), (42, []), (43, [41, 42]), (44, [43]), (45, []), (46, []), (47, [45, 46]), (48, [47]), (49, [44, 48]), (50, [39, 40])]
          (AddR8 w.heap.size lb b2 off2 lb cb k 0 0 y0 y1 (enc y.a) (enc y.b)) (fun d => false) (by kernel_rfl) (by kernel_rfl) (fun _ _ _ _ h hb => h.keep hb) ?_ ?_
        · refine opsrun_cons ?_ (opsrun_cons ?_ (opsrun_cons ?_ (opsrun_cons ?_ (opsrun_cons ?_ (opsrun_cons ?_ (opsrun_cons ?_ (opsrun_cons ?_ (opsrun_cons ?_ (opsrun_cons ?_ (opsrun_cons ?_ (opsrun_cons ?_ opsrun_nil)))))))))))
          all_goals
            refine OpRuns.any ?_
            intro Q0 σ W' K hb hn hK
            simp only [fill, List.map, Act.put, List.setIfInBounds_toArray, List.set_cons_zero, List.set_cons_succ] at hK ⊢
          · clear hn
            go_simp
            exact hK _ _ rfl (Below.refl _ _) (fun h => absurd h (by decide))
          · clear hn
            go_simp
            exact hK _ _ rfl (Below.refl _ _) (fun h => absurd h (by decide))
          · clear hn
            go_simp
            exact hK _ _ rfl (Below.refl _ _) (fun h => absurd h (by decide))
          · clear hn
            go_simp
            exact hK _ _ rfl (Below.refl _ _) (fun h => absurd h (by decide))
          · have h41 : σ 41 = _ := hn 41 (by decide)
            have h42 : σ 42 = _ := hn 42 (by decide)
            clear hn
            simp only [h41, h42] at hK
            go_simp
            exact hK _ _ rfl (Below.refl _ _) (fun h => absurd h (by decide))
          · have h43 : σ 43 = _ := hn 43 (by decide)
            clear hn
            simp only [h43] at hK
            have o0c' := bkeep hb o0c
            have o1c' := bkeep hb o1c
            clear o0c o1c
            go_simp
            exact hK _ _ rfl (Below.refl _ _) (fun h => absurd h (by decide))
          · clear hn
            go_simp
            exact hK _ _ rfl (Below.refl _ _) (fun h => absurd h (by decide))
          · clear hn
            go_simp
            exact hK _ _ rfl (Below.refl _ _) (fun h => absurd h (by decide))
          · have h45 : σ 45 = _ := hn 45 (by decide)
            have h46 : σ 46 = _ := hn 46 (by decide)
            clear hn
            simp only [h45, h46] at hK
            go_simp
            exact hK _ _ rfl (Below.refl _ _) (fun h => absurd h (by decide))
          · have h47 : σ 47 = _ := hn 47 (by decide)
            clear hn
            simp only [h47] at hK
            have g2' := bkeep hb g2
            have g3' := bkeep hb g3
            clear g2 g3
            go_simp
            exact hK _ _ rfl (Below.refl _ _) (fun h => absurd h (by decide))
          · have h44 : σ 44 = _ := hn 44 (by decide)
            have h48 : σ 48 = _ := hn 48 (by decide)
            clear hn
            simp only [h44, h48] at hK
            go_simp
            go_at_call 21
            refine (m2 _).mono ?_
            rintro e w1 ⟨rfl, hb1⟩
            exact hK _ _ rfl hb1 (fun h => absurd h (by decide))
          · have h39 : σ 39 = _ := hn 39 (by decide)
            have h40 : σ 40 = _ := hn 40 (by decide)
            clear hn
            simp only [h39, h40] at hK
            go_simp
            exact hK _ _ rfl (Below.refl _ _) (fun h => absurd h (by decide))
        · intro σ W' hb hR' hF
          have h49 : σ 49 = _ := hR' 49 (by decide)
          have h50 : σ 50 = _ := hR' 50 (by decide)
          replace HB := Lib.hid (bthen HB.out hb)
          have hA := HA.out.keep hb
          obtain ⟨c0, c1, f0, f1⟩ := hA.cells k hlt
          have HA2 := Lib.hid ((hA.setq k (enc y.a) (enc y.b) hlt).same (pc_same fun j _ => HST2.out j))
          clear hR' hF hA o0c o1c g2 g3 hb m2
          simp only [fill, List.map, Act.put, List.setIfInBounds_toArray, List.set_cons_zero, List.set_cons_succ, List.length_cons, List.length_nil, List.drop_succ_cons, List.drop_zero, Nat.reduceAdd, h49, h50]
          clear h49 h50
          go_wp2_with fail
          go_roundw
          case rel => exact ⟨k + 1, by omega, by go_num, (HB.out.setCell (Nat.le_refl _) _).setCell (Nat.le_refl _) _, HA2.out⟩
          case measure => simp [intOf]; omega
    · have hkn : k = lb := by omega
      subst hkn
      have T := HTR.out wr _ (hA.same (pc_same (prt_all _ _)))
      have HB := Lib.hid hB
      clear hA hB
      go_wp2_with ((go_at_call 61; ((with_reducible refine T.mono ?_); rintro e w1 ⟨v1, rfl, hb, hp, hfr⟩; have HB2 := Lib.hid (bthen HB.out hb); have HP := Lib.hid hp; have HFR := Lib.hid (hfr.less HB.out.size); clear hb hp hfr T)))
      go_ret
      exact ⟨_, rfl, HB2.out, HP.out, HFR.out⟩

set_option maxHeartbeats 8000000 in
theorem raddP_ge (a b : Option Addr) (la lb ca cb : Nat) (l m : List F2) (w : World) (h1 : Poly w (.slice a la ca) l) (h2 : Poly w (.slice b lb cb) m) (hla : la ≤ 4294967296) (hlb : lb ≤ 4294967296) (hc : lb ≤ la) :
    Calls Try.prog 46 #[.slice a la ca, .slice b lb cb] w (RetF (addP l m) w) := by
  obtain ⟨e1, hm1, hc1⟩ := h1.at
  obtain ⟨e2, hm2, hc2⟩ := h2.at
  have HTR : Hid (∀ (W : World) (g : Nat), Arr W g (la * 2) (pc fun j => encP (cq l j + cq m j)) → Calls Try.prog 61 #[.slice (some ⟨g, 0, none⟩) la la] W (RetF (addP l m) W)) := Lib.hid (fun W g hA => by
    have := rtrim_new _ (mk la (fun i => cq l i + cq m i)) W (hA.isP (Nat.le_refl _) (by unfold maxLen; omega)).poly (by rw [mk_len]; omega)
    rw [pl_mk (addP_upto l m (by omega) (by omega)), addP_is l m (by omega) (by omega)] at this
    exact this)
  have HLU := Lib.hid (e1 ▸ cq_upto l : Upto la (cq l)); have HMU := Lib.hid (e2 ▸ cq_upto m : Upto lb (cq m))
  have HNE2 : Hid (∀ k, k < lb → ∀ b2 off2, b = some ⟨b2, off2, none⟩ → w.heap.size ≠ b2) := Lib.hid (fun k hk b2 off2 hb e => by
    obtain ⟨b', off', z0, z1, e', c, d, r⟩ := hc2 k hk
    rw [hb] at e'
    cases e'
    have := World.block_lt_of_cell? w _ c
    simp at this; omega)
  unfold maxLen at hm1 hm2
  have hmk := fun W => run_make_pairs (P := Try.prog) 23 29 (.agg #[.int .u64 0, .int .u64 0]) Try.underlying23 infoQ5 rfl la (by omega) W
  have HC := Lib.hid hc1; have HD := Lib.hid hc2
  have hcI : (lb : Int) ≤ (la : Int) := by omega
  have l1 : (la : Int) ≤ 4294967296 := by omega
  have l2 : (lb : Int) ≤ 4294967296 := by omega
  clear hc1 hc2 h1 h2 e1 e2
  go_enter Try.func46, Try.ntmps46
  go_upto_region 3 with fail
  clear hmk
  go_loopw [6] (AddUp w la (fun i => cq l i + cq m i)) (fun i _ => la - (intOf i).toNat)
  case atStart => exact ⟨0, Nat.zero_le _, rfl, (Below.refl _ _).alloc (Nat.le_refl _) _, (Arr.newq w _ _).same (pc_same (fun i _ => by unfold prt; rw [if_neg (by omega)]))⟩
  case round =>
    obtain ⟨k, hk, rfl, hB, hA⟩ := hrel
    by_cases hlt : k < la
    · have hk1 : (k : Int) < ((la : Nat) : Int) := by omega
      have hk0 : (0 : Int) ≤ (k : Int) := by omega
      have HST : Hid (∀ x : F2, cq l k + cq m k = x → ∀ j, (if j = k then (enc x.a, enc x.b) else prt (fun i => cq l i + cq m i) k j) = prt (fun i => cq l i + cq m i) (k + 1) j) := Lib.hid (fun x hx => prt_step hx)
      by_cases hka : k < la
      · obtain ⟨b, off, z0, z1, rfl, g0, g1, hR⟩ := HC.out k hka
        replace g0 := bkeep hB g0
        replace g1 := bkeep hB g1
        have m1 := radd_q 0 0 z0 z1 0 (cq l k) (cq l k) rep_zero hR (F2.zero_add _)
        have hka1 : (k : Int) < (la : Int) := by omega
        have hz : prt (fun i => cq l i + cq m i) k k = (0, 0) := if_neg (Nat.lt_irrefl _)
        obtain ⟨o0c, o1c, _, _⟩ := hA.cells k hlt
        rw [hz] at o0c o1c
        dsimp only at o0c o1c
        have HB := Lib.hid hB; have HA := Lib.hid hA
        clear hR hB hA hz
        by_cases hkb : k < lb
        · obtain ⟨b2, off2, y0, y1, rfl, k0, k1, hS⟩ := HD.out k hkb
          have hkb1 : (k : Int) < (lb : Int) := by omega
          have m2 := radd_q (enc (cq l k).a) (enc (cq l k).b) y0 y1 (cq l k) (cq m k) (cq l k + cq m k) (rep_enc _) hS rfl
          have HST2 := Lib.hid (HST.out _ rfl)
          have K0 := Lib.hid (bkeep HB.out k0); have K1 := Lib.hid (bkeep HB.out k1)
          clear hS HST k0 k1
          generalize cq l k + cq m k = y at *
          generalize hxl : cq l k = x at *
          clear hxl
          go_upto_region 6 with fail
          refine wp_loose [(23, []), (24, []), (25, []), (26, []), (27, [25, 26]), (28, [27]), (29, []), (30, []), (31, [29, 30]), (32, [31]), (33, [28, 32]), (34, [23, 24])]
            (AddR6 w.heap.size la b off la ca k 0 0 z0 z1 (enc x.a) (enc x.b)) (fun d => false) (by kernel_rfl) (by kernel_rfl) (fun _ _ _ _ h hb => h.keep hb) ?_ ?_
          · refine opsrun_cons ?_ (opsrun_cons ?_ (opsrun_cons ?_ (opsrun_cons ?_ (opsrun_cons ?_ (opsrun_cons ?_ (opsrun_cons ?_ (opsrun_cons ?_ (opsrun_cons ?_ (opsrun_cons ?_ (opsrun_cons ?_ (opsrun_cons ?_ opsrun_nil)))))))))))
            all_goals
              refine OpRuns.any ?_
              intro Q0 σ W' K hb hn hK
              simp only [fill, List.map, Act.put, List.setIfInBounds_toArray, List.set_cons_zero, List.set_cons_succ] at hK ⊢
            · clear hn
              go_simp
              exact hK _ _ rfl (Below.refl _ _) (fun h => absurd h (by decide))
            · clear hn
              go_simp
              exact hK _ _ rfl (Below.refl _ _) (fun h => absurd h (by decide))
            · clear hn
              go_simp
              exact hK _ _ rfl (Below.refl _ _) (fun h => absurd h (by decide))
            · clear hn
              go_simp
              exact hK _ _ rfl (Below.refl _ _) (fun h => absurd h (by decide))
            · have h25 : σ 25 = _ := hn 25 (by decide)
              have h26 : σ 26 = _ := hn 26 (by decide)
              clear hn
              simp only [h25, h26] at hK
              go_simp
              exact hK _ _ rfl (Below.refl _ _) (fun h => absurd h (by decide))
            · have h27 : σ 27 = _ := hn 27 (by decide)
              clear hn
              simp only [h27] at hK
              have o0c' := bkeep hb o0c
              have o1c' := bkeep hb o1c
              clear o0c o1c
              go_simp
              exact hK _ _ rfl (Below.refl _ _) (fun h => absurd h (by decide))
            · clear hn
              go_simp
              exact hK _ _ rfl (Below.refl _ _) (fun h => absurd h (by decide))
            · clear hn
              go_simp
              exact hK _ _ rfl (Below.refl _ _) (fun h => absurd h (by decide))
            · have h29 : σ 29 = _ := hn 29 (by decide)
              have h30 : σ 30 = _ := hn 30 (by decide)
              clear hn
              simp only [h29, h30] at hK
              go_simp
              exact hK _ _ rfl (Below.refl _ _) (fun h => absurd h (by decide))
            · have h31 : σ 31 = _ := hn 31 (by decide)
              clear hn
              simp only [h31] at hK
              have g0' := bkeep hb g0
              have g1' := bkeep hb g1
              clear g0 g1
              go_simp
              exact hK _ _ rfl (Below.refl _ _) (fun h => absurd h (by decide))
            · have h28 : σ 28 = _ := hn 28 (by decide)
              have h32 : σ 32 = _ := hn 32 (by decide)
              clear hn
              simp only [h28, h32] at hK
              go_simp
              go_at_call 21
              refine (m1 _).mono ?_
              rintro e w1 ⟨rfl, hb1⟩
              exact hK _ _ rfl hb1 (fun h => absurd h (by decide))
            · have h23 : σ 23 = _ := hn 23 (by decide)
              have h24 : σ 24 = _ := hn 24 (by decide)
              clear hn
              simp only [h23, h24] at hK
              go_simp
              exact hK _ _ rfl (Below.refl _ _) (fun h => absurd h (by decide))
          · intro σ W' hb hR' hF
            have h33 : σ 33 = _ := hR' 33 (by decide)
            have h34 : σ 34 = _ := hR' 34 (by decide)
            replace HB := Lib.hid (bthen HB.out hb)
            have hA := HA.out.keep hb
            have g2 := bkeep hb K0.out
            have g3 := bkeep hb K1.out
            obtain ⟨c0, c1, f0, f1⟩ := hA.cells k hlt
            have HA2 := Lib.hid (hA.setq k (enc x.a) (enc x.b) hlt)
            clear hR' hF hA o0c o1c g0 g1 hb m1
            simp only [fill, List.map, Act.put, List.setIfInBounds_toArray, List.set_cons_zero, List.set_cons_succ, List.length_cons, List.length_nil, List.drop_succ_cons, List.drop_zero, Nat.reduceAdd, h33, h34]
            clear h33 h34
            go_upto_region 8 with fail
            refine wp_gen (fun W => Below w.heap.size w W ∧ Arr W w.heap.size (la * 2) (pc fun i => if i = k then (enc x.a, enc x.b) else prt (fun i => cq l i + cq m i) k i) ∧ W.cell? ⟨b2, off2 + k * 2, none⟩ = some (.int .u64 y0) ∧ W.cell? ⟨b2, off2 + k * 2 + 1, none⟩ = some (.int .u64 y1)) ⟨(HB.out.setCell (Nat.le_refl _) _).setCell (Nat.le_refl _) _, HA2.out, ?_, ?_⟩ ?_
            · exact (World.cell?_setCell_far _ _ _ _ (by show w.heap.size ≠ b2; exact HNE2.out k hkb _ _ rfl)).trans ((World.cell?_setCell_far _ _ _ _ (by show w.heap.size ≠ b2; exact HNE2.out k hkb _ _ rfl)).trans g2)
            · exact (World.cell?_setCell_far _ _ _ _ (by show w.heap.size ≠ b2; exact HNE2.out k hkb _ _ rfl)).trans ((World.cell?_setCell_far _ _ _ _ (by show w.heap.size ≠ b2; exact HNE2.out k hkb _ _ rfl)).trans g3)
            clear HB HA2 HA c0 c1 f0 f1 g2 g3
            rintro W3 ⟨hB, hA, g2, g3⟩
            obtain ⟨o0c, o1c, _, _⟩ := hA.cells k hlt
            rw [if_pos rfl] at o0c o1c
            dsimp only at o0c o1c
            have HB := Lib.hid hB; have HA := Lib.hid hA
            clear hB hA
            refine wp_loose [(39, []), (40, []), (41, []), (42, []), (43, [41, 42]), (44, [43]), (45, []), (46, []), (47, [45, 46]), (48, [47]), (49, [44, 48]), (50, [39, 40])]
              (AddR8 w.heap.size la b2 off2 lb cb k (enc x.a) (enc x.b) y0 y1 (enc y.a) (enc y.b)) (fun d => false) (by kernel_rfl) (by kernel_rfl) (fun _ _ _ _ h hb => h.keep hb) ?_ ?_
            · refine opsrun_cons ?_ (opsrun_cons ?_ (opsrun_cons ?_ (opsrun_cons ?_ (opsrun_cons ?_ (opsrun_cons ?_ (opsrun_cons ?_ (opsrun_cons ?_ (opsrun_cons ?_ (opsrun_cons ?_ (opsrun_cons ?_ (opsrun_cons ?_ opsrun_nil)))))))))))
              all_goals
                refine OpRuns.any ?_
                intro Q0 σ W' K hb hn hK
                simp only [fill, List.map, Act.put, List.setIfInBounds_toArray, List.set_cons_zero, List.set_cons_succ] at hK ⊢
              · clear hn
                go_simp
                exact hK _ _ rfl (Below.refl _ _) (fun h => absurd h (by decide))
              · clear hn
                go_simp
                exact hK _ _ rfl (Below.refl _ _) (fun h => absurd h (by decide))
              · clear hn
                go_simp
                exact hK _ _ rfl (Below.refl _ _) (fun h => absurd h (by decide))
              · clear hn
                go_simp
                exact hK _ _ rfl (Below.refl _ _) (fun h => absurd h (by decide))
              · have h41 : σ 41 = _ := hn 41 (by decide)
                have h42 : σ 42 = _ := hn 42 (by decide)
                clear hn
                simp only [h41, h42] at hK
                go_simp
                exact hK _ _ rfl (Below.refl _ _) (fun h => absurd h (by decide))
              · have h43 : σ 43 = _ := hn 43 (by decide)
                clear hn
                simp only [h43] at hK
                have o0c' := bkeep hb o0c
                have o1c' := bkeep hb o1c
                clear o0c o1c
                go_simp
                exact hK _ _ rfl (Below.refl _ _) (fun h => absurd h (by decide))
              · clear hn
                go_simp
                exact hK _ _ rfl (Below.refl _ _) (fun h => absurd h (by decide))
              · clear hn
                go_simp
                exact hK _ _ rfl (Below.refl _ _) (fun h => absurd h (by decide))
              · have h45 : σ 45 = _ := hn 45 (by decide)
                have h46 : σ 46 = _ := hn 46 (by decide)
                clear hn
                simp only [h45, h46] at hK
                go_simp
                exact hK _ _ rfl (Below.refl _ _) (fun h => absurd h (by decide))
              · have h47 : σ 47 = _ := hn 47 (by decide)
                clear hn
                simp only [h47] at hK
                have g2' := bkeep hb g2
                have g3' := bkeep hb g3
                clear g2 g3
                go_simp
                exact hK _ _ rfl (Below.refl _ _) (fun h => absurd h (by decide))
              · have h44 : σ 44 = _ := hn 44 (by decide)
                have h48 : σ 48 = _ := hn 48 (by decide)
                clear hn
                simp only [h44, h48] at hK
                go_simp
                go_at_call 21
                refine (m2 _).mono ?_
                rintro e w1 ⟨rfl, hb1⟩
                exact hK _ _ rfl hb1 (fun h => absurd h (by decide))
              · have h39 : σ 39 = _ := hn 39 (by decide)
                have h40 : σ 40 = _ := hn 40 (by decide)
                clear hn
                simp only [h39, h40] at hK
                go_simp
                exact hK _ _ rfl (Below.refl _ _) (fun h => absurd h (by decide))
            · intro σ W' hb hR' hF
              have h49 : σ 49 = _ := hR' 49 (by decide)
              have h50 : σ 50 = _ := hR' 50 (by decide)
              replace HB := Lib.hid (bthen HB.out hb)
              have hA := HA.out.keep hb
              obtain ⟨c0, c1, f0, f1⟩ := hA.cells k hlt
              have HA2 := Lib.hid ((hA.setq k (enc y.a) (enc y.b) hlt).same (pc_same fun j _ => by
                show (if j = k then (enc y.a, enc y.b) else if j = k then (enc x.a, enc x.b) else prt (fun i => cq l i + cq m i) k j) = prt (fun i => cq l i + cq m i) (k + 1) j
                rw [← HST2.out j]
                by_cases e : j = k
                · rw [if_pos e, if_pos e]
                · rw [if_neg e, if_neg e, if_neg e]))
              clear hR' hF hA o0c o1c g2 g3 hb m2
              simp only [fill, List.map, Act.put, List.setIfInBounds_toArray, List.set_cons_zero, List.set_cons_succ, List.length_cons, List.length_nil, List.drop_succ_cons, List.drop_zero, Nat.reduceAdd, h49, h50]
              clear h49 h50
              go_wp2_with fail
              go_roundw
              case rel => exact ⟨k + 1, by omega, by go_num, (HB.out.setCell (Nat.le_refl _) _).setCell (Nat.le_refl _) _, HA2.out⟩
              case measure => simp [intOf]; omega
        · have hkb1 : ¬ (k : Int) < (lb : Int) := by omega
          have e0 : cq m k = 0 := HMU.out k (by omega)
          have HST2 := Lib.hid (HST.out (cq l k) (by rw [e0, F2.add_zero]))
          clear HST e0
          generalize hxl : cq l k = x at *
          clear hxl
          go_upto_region 6 with fail
          refine wp_loose [(23, []), (24, []), (25, []), (26, []), (27, [25, 26]), (28, [27]), (29, []), (30, []), (31, [29, 30]), (32, [31]), (33, [28, 32]), (34, [23, 24])]
            (AddR6 w.heap.size la b off la ca k 0 0 z0 z1 (enc x.a) (enc x.b)) (fun d => false) (by kernel_rfl) (by kernel_rfl) (fun _ _ _ _ h hb => h.keep hb) ?_ ?_
          · refine opsrun_cons ?_ (opsrun_cons ?_ (opsrun_cons ?_ (opsrun_cons ?_ (opsrun_cons ?_ (opsrun_cons ?_ (opsrun_cons ?_ (opsrun_cons ?_ (opsrun_cons ?_ (opsrun_cons ?_ (opsrun_cons ?_ (opsrun_cons ?_ opsrun_nil)))))))))))
            all_goals
              refine OpRuns.any ?_
              intro Q0 σ W' K hb hn hK
              simp only [fill, List.map, Act.put, List.setIfInBounds_toArray, List.set_cons_zero, List.set_cons_succ] at hK ⊢
            · clear hn
              go_simp
              exact hK _ _ rfl (Below.refl _ _) (fun h => absurd h (by decide))
            · clear hn
              go_simp
              exact hK _ _ rfl (Below.refl _ _) (fun h => absurd h (by decide))
            · clear hn
              go_simp
              exact hK _ _ rfl (Below.refl _ _) (fun h => absurd h (by decide))
            · clear hn
              go_simp
              exact hK _ _ rfl (Below.refl _ _) (fun h => absurd h (by decide))
            · have h25 : σ 25 = _ := hn 25 (by decide)
              have h26 : σ 26 = _ := hn 26 (by decide)
              clear hn
              simp only [h25, h26] at hK
              go_simp
              exact hK _ _ rfl (Below.refl _ _) (fun h => absurd h (by decide))
            · have h27 : σ 27 = _ := hn 27 (by decide)
              clear hn
              simp only [h27] at hK
              have o0c' := bkeep hb o0c
              have o1c' := bkeep hb o1c
              clear o0c o1c
              go_simp
              exact hK _ _ rfl (Below.refl _ _) (fun h => absurd h (by decide))
            · clear hn
              go_simp
              exact hK _ _ rfl (Below.refl _ _) (fun h => absurd h (by decide))
            · clear hn
              go_simp
              exact hK _ _ rfl (Below.refl _ _) (fun h => absurd h (by decide))
            · have h29 : σ 29 = _ := hn 29 (by decide)
              have h30 : σ 30 = _ := hn 30 (by decide)
              clear hn
              simp only [h29, h30] at hK
              go_simp
              exact hK _ _ rfl (Below.refl _ _) (fun h => absurd h (by decide))
            · have h31 : σ 31 = _ := hn 31 (by decide)
              clear hn
              simp only [h31] at hK
              have g0' := bkeep hb g0
              have g1' := bkeep hb g1
              clear g0 g1
              go_simp
              exact hK _ _ rfl (Below.refl _ _) (fun h => absurd h (by decide))
            · have h28 : σ 28 = _ := hn 28 (by decide)
              have h32 : σ 32 = _ := hn 32 (by decide)
              clear hn
              simp only [h28, h32] at hK
              go_simp
              go_at_call 21
              refine (m1 _).mono ?_
              rintro e w1 ⟨rfl, hb1⟩
              exact hK _ _ rfl hb1 (fun h => absurd h (by decide))
            · have h23 : σ 23 = _ := hn 23 (by decide)
              have h24 : σ 24 = _ := hn 24 (by decide)
              clear hn
              simp only [h23, h24] at hK
              go_simp
              exact hK _ _ rfl (Below.refl _ _) (fun h => absurd h (by decide))
          · intro σ W' hb hR' hF
            have h33 : σ 33 = _ := hR' 33 (by decide)
            have h34 : σ 34 = _ := hR' 34 (by decide)
            replace HB := Lib.hid (bthen HB.out hb)
            have hA := HA.out.keep hb
            obtain ⟨c0, c1, f0, f1⟩ := hA.cells k hlt
            have HA2 := Lib.hid ((hA.setq k (enc x.a) (enc x.b) hlt).same (pc_same fun j _ => HST2.out j))
            clear hR' hF hA o0c o1c g0 g1 hb m1
            simp only [fill, List.map, Act.put, List.setIfInBounds_toArray, List.set_cons_zero, List.set_cons_succ, List.length_cons, List.length_nil, List.drop_succ_cons, List.drop_zero, Nat.reduceAdd, h33, h34]
            clear h33 h34
            go_wp2_with fail
            go_roundw
            case rel => exact ⟨k + 1, by omega, by go_num, (HB.out.setCell (Nat.le_refl _) _).setCell (Nat.le_refl _) _, HA2.out⟩
            case measure => simp [intOf]; omega
      · exact absurd hlt hka
    · have hkn : k = la := by omega
      subst hkn
      have T := HTR.out wr _ (hA.same (pc_same (prt_all _ _)))
      have HB := Lib.hid hB
      clear hA hB
      go_wp2_with ((go_at_call 61; ((with_reducible refine T.mono ?_); rintro e w1 ⟨v1, rfl, hb, hp, hfr⟩; have HB2 := Lib.hid (bthen HB.out hb); have HP := Lib.hid hp; have HFR := Lib.hid (hfr.less HB.out.size); clear hb hp hfr T)))
      go_ret
      exact ⟨_, rfl, HB2.out, HP.out, HFR.out⟩

theorem raddP (v u : Value) (l m : List F2) (w : World) (h1 : Poly w v l) (h2 : Poly w u m) (hl : l.length ≤ 4294967296) (hm : m.length ≤ 4294967296) : Calls Try.prog 46 #[v, u] w (RetF (addP l m) w) := by
  obtain ⟨a, ca, rfl⟩ := h1.slice
  obtain ⟨b, cb, rfl⟩ := h2.slice
  rcases Nat.lt_or_ge l.length m.length with h | h
  · exact raddP_lt a b _ _ ca cb l m w h1 h2 hl hm h
  · exact raddP_ge a b _ _ ca cb l m w h1 h2 hl hm h
end Go.Proofs.Ytlgfnlkblehlbaa
