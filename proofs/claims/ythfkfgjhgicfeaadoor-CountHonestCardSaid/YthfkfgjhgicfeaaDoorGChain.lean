/-
  ChainM: Words folded again and again; the polynomial in the end: plain.
  ChainRef: What the document's Words and Final of layer 21 come to. (Written by gen_cref.py.)
  ChainD: A polynomial's word, folded again and again, down to its polynomial: plain; what is asked of the program's calls of layer 21.
-/
import Derived.Test.YthfkfgjhgicfeaaDoorGFold
import Derived.Test.YthfkfgjhgicfeaaDoorGNtt
import Derived.Test.YthfkfgjhgicfeaaDoorGRows
import Derived.Test.YthfkfgjhgicfeaaDoorGRow
namespace Go.Proofs.YthfkfgjhgicfeaaDoor
open Go Go.RowKit
set_option linter.unusedVariables false

/-- The word behind k folds. -/
def chW (l : QL) (ys : QL) : Nat → QL
  | 0 => l
  | k + 1 => (wordV (chW l ys k) (qAt ys k) (k : Int)).1
def chB (l ys : QL) (k : Nat) : Bool := (wordV (chW l ys k) (qAt ys k) (k : Int)).2
/-- May it be folded so often? -/
def chOk (l ys : QL) : Nat → Bool
  | 0 => true
  | k + 1 => chOk l ys k && chB l ys k
def chRows (l ys : QL) (k : Nat) : List QL := (List.range (k + 1)).map (chW l ys)
theorem chRows_len (l ys : QL) (k : Nat) : (chRows l ys k).length = k + 1 := by simp [chRows]
theorem chRows_at (l ys : QL) {k j : Nat} (h : j ≤ k) : (chRows l ys k).getD j [] = chW l ys j := by simp [chRows, List.getD, show j < k + 1 by omega]
theorem chRows_snoc (l ys : QL) (k : Nat) : chRows l ys (k + 1) = chRows l ys k ++ [chW l ys (k + 1)] := by simp [chRows, List.range_succ]
/-- All words, and whether it can be folded so often. -/
def chainV (l ys : QL) : List QL × Bool := if chOk l ys ys.length = true then (chRows l ys ys.length, true) else ([], false)
theorem chainV_yes {l ys : QL} (h : chOk l ys ys.length = true) : chainV l ys = (chRows l ys ys.length, true) := if_pos h
theorem chainV_no {l ys : QL} (h : ¬ chOk l ys ys.length = true) : chainV l ys = ([], false) := if_neg h
theorem chOk_le {l ys : QL} : ∀ {k j : Nat}, chOk l ys k = true → j ≤ k → chOk l ys j = true
  | 0, j, h, hj => by obtain rfl : j = 0 := by omega
                      exact h
  | k + 1, j, h, hj => by
    by_cases c : j = k + 1
    · rw [c]; exact h
    · rw [chOk, Bool.and_eq_true] at h
      exact chOk_le h.1 (by omega)
theorem chOk_at {l ys : QL} {k j : Nat} (h : chOk l ys k = true) (hj : j < k) : chB l ys j = true := by
  have := chOk_le h (show j + 1 ≤ k by omega)
  rw [chOk, Bool.and_eq_true] at this
  exact this.2
theorem chOk_step {l ys : QL} {k : Nat} (h : chOk l ys k = true) : chOk l ys (k + 1) = chB l ys k := by rw [chOk, h, Bool.true_and]
theorem chB_word {l ys : QL} {k : Nat} (h : chB l ys k = true) : wordV (chW l ys k) (qAt ys k) (k : Int) = (chW l ys (k + 1), true) := Prod.ext rfl h
theorem chW_U {l ys : QL} (hl : ∀ n ∈ l, U n.1 ∧ U n.2) : ∀ k, ∀ n ∈ chW l ys k, U n.1 ∧ U n.2
  | 0 => hl
  | k + 1 => wordV_U (l := chW l ys k) (y := qAt ys k) (f := (k : Int)) (r := chW l ys (k + 1)) (ok := chB l ys k) (Prod.ext rfl rfl)
theorem wordV_len (l : QL) (y : F2) (f : Int) : (wordV l y f).1.length ≤ l.length / 2 := by
  by_cases h : 1 ≤ lg l.length ∧ lg l.length ≤ 20
  · rw [wordV_yes h]; exact Nat.le_of_eq (wordN_len _ _ _ _ _)
  · rw [wordV_no h]; exact Nat.zero_le _
theorem chW_le (l ys : QL) : ∀ k, (chW l ys k).length ≤ l.length
  | 0 => Nat.le_refl _
  | k + 1 => by
    have := wordV_len (chW l ys k) (qAt ys k) (k : Int)
    have h := chW_le l ys k
    show (wordV (chW l ys k) (qAt ys k) (k : Int)).1.length ≤ _
    omega
theorem wordV_half {l : QL} {y : F2} {f : Int} (hm : l.length ≤ 9223372036854775807) (h : (wordV l y f).2 = true) : 2 * (wordV l y f).1.length = l.length := by
  by_cases hl : 1 ≤ lg l.length ∧ lg l.length ≤ 20
  · obtain ⟨m, _, _, _, he, _⟩ := lg_even hm hl.1 hl.2
    rw [wordV_yes hl]
    show 2 * (wordN l y (lg l.length) f (l.length / 2)).length = _
    rw [wordN_len]
    omega
  · rw [wordV_no hl] at h; cases h
/-- Fewer pairs. -/
theorem qAt_take' (m : QL) {n j : Nat} (h : j < n) : qAt (m.take n) j = qAt m j := qAt_take m h
theorem chW_take (l ys : QL) (n : Nat) : ∀ k, k ≤ n → chW l (ys.take n) k = chW l ys k
  | 0, _ => rfl
  | k + 1, h => by rw [chW, chW, chW_take l ys n k (by omega), qAt_take ys (by omega)]
theorem chB_take (l ys : QL) (n : Nat) {k : Nat} (h : k < n) : chB l (ys.take n) k = chB l ys k := by unfold chB; rw [chW_take l ys n k (by omega), qAt_take ys h]
theorem chOk_take (l ys : QL) (n : Nat) : ∀ k, k ≤ n → chOk l (ys.take n) k = chOk l ys k
  | 0, _ => rfl
  | k + 1, h => by rw [chOk, chOk, chOk_take l ys n k (by omega), chB_take l ys n (by omega)]
/-! ### The polynomial in the end -/
/-- All coefficients from a place on are 0. -/
def restZ (c : QL) (s : Nat) : Prop := ∀ i, s ≤ i → i < c.length → c.getD i (0, 0) = (0, 0)
instance (c : QL) (s : Nat) : Decidable (restZ c s) := decidable_of_iff (∀ i ∈ List.range c.length, s ≤ i → c.getD i (0, 0) = (0, 0)) ⟨fun h i hs hi => h i (List.mem_range.2 hi) hs, fun h i hi hs => h i hs (List.mem_range.1 hi)⟩
def finC (l : QL) (f : Int) : QL := resBQ l (shiftF f)
def finV (l : QL) (f s : Int) : QL × Bool := if okB l.length (shiftF f) ∧ 0 ≤ s ∧ s ≤ ((finC l f).length : Int) ∧ restZ (finC l f) s.toNat then ((finC l f).take s.toNat, true) else ([], false)
theorem finV_yes {l : QL} {f s : Int} (h : okB l.length (shiftF f) ∧ 0 ≤ s ∧ s ≤ ((finC l f).length : Int) ∧ restZ (finC l f) s.toNat) : finV l f s = ((finC l f).take s.toNat, true) := if_pos h
theorem finV_no {l : QL} {f s : Int} (h : ¬ (okB l.length (shiftF f) ∧ 0 ≤ s ∧ s ≤ ((finC l f).length : Int) ∧ restZ (finC l f) s.toNat)) : finV l f s = ([], false) := if_neg h
end Go.Proofs.YthfkfgjhgicfeaaDoor
namespace Go.Proofs.YthfkfgjhgicfeaaDoor
open Go Go.RowKit Go.Sort Go.BigFrame
set_option linter.unusedVariables false

def WordsPost (W : World) (rows : List QL) (ok : Bool) (e : Ending) (w' : World) : Prop :=
  Below W.heap.size W w' ∧ ∃ (a : Option Addr) (cap : Nat), e = .returned (.tuple #[.slice a rows.length cap, .bool ok]) ∧ TabQ w' a rows.length rows ∧ rows.length ≤ cap
theorem infoSl : (Tryd.prog.info? 22).map (fun i => (i.zero, i.size, i.bytes)) = some (some (.slice none 0 0), 1, 24) := by kernel_rfl
def CWr5 (B bb bo nb cb g go k cg nj cj : Nat) (aj : Option Addr) (y0 y1 : Int) (r : QL) (ok : Bool) (sl : Nat) (v : Value) (W : World) : Prop :=
  match sl with
  | 19 => v = .slice (some ⟨g, go, none⟩) (k + 1) cg
  | 20 => v = .int .i64 (k : Int)
  | 21 => v = .pointer (some ⟨g, go + k, none⟩)
  | 22 => v = .slice aj nj cj
  | 23 => v = .slice (some ⟨bb, bo, none⟩) nb cb
  | 24 => v = .int .i64 (k : Int)
  | 25 => v = .pointer (some ⟨bb, bo + k * 2, none⟩)
  | 26 => v = .agg #[.int .u64 y0, .int .u64 y1]
  | 27 => v = .int .i64 (k : Int)
  | 28 => ∃ (ar : Option Addr) (cr : Nat), v = .tuple #[.slice ar r.length cr, .bool ok] ∧ QRowA W ar r.length r ∧ ∀ x, ar = some x → B ≤ x.block
  | 18 => ∃ (ar : Option Addr) (cr : Nat), v = .tuple #[.slice ar r.length cr, .bool ok] ∧ QRowA W ar r.length r ∧ ∀ x, ar = some x → B ≤ x.block
  | 29 => ∃ (ar : Option Addr) (cr : Nat), v = .slice ar r.length cr ∧ QRowA W ar r.length r ∧ ∀ x, ar = some x → B ≤ x.block
  | 30 => v = .bool ok
  | 8 => ∃ (ar : Option Addr) (cr : Nat), v = .slice ar r.length cr ∧ QRowA W ar r.length r ∧ ∀ x, ar = some x → B ≤ x.block
  | 9 => v = .bool ok
  | _ => v = .bool true
theorem CWr5.keep {B bb bo nb cb g go k cg nj cj : Nat} {aj : Option Addr} {y0 y1 : Int} {r : QL} {ok : Bool} {sl : Nat} {v : Value} {W W' : World} (h : CWr5 B bb bo nb cb g go k cg nj cj aj y0 y1 r ok sl v W) (hb : Below W.heap.size W W') : CWr5 B bb bo nb cb g go k cg nj cj aj y0 y1 r ok sl v W' := by
  unfold CWr5 at *
  split at h
  all_goals first | exact h | (obtain ⟨ar, cr, e, hq, hx⟩ := h; exact ⟨ar, cr, e, hq.keep hb, hx⟩)
def WordsRel (w : World) (l ys : QL) (v i : Value) (W : World) : Prop := ∃ (k : Nat) (rs : Nat → Value), k ≤ ys.length ∧ i = .int .i64 (k : Int) ∧ chOk l ys k = true ∧ RowsUpQ w W v rs (chRows l ys k)
set_option maxRecDepth 100000 in
set_option maxHeartbeats 8000000 in
theorem rcwords_is (a : Option Addr) (n cap : Nat) (l : QL) (ab : Option Addr) (nb cb : Nat) (ys : QL) (rows : List QL) (ok : Bool) (w : World) (ha : QRowA w a n l) (hu : ∀ n ∈ l, U n.1 ∧ U n.2) (hb : QRowA w ab nb ys) (hub : ∀ n ∈ ys, U n.1 ∧ U n.2) (hnb : nb ≤ 1000) (hr : chainV l ys = (rows, ok)) :
    Calls Tryd.prog 15 #[.slice a n cap, .slice ab nb cb] w (WordsPost w rows ok) := by
  obtain rfl := ha.1
  have hlb := hb.1
  obtain ⟨i0, hi, hz0, hz1, hz2⟩ := info_parts infoSl
  have HA := Lib.hid ha; have HB2 := Lib.hid hb; have HU := Lib.hid hu; have HUB := Lib.hid hub; have HR := Lib.hid hr; have HLB := Lib.hid hlb
  have HST := Lib.hid (RowsUpQ.start (c := cap) ha)
  clear ha hb hu hub hr hlb
  go_enter Tryd.func15, Tryd.ntmps15
  go_upto_region 3 with fail
  go_loopw [6, 7] (WordsRel w l ys) (fun _ i _ => nb - (intOf i).toNat)
  case atStart => exact ⟨0, _, Nat.zero_le _, rfl, rfl, HST.out⟩
  case round =>
    clear HST
    obtain ⟨k, rs, hk, rfl, hok, hM⟩ := hrel
    rw [HLB.out] at hk
    have hcl := chRows_len l ys k
    obtain ⟨ag, cg, hv, hT, hcg⟩ := hM.told
    rw [hcl] at hv hT hcg
    by_cases hlt : k < nb
    · have hltI : (k : Int) < (nb : Int) := by omega
      have hk0 : (0 : Int) ≤ (k : Int) := by omega
      have hkg : (k : Int) < (k : Int) + 1 := by omega
      obtain ⟨g, go, rfl, aj, cj, oc, hq⟩ := hT.2.2 k (by omega)
      subst hv
      rw [chRows_at l ys (Nat.le_refl k)] at oc hq
      obtain ⟨bb, bo, rfl, y0c, y1c⟩ := (HB2.out.keep hM.1.2).2.2 k hlt
      have ry := qAt_rep HUB.out (show k < ys.length by rw [HLB.out]; exact hlt)
      obtain ⟨r, ok', hw⟩ : ∃ r o, wordV (chW l ys k) (qAt ys k) (k : Int) = (r, o) := ⟨_, _, rfl⟩
      have HQ := Lib.hid hq
      have kw := fun W (h : Below wr.heap.size wr W) => rfword_new aj _ cj (chW l ys k) _ _ (k : Int) _ r ok' W (HQ.out.keep h) (chW_U HU.out k) ry hw
      have hB1 : chB l ys k = ok' := by unfold chB; rw [hw]
      have hW1 : chW l ys (k + 1) = r := by rw [chW, hw]
      have HM := Lib.hid hM
      have HCB := Lib.hid hB1; have HCW := Lib.hid hW1; have HOK := Lib.hid hok
      clear hM hT hq ry hw hB1 hW1 hok
      unfold WordNew at kw
      generalize (ys.getD k (0, 0)).1 = y0 at *
      generalize (ys.getD k (0, 0)).2 = y1 at *
      generalize hnj : (chW l ys k).length = nj at *
      clear hnj
      go_upto_region 5 with fail
      refine wp_loose [(19, []), (20, []), (21, [19, 20]), (22, [21]), (23, []), (24, []), (25, [23, 24]), (26, [25]), (27, []), (28, [22, 26, 27]), (18, [28]), (29, [18]), (30, [18]), (8, [29]), (9, [30])]
        (CWr5 wr.heap.size bb bo nb cb g go k cg nj cj aj y0 y1 r ok') (fun d => false) (by kernel_rfl) (by kernel_rfl) (fun _ _ _ _ h hb => h.keep hb) ?_ ?_
      · refine opsrun_cons ?_ (opsrun_cons ?_ (opsrun_cons ?_ (opsrun_cons ?_ (opsrun_cons ?_ (opsrun_cons ?_ (opsrun_cons ?_ (opsrun_cons ?_ (opsrun_cons ?_ (opsrun_cons ?_ (opsrun_cons ?_ (opsrun_cons ?_ (opsrun_cons ?_ (opsrun_cons ?_ (opsrun_cons ?_ opsrun_nil))))))))))))))
        all_goals
          refine OpRuns.any ?_
          intro Q0 σ W' K hb hn hK
          simp only [fill, List.map, Act.put, List.setIfInBounds_toArray, List.set_cons_zero, List.set_cons_succ] at hK ⊢
        · clear hn
          go_simp
          exact hK _ _ rfl (Below.refl _ _) (fun h => absurd h (by decide))
        · clear hn
          go_simp
          exact hK _ _ rfl (Below.refl _ _) (fun h => absurd h (by decide))
        · have h19 : σ 19 = _ := hn 19 (by decide)
          have h20 : σ 20 = _ := hn 20 (by decide)
          clear hn
          simp only [h19, h20] at hK
          go_simp
          exact hK _ _ rfl (Below.refl _ _) (fun h => absurd h (by decide))
        · have h21 : σ 21 = _ := hn 21 (by decide)
          clear hn
          simp only [h21] at hK
          have oc' := bkeep hb oc
          clear oc
          go_simp
          exact hK _ _ rfl (Below.refl _ _) (fun h => absurd h (by decide))
        · clear hn
          go_simp
          exact hK _ _ rfl (Below.refl _ _) (fun h => absurd h (by decide))
        · clear hn
          go_simp
          exact hK _ _ rfl (Below.refl _ _) (fun h => absurd h (by decide))
        · have h23 : σ 23 = _ := hn 23 (by decide)
          have h24 : σ 24 = _ := hn 24 (by decide)
          clear hn
          simp only [h23, h24] at hK
          go_simp
          exact hK _ _ rfl (Below.refl _ _) (fun h => absurd h (by decide))
        · have h25 : σ 25 = _ := hn 25 (by decide)
          clear hn
          simp only [h25] at hK
          have y0c' := bkeep hb y0c
          have y1c' := bkeep hb y1c
          clear y0c y1c
          go_simp
          exact hK _ _ rfl (Below.refl _ _) (fun h => absurd h (by decide))
        · clear hn
          go_simp
          exact hK _ _ rfl (Below.refl _ _) (fun h => absurd h (by decide))
        · have h22 : σ 22 = _ := hn 22 (by decide)
          have h26 : σ 26 = _ := hn 26 (by decide)
          have h27 : σ 27 = _ := hn 27 (by decide)
          clear hn
          simp only [h22, h26, h27] at hK
          go_simp
          go_at_call 13
          refine (kw _ hb).mono ?_
          rintro e w1 ⟨hb1, ar, cr, rfl, hq, hx⟩
          exact hK _ _ ⟨ar, cr, rfl, hq, fun x h => Nat.le_trans hb.size (hx x h)⟩ hb1 (fun h => absurd h (by decide))
        · have p28 : ∃ (ar : Option Addr) (cr : Nat), (σ 28) = .tuple #[.slice ar r.length cr, .bool ok'] ∧ QRowA W' ar r.length r ∧ ∀ x, ar = some x → wr.heap.size ≤ x.block := hn 28 (by decide)
          clear hn
          obtain ⟨ar, cr, e, hq⟩ := p28
          simp only [e] at hK
          go_simp
          exact hK _ _ ⟨ar, cr, rfl, hq⟩ (Below.refl _ _) (fun h => absurd h (by decide))
        · have p18 : ∃ (ar : Option Addr) (cr : Nat), (σ 18) = .tuple #[.slice ar r.length cr, .bool ok'] ∧ QRowA W' ar r.length r ∧ ∀ x, ar = some x → wr.heap.size ≤ x.block := hn 18 (by decide)
          clear hn
          obtain ⟨ar, cr, e, hq⟩ := p18
          simp only [e] at hK
          go_simp
          exact hK _ _ ⟨ar, cr, rfl, hq⟩ (Below.refl _ _) (fun h => absurd h (by decide))
        · have p18 : ∃ (ar : Option Addr) (cr : Nat), (σ 18) = .tuple #[.slice ar r.length cr, .bool ok'] ∧ QRowA W' ar r.length r ∧ ∀ x, ar = some x → wr.heap.size ≤ x.block := hn 18 (by decide)
          clear hn
          obtain ⟨ar, cr, e, hq⟩ := p18
          simp only [e] at hK
          go_simp
          exact hK _ _ rfl (Below.refl _ _) (fun h => absurd h (by decide))
        · have p29 : ∃ (ar : Option Addr) (cr : Nat), (σ 29) = .slice ar r.length cr ∧ QRowA W' ar r.length r ∧ ∀ x, ar = some x → wr.heap.size ≤ x.block := hn 29 (by decide)
          clear hn
          obtain ⟨ar, cr, e, hq⟩ := p29
          simp only [e] at hK
          go_simp
          exact hK _ _ ⟨ar, cr, rfl, hq⟩ (Below.refl _ _) (fun h => absurd h (by decide))
        · have h30 : σ 30 = _ := hn 30 (by decide)
          clear hn
          simp only [h30] at hK
          go_simp
          exact hK _ _ rfl (Below.refl _ _) (fun h => absurd h (by decide))
      · intro σ W' hb hR' hF
        have h9 : σ 9 = .bool ok' := hR' 9 (by decide)
        obtain ⟨ar, cr, h8, hqr, hfr⟩ : ∃ (ar : Option Addr) (cr : Nat), σ 8 = .slice ar r.length cr ∧ QRowA W' ar r.length r ∧ ∀ x, ar = some x → wr.heap.size ≤ x.block := hR' 8 (by decide)
        have HM2 := Lib.hid (HM.out.keep hb)
        have HQR := Lib.hid hqr
        have HFR : Hid (∀ x, ar = some x → g < x.block) := Lib.hid fun x hx => Nat.lt_of_lt_of_le (World.block_lt_of_cell? _ _ oc) (hfr x hx)
        clear hR' hF hb hqr hfr oc y0c y1c kw HM HQ
        simp only [fill, List.map, Act.put, List.setIfInBounds_toArray, List.set_cons_zero, List.set_cons_succ, List.length_cons, List.length_nil, List.drop_succ_cons, List.drop_zero, Nat.reduceAdd, h8, h9]
        clear h8 h9
        cases ok'
        · have hno : ¬ chOk l ys ys.length = true := fun h => by
            have := chOk_at h (show k < ys.length by rw [HLB.out]; exact hlt)
            rw [HCB.out] at this; cases this
          obtain ⟨e1, e2⟩ := Prod.mk.inj ((chainV_no hno).symm.trans HR.out)
          subst e1 e2
          have HBE := Lib.hid HM2.out.1.2
          clear HM2 HQR HFR hno HCB HCW HOK
          go_wp2_with fail
          exact bodyPost_ret (v := .tuple #[.slice none 0 0, .bool false]) (by simp [results, Tryd.results15, go_sem]) rfl ⟨HBE.out, none, 0, rfl, TabQ.nil _, Nat.le_refl _⟩
        · have hown := HM2.out.1.1
          have hsz := HM2.out.1.2.size
          have hvl := valsR_len rs (chRows l ys k).length
          rw [hvl, hcl] at hown
          have HN : Hid (chOk l ys (k + 1) = true) := Lib.hid (by rw [chOk_step HOK.out]; exact HCB.out)
          have HRW := Lib.hid (chRows_snoc l ys k)
          rw [HCW.out] at HRW
          go_upto_region 4 with (at_builtin; refine wpList_append_own_at rfl _ _ 39 rfl w.heap.size 22 i0 (.slice none 0 0) 1 24 Tryd.underlying39 hi hz0 hz1 hz2 rfl (by decide) _ _ _ rfl (hown.alloc _) ⟨W'.heap.size, 0, none⟩ 1 1 [.slice ar r.length cr] rfl rfl ?c1 ?c2 ?c3 ?c4 ?c5 ?_)
          any_goals first | exact one_src (by simp [go_sem]) | (unfold maxLen; omega) | (show (k + 1 + 1) * 24 ≤ _; omega) | (show _ ≤ (W'.alloc _).heap.size; simp; omega) | (show _ ≤ W'.heap.size + 1; omega) | (intro u hu; simp at hu; subst hu; rfl) | rfl
          intro v' w4 hown' hgrow hat
          have HNX : Hid (RowsUpQ w w4 v' (fun j => if j = (chRows l ys k).length then .slice ar r.length cr else rs j) (chRows l ys (k + 1))) := Lib.hid (by
            rw [HRW.out]
            have hba : Below W'.heap.size W' (W'.alloc (.cells #[.slice ar r.length cr] 22)) := (Below.refl _ _).alloc (Nat.le_refl _) _
            refine (HM2.out.keep hba).more (HQR.out.keep hba) (fun _ x hx => ?_) hgrow (by simpa using hat) ?_
            · show some g ≠ some x.block
              have := HFR.out x hx
              intro e; have := Option.some.inj e; omega
            · refine MadeG.grow (HM2.out.1.keep hba) ?_ hgrow
              rw [hvl, hcl]
              exact hown')
          clear hown hown' hgrow hat HM2 HQR HFR hsz hvl HRW
          go_wp2_with fail
          go_roundw
          case rel => exact ⟨k + 1, _, by rw [HLB.out]; omega, by go_num, HN.out, HNX.out⟩
          case measure => simp [intOf]; omega
    · obtain rfl : k = nb := by omega
      have hltI : ¬ (k : Int) < (k : Int) := by omega
      subst hv
      have hyes : chOk l ys ys.length = true := by rw [HLB.out]; exact hok
      obtain ⟨e1, e2⟩ := Prod.mk.inj ((chainV_yes hyes).symm.trans HR.out)
      rw [HLB.out] at e1
      have HT := Lib.hid hT; have HBE := Lib.hid hM.1.2
      subst e2
      clear hT hM hyes hok
      go_wp2_with fail
      exact bodyPost_ret (v := .tuple #[.slice ag (k + 1) cg, .bool true]) (by simp [results, Tryd.results15, go_sem]) rfl ⟨HBE.out, ag, cg, by rw [← e1, hcl], by rw [← e1, hcl]; exact HT.out, by rw [← e1, hcl]; exact hcg⟩
theorem QRow.cut {W : World} {a : Option Addr} {n S c : Nat} {zs : List (Int × Int)} (h : QRow W (.slice a n c) zs) (hS : S ≤ n) : QRow W (.slice a S c) (zs.take S) := by
  rcases h with ⟨h, rfl⟩ | ⟨x, c', h, rfl⟩ | ⟨b, off, c', h, hc, hm, hcell⟩
  · cases h
    obtain rfl : S = 0 := by omega
    exact Or.inl ⟨rfl, by simp⟩
  · cases h
    obtain rfl : S = 0 := by omega
    exact Or.inr (Or.inl ⟨x, c, rfl, by simp⟩)
  · cases h
    have hl : (zs.take S).length = S := by rw [List.length_take]; omega
    refine Or.inr (Or.inr ⟨b, off, c, by rw [hl], by omega, hm, fun i hi => ?_⟩)
    rw [hl] at hi
    have e : (zs.take S).getD i (0, 0) = zs.getD i (0, 0) := by simp [List.getD, hi]
    rw [e]
    exact hcell i (by omega)
theorem QRow.le {W : World} {a : Option Addr} {n c : Nat} {zs : List (Int × Int)} (h : QRow W (.slice a n c) zs) : n ≤ c ∧ zs.length = n := by
  rcases h with ⟨h, rfl⟩ | ⟨x, c', h, rfl⟩ | ⟨b, off, c', h, hc, hm, hcell⟩
  · cases h; exact ⟨Nat.le_refl _, rfl⟩
  · cases h; exact ⟨Nat.zero_le _, rfl⟩
  · cases h; exact ⟨hc, rfl⟩
def FinRel (w : World) (c : QL) (S : Nat) (i : Value) (W : World) : Prop := ∃ j : Nat, S ≤ j ∧ j ≤ c.length ∧ i = .int .i64 (j : Int) ∧ Below w.heap.size w W ∧ ∀ i, S ≤ i → i < j → c.getD i (0, 0) = (0, 0)
theorem okB_pow {n : Nat} {s : F} (h : okB n s) (hn : n ≤ 9223372036854775807) : ∃ k : Nat, k ≤ 20 ∧ n = 2 ^ k ∧ lg n = (k : Int) := by
  obtain ⟨k, hk, hk2, hk3⟩ := lg_cases n hn h.1 h.2.1
  exact ⟨k, hk, hk2, hk3⟩
theorem finC_yes {l : QL} {f : Int} {k : Nat} (h : okB l.length (shiftF f)) (hk : lg l.length = (k : Int)) : finC l f = backQ l (shiftF f) k := by
  unfold finC resBQ
  rw [if_pos h, hk, Int.toNat_natCast]
set_option maxRecDepth 100000 in
set_option maxHeartbeats 8000000 in
theorem rcfinal_is (a : Option Addr) (n cap : Nat) (l : QL) (f s : Int) (r : QL) (ok : Bool) (w : World) (ha : QRowA w a n l) (hu : ∀ n ∈ l, U n.1 ∧ U n.2) (hn : n ≤ 4294967296) (hs : I64 s) (hr : finV l f s = (r, ok)) :
    Calls Tryd.prog 16 #[.slice a n cap, .int .i64 f, .int .i64 s] w (WordPost w r ok) := by
  have hln := ha.1
  obtain ⟨i0, hi, hz0, hz1, hz2⟩ := info_parts infoQf
  obtain ⟨sv, hsv⟩ : ∃ s, enc (shiftF f) = s := ⟨_, rfl⟩
  have s1 := fun W => rfshift_is f sv hsv W
  have hsU : U sv := by rw [← hsv]; exact enc_U _
  have hsF : toF sv = shiftF f := by rw [← hsv]; exact toF_enc _
  have HA := Lib.hid ha
  by_cases hok : okB l.length (shiftF f)
  case neg =>
    rw [finV_no (fun h => hok h.1)] at hr
    obtain ⟨rfl, rfl⟩ := Prod.mk.inj hr
    have b1 := fun W (h : Below w.heap.size w W) => refbackq_no a n cap l sv hsU (shiftF f) hsF W (HA.out.keep h) hn (by rw [← hln]; exact hok)
    unfold ErrArg at b1
    have HB : Hid (Below w.heap.size w w) := Lib.hid (Below.refl _ _)
    clear ha hu hr hsU hsF hsv hok hln
    go_enter Tryd.func16, Tryd.ntmps16
    go_wp2_with (first | (go_at_call 39; (with_reducible refine (s1 _).mono ?_); rintro e w1 ⟨rfl, hb⟩; replace HB := Lib.hid (bthen HB.out hb); clear hb) | (go_at_call 38; (with_reducible refine (b1 _ HB.out).mono ?_); rintro e w2 ⟨rfl, hb⟩; replace HB := Lib.hid (bthen HB.out hb); clear hb))
    exact bodyPost_ret (v := .tuple #[.slice none 0 0, .bool false]) (by simp [results, Tryd.results16, go_sem]) rfl ⟨HB.out, none, 0, rfl, qrowA_nil _⟩
  obtain ⟨k, hk20, hnk, hlk⟩ := okB_pow hok (by omega)
  have b1 := fun W (h : Below w.heap.size w W) => refbackq_yes a n cap l sv hsU (shiftF f) hsF hok.2.2 k hk20 W (HA.out.keep h) hu (by rw [← hln]; exact hnk)
  unfold NewOkQ at b1
  have hC := finC_yes hok hlk
  have hCl : (finC l f).length = n := by rw [hC, backQ_len, ← hnk]; exact hln
  have hCU : ∀ n ∈ finC l f, U n.1 ∧ U n.2 := by rw [hC]; exact joinL_U _ _
  rw [← hC, ← hnk, hln] at b1
  have HV : Hid (∀ q : QL × Bool, ((0 ≤ s ∧ s ≤ (n : Int) ∧ restZ (finC l f) s.toNat) → ((finC l f).take s.toNat, true) = q → q = (r, ok)) ∧ (¬ (0 ≤ s ∧ s ≤ (n : Int) ∧ restZ (finC l f) s.toNat) → ([], false) = q → q = (r, ok))) := Lib.hid fun q =>
    ⟨fun h e => by rw [← e, ← hr, finV_yes ⟨hok, h.1, by rw [hCl]; exact h.2.1, h.2.2⟩], fun h e => by rw [← e, ← hr, finV_no (fun c => h ⟨c.2.1, by have := c.2.2.1; rwa [hCl] at this, c.2.2.2⟩)]⟩
  have HB : Hid (Below w.heap.size w w) := Lib.hid (Below.refl _ _)
  obtain ⟨C, hCC⟩ : ∃ C, finC l f = C := ⟨_, rfl⟩
  rw [hCC] at hCl hCU b1 HV
  clear ha hr hsU hsF hsv hln hok hC hCC hlk hnk hu HA
  go_enter Tryd.func16, Tryd.ntmps16
  go_upto_region 2 with (first | (go_at_call 39; (with_reducible refine (s1 _).mono ?_); rintro e w1 ⟨rfl, hb⟩; replace HB := Lib.hid (bthen HB.out hb); clear hb) | (go_at_call 38; (with_reducible refine (b1 _ HB.out).mono ?_); rintro e w2 ⟨a2, c2, rfl, hb, hq⟩; replace HB := Lib.hid (bthen HB.out hb); have HQ := Lib.hid hq; clear hb hq))
  clear s1 b1
  by_cases hs0 : s < 0
  · obtain ⟨e1, e2⟩ := Prod.mk.inj ((HV.out _).2 (fun h => by have := h.1; omega) rfl)
    subst e1 e2
    clear HV HQ
    go_wp2_with fail
    exact bodyPost_ret (v := .tuple #[.slice none 0 0, .bool false]) (by simp [results, Tryd.results16, go_sem]) rfl ⟨HB.out, none, 0, rfl, qrowA_nil _⟩
  obtain ⟨S, rfl⟩ := Int.eq_ofNat_of_zero_le (show 0 ≤ s by omega)
  by_cases hsn : (n : Int) < (S : Int)
  · obtain ⟨e1, e2⟩ := Prod.mk.inj ((HV.out _).2 (fun h => by have := h.2.1; omega) rfl)
    subst e1 e2
    clear HV HQ
    go_wp2_with fail
    exact bodyPost_ret (v := .tuple #[.slice none 0 0, .bool false]) (by simp [results, Tryd.results16, go_sem]) rfl ⟨HB.out, none, 0, rfl, qrowA_nil _⟩
  obtain ⟨hcap, _⟩ := HQ.out.le
  have HCU := Lib.hid hCU; have HCL := Lib.hid hCl
  clear hCU hCl
  go_upto_region 5 with fail
  go_loopw [10] (FinRel w2 C S) (fun i _ => n - (intOf i).toNat)
  case atStart => exact ⟨S, Nat.le_refl _, by rw [HCL.out]; omega, rfl, Below.refl _ _, fun i h1 h2 => by omega⟩
  case round =>
    obtain ⟨j, hSj, hjn, rfl, hV, hz⟩ := hrel
    rw [HCL.out] at hjn
    by_cases hlt : j < n
    · have hltI : (j : Int) < (n : Int) := by omega
      have hj0 : (0 : Int) ≤ (j : Int) := by omega
      obtain ⟨b, off, rfl, p0c, p1c⟩ := (HQ.out.at.keep hV).2.2 j hlt
      obtain ⟨p0, hp0⟩ : ∃ p, (C.getD j (0, 0)).1 = p := ⟨_, rfl⟩
      obtain ⟨p1, hp1⟩ : ∃ p, (C.getD j (0, 0)).2 = p := ⟨_, rfl⟩
      rw [hp0] at p0c
      rw [hp1] at p1c
      by_cases hzz : p0 = 0 ∧ p1 = 0
      · obtain ⟨rfl, rfl⟩ := hzz
        have HV2 := Lib.hid hV
        have HZ : Hid (∀ i, S ≤ i → i < j + 1 → C.getD i (0, 0) = (0, 0)) := Lib.hid fun i h1 h2 => by
          by_cases c : i = j
          · rw [c]; exact Prod.ext hp0 hp1
          · exact hz i h1 (by omega)
        clear hV hz hp0 hp1
        go_wp2_with fail
        go_roundw
        case rel => exact ⟨j + 1, by omega, by rw [HCL.out]; omega, by go_num, HV2.out, HZ.out⟩
        case measure => simp [intOf]; omega
      · obtain ⟨e1, e2⟩ := Prod.mk.inj ((HV.out _).2 (fun h => hzz (by
          have := h.2.2 j (by rw [Int.toNat_natCast]; exact hSj) (by rw [HCL.out]; exact hlt)
          rw [this] at hp0 hp1
          exact ⟨hp0.symm, hp1.symm⟩)) rfl)
        subst e1 e2
        have HBE := Lib.hid (bthen HB.out hV)
        clear hV hz hp0 hp1 HV
        by_cases h0 : p0 = 0
        · have h1 : ¬ p1 = 0 := fun c => hzz ⟨h0, c⟩
          subst h0
          clear hzz
          go_wp2_with fail
          exact bodyPost_ret (v := .tuple #[.slice none 0 0, .bool false]) (by simp [results, Tryd.results16, go_sem]) rfl ⟨HBE.out, none, 0, rfl, qrowA_nil _⟩
        · clear hzz
          go_wp2_with fail
          exact bodyPost_ret (v := .tuple #[.slice none 0 0, .bool false]) (by simp [results, Tryd.results16, go_sem]) rfl ⟨HBE.out, none, 0, rfl, qrowA_nil _⟩
    · obtain rfl : j = n := by omega
      obtain ⟨e1, e2⟩ := Prod.mk.inj ((HV.out _).1 ⟨by omega, by omega, fun i h1 h2 => hz i (by rwa [Int.toNat_natCast] at h1) (by rwa [HCL.out] at h2)⟩ rfl)
      rw [Int.toNat_natCast] at e1
      subst e2
      have hqc := (HQ.out.keep hV).cut (S := S) (by omega)
      have htl : (C.take S).length = S := by rw [List.length_take, HCL.out]; omega
      rw [e1] at hqc htl
      have HBE := Lib.hid (bthen HB.out hV)
      have HQC := Lib.hid hqc
      have HTL := Lib.hid htl
      have hSc : S ≤ c2 := by omega
      have hSI : (S : Int) ≤ (c2 : Int) := by omega
      have hS63 : S ≤ 4294967296 := by omega
      have hown := World.ownsRow_lit (base := w.heap.size) (e := 31) (size := 2) wr #[] 0 HBE.out.size (by unfold maxLen; omega) rfl
      clear hV hz hqc e1 HV htl
      go_upto_region 12 with (at_builtin; refine wpList_append_q rfl _ _ 22 rfl w.heap.size 31 i0 (.agg #[.int .u64 0, .int .u64 0]) 16 Tryd.underlying22 hi hz0 hz1 hz2 rfl _ _ _ rfl hown _ r rfl (HQC.out.keep ((Below.refl _ _).alloc (Nat.le_refl _) _)) ?c3 ?c4 ?c5 ?_)
      any_goals first | (rw [HTL.out]; unfold maxLen; omega) | (rw [HTL.out]; omega) | (simp; have := HBE.out.size; omega) | (have := HBE.out.size; omega)
      intro v' w4 hown' hgrow
      have hba : Below wr.heap.size wr (wr.alloc (.cells #[] 31)) := (Below.refl _ _).alloc (Nat.le_refl _) _
      have hMQ : MadeQ w w4 v' r := ⟨by simpa using hown', (bthen HBE.out hba).grown hgrow (Nat.le_trans HBE.out.size hba.size) (fun k hk => by
        have hk : some wr.heap.size = some k := hk
        cases hk
        exact HBE.out.size)⟩
      obtain ⟨a5, c5, hv5, hq5⟩ := hMQ.told
      subst hv5
      have HB5 := Lib.hid hMQ.2; have HQ5 := Lib.hid hq5
      clear hown' hgrow hba hMQ hq5 hown
      go_wp2_with fail
      exact bodyPost_ret (v := .tuple #[.slice a5 r.length c5, .bool true]) (by simp [results, Tryd.results16, go_sem]) rfl ⟨HB5.out, a5, c5, rfl, HQ5.out⟩
end Go.Proofs.YthfkfgjhgicfeaaDoor
namespace Go.Proofs.YthfkfgjhgicfeaaDoor
open Go Go.RowKit
set_option linter.unusedVariables false

/-! ### Forth and back -/
theorem qAt_a (l : QL) (j : Nat) : toF (l.getD j (0, 0)).1 = (qAt l j).a := rfl
theorem bk_congr {s : F} {k : Nat} {v u : Nat → F} (h : ∀ i, i < 2 ^ k → v i = u i) (j : Nat) : bk s k v j = bk s k u j := by
  unfold bk
  rw [ev_congr h]
theorem back_forthQ (z : QL) (s : F) (hs : s ≠ 0) (k : Nat) (hk : k ≤ 32) (hz : z.length ≤ 2 ^ k) {j : Nat} (hj : j < 2 ^ k) : (backQ (forthQ z s k) s k).getD j (0, 0) = encP (qAt z j) := by
  have key : ∀ (c : Nat → F) (zs : List Int), (∀ i, i < 2 ^ k → co zs i = ev z.length c (pt s k i)) → (∀ i, z.length ≤ i → c i = 0) → (backL zs s k).getD j 0 = enc (c j) := by
    intro c zs h1 h2
    rw [backL_at _ _ _ _ hj, bk_congr (u := fun i => ev (2 ^ k) c (pt s k i)) (fun i hi => by rw [h1 i hi]; exact (ev_more _ hz h2).symm), bk_ev s hs k hk c j hj]
  unfold backQ
  rw [joinL_at _ _ _ (by rw [backL_len]; exact hj)]
  have ha := key (fun j => (qAt z j).a) (fsts (forthQ z s k)) (fun i hi => by rw [co_fsts, qAt_forth z s k hi]; rfl) (fun i hi => by show (qAt z i).a = 0; rw [qAt_out hi]; rfl)
  have hb := key (fun j => (qAt z j).b) (snds (forthQ z s k)) (fun i hi => by rw [co_snds, qAt_forth z s k hi]; rfl) (fun i hi => by show (qAt z i).b = 0; rw [qAt_out hi]; rfl)
  rw [ha, hb]
  unfold toQ
  simp only [toF_enc]
/-- The coefficients, as they are kept. -/
def nrmQ (z : QL) : QL := (List.range z.length).map fun j => encP (qAt z j)
theorem nrmQ_len (z : QL) : (nrmQ z).length = z.length := by simp [nrmQ]
theorem nrmQ_at (z : QL) (j : Nat) : qAt (nrmQ z) j = qAt z j := by
  by_cases h : j < z.length
  · unfold qAt
    rw [show (nrmQ z).getD j (0, 0) = encP (qAt z j) by simp [nrmQ, List.getD, h], toQ_encP]
    rfl
  · rw [qAt_out (by rw [nrmQ_len]; omega), qAt_out (by omega)]
theorem nrmQ_U (z : QL) : ∀ n ∈ nrmQ z, U n.1 ∧ U n.2 := by
  intro n hn
  obtain ⟨j, _, rfl⟩ := List.mem_map.1 hn
  exact encP_U _
theorem forthQ_same {z y : QL} (hl : z.length = y.length) (h : ∀ j, qAt z j = qAt y j) (s : F) (k : Nat) : forthQ z s k = forthQ y s k := by
  refine list_getD (by rw [forthQ_len, forthQ_len]) fun i hi => ?_
  rw [forthQ_len] at hi
  rw [forthQ_at _ _ _ hi, forthQ_at _ _ _ hi, hl, show qAt z = qAt y from funext h]
theorem forthQ_nrm (z : QL) (s : F) (k : Nat) : forthQ (nrmQ z) s k = forthQ z s k := forthQ_same (nrmQ_len z) (nrmQ_at z) s k
theorem encP_zero : encP (0 : F2) = (0, 0) := by decide +kernel
/-- The polynomial of a polynomial's word. -/
theorem fin_forth (z : QL) (f : Int) (k : Nat) (hk : k ≤ 20) (hz : z.length ≤ 2 ^ k) : finV (forthQ z (shiftF f) k) f (z.length : Int) = (nrmQ z, true) := by
  have hl : (forthQ z (shiftF f) k).length = 2 ^ k := forthQ_len _ _ _
  have hg : lg ((forthQ z (shiftF f) k).length : Int) = ((k : Nat) : Int) := by rw [hl]; exact lg_pow k
  have hok : okB (forthQ z (shiftF f) k).length (shiftF f) := ⟨by rw [hg]; omega, by rw [hg]; omega, shiftF_ne f⟩
  have hC := finC_yes hok hg
  have hCl : (finC (forthQ z (shiftF f) k) f).length = 2 ^ k := by rw [hC, backQ_len]
  have hat : ∀ j, j < 2 ^ k → (finC (forthQ z (shiftF f) k) f).getD j (0, 0) = encP (qAt z j) := fun j hj => by rw [hC]; exact back_forthQ z _ (shiftF_ne f) k (by omega) hz hj
  rw [finV_yes ⟨hok, by omega, by rw [hCl]; exact Int.ofNat_le.2 hz, fun i h1 h2 => by
    rw [Int.toNat_natCast] at h1
    rw [hCl] at h2
    rw [hat i h2, qAt_out h1, encP_zero]⟩, Int.toNat_natCast]
  refine congrArg (fun r => (r, true)) (list_getD (by rw [List.length_take, hCl, nrmQ_len]; omega) fun i hi => ?_)
  rw [List.length_take, hCl] at hi
  have h1 : i < z.length := by omega
  rw [show ((finC (forthQ z (shiftF f) k) f).take z.length).getD i (0, 0) = (finC (forthQ z (shiftF f) k) f).getD i (0, 0) by simp [List.getD, h1], hat i (by omega)]
  simp [nrmQ, List.getD, h1]
/-! ### Down -/
def chZ (z ys : QL) (k : Nat) : Nat → QL
  | 0 => z
  | r + 1 => halfL (chZ z ys k r) (qAt ys r) (2 ^ (k - (r + 1)))
theorem chZ_len (z ys : QL) (k : Nat) (hz : z.length = 2 ^ k) : ∀ r, (chZ z ys k r).length = 2 ^ (k - r)
  | 0 => hz
  | r + 1 => halfL_len _ _ _
theorem chain_down (z ys : QL) (k m : Nat) (hz : z.length = 2 ^ k) (hkm : k < m) (hm : m ≤ 20) : ∀ r, r ≤ k → chW (forthQ z (shiftF 0) m) ys r = forthQ (chZ z ys k r) (shiftF (r : Int)) (m - r) ∧ chOk (forthQ z (shiftF 0) m) ys r = true
  | 0, _ => ⟨rfl, rfl⟩
  | r + 1, hr => by
    obtain ⟨h1, h2⟩ := chain_down z ys k m hz hkm hm r (by omega)
    have hl := chZ_len z ys k hz r
    have hle : 2 ^ (k - r) ≤ 2 ^ (m - (r + 1) + 1) := Nat.pow_le_pow_right (by decide) (by omega)
    have hpow : 2 ^ (k - r) = 2 * 2 ^ (k - (r + 1)) := by rw [show k - r = k - (r + 1) + 1 by omega, Nat.pow_succ, Nat.mul_comm]
    have hhalf : ((chZ z ys k r).length + 1) / 2 = 2 ^ (k - (r + 1)) := by rw [hl]; omega
    have hw := word_halves (chZ z ys k r) (chZ z ys k (r + 1)) (qAt ys r) (r : Int) (m - (r + 1)) (by omega) (by rw [hl]; exact hle) (by omega) (by rw [hhalf]; exact halfL_len _ _ _) (fun j => by
      have := halfL_at (chZ z ys k r) (qAt ys r) rfl j
      rw [hhalf] at this
      exact this)
    rw [show m - (r + 1) + 1 = m - r by omega] at hw
    have hb : chB (forthQ z (shiftF 0) m) ys r = true := by unfold chB; rw [h1, hw]
    refine ⟨?_, by rw [chOk_step h2]; exact hb⟩
    rw [chW, h1, hw, Int.natCast_add]
    rfl
end Go.Proofs.YthfkfgjhgicfeaaDoor
