/-
  ChainM: Words folded again and again; the polynomial in the end: plain.
  ChainRef: What the document's Words and Final of layer 21 come to. (Written by gen_cref.py.)
  ChainD: A polynomial's word, folded again and again, down to its polynomial: plain; what is asked of the program's calls of layer 21.
-/
import Derived.Test.YthfkfgjhgicfeaaGreatDoorGFold
import Derived.Test.YthfkfgjhgicfeaaGreatDoorGNtt
import Derived.Test.YthfkfgjhgicfeaaGreatDoorGRows
import Derived.Test.YthfkfgjhgicfeaaGreatDoorGRow
namespace Go.Proofs.YthfkfgjhgicfeaaGreatDoor
open Go Go.RowKit
set_option linter.unusedVariables false

/-- The word behind k folds. -/
def chW (l : QL) (ys : QL) : Nat → QL
  | 0 => l
  | k + 1 => (wordV (chW l ys k) (qAt ys k) (k : Int)).1
def chB (l ys : QL) (k : Nat) : Bool := (wordV (chW l ys k) (qAt ys k) (k : Int)).2
/-- May it be folded so often? -/
def chOk (l ys : QL) : Nat → Bool
  | 0 => true
  | k + 1 => chOk l ys k && chB l ys k
def chRows (l ys : QL) (k : Nat) : List QL := (List.range (k + 1)).map (chW l ys)
theorem chRows_len (l ys : QL) (k : Nat) : (chRows l ys k).length = k + 1 := by simp [chRows]
theorem chRows_at (l ys : QL) {k j : Nat} (h : j ≤ k) : (chRows l ys k).getD j [] = chW l ys j := by simp [chRows, List.getD, show j < k + 1 by omega]
theorem chRows_snoc (l ys : QL) (k : Nat) : chRows l ys (k + 1) = chRows l ys k ++ [chW l ys (k + 1)] := by simp [chRows, List.range_succ]
/-- All words, and whether it can be folded so often. -/
def chainV (l ys : QL) : List QL × Bool := if chOk l ys ys.length = true then (chRows l ys ys.length, true) else ([], false)
theorem chainV_yes {l ys : QL} (h : chOk l ys ys.length = true) : chainV l ys = (chRows l ys ys.length, true) := if_pos h
theorem chainV_no {l ys : QL} (h : ¬ chOk l ys ys.length = true) : chainV l ys = ([], false) := if_neg h
theorem chOk_le {l ys : QL} : ∀ {k j : Nat}, chOk l ys k = true → j ≤ k → chOk l ys j = true
  | 0, j, h, hj => by obtain rfl : j = 0 := by omega
                      exact h
  | k + 1, j, h, hj => by
    by_cases c : j = k + 1
    · rw [c]; exact h
    · rw [chOk, Bool.and_eq_true] at h
      exact chOk_le h.1 (by omega)
theorem chOk_at {l ys : QL} {k j : Nat} (h : chOk l ys k = true) (hj : j < k) : chB l ys j = true := by
  have := chOk_le h (show j + 1 ≤ k by omega)
  rw [chOk, Bool.and_eq_true] at this
  exact this.2
theorem chOk_step {l ys : QL} {k : Nat} (h : chOk l ys k = true) : chOk l ys (k + 1) = chB l ys k := by rw [chOk, h, Bool.true_and]
theorem chW_U {l ys : QL} (hl : ∀ n ∈ l, U n.1 ∧ U n.2) : ∀ k, ∀ n ∈ chW l ys k, U n.1 ∧ U n.2
  | 0 => hl
  | k + 1 => wordV_U (l := chW l ys k) (y := qAt ys k) (f := (k : Int)) (r := chW l ys (k + 1)) (ok := chB l ys k) (Prod.ext rfl rfl)
theorem wordV_len (l : QL) (y : F2) (f : Int) : (wordV l y f).1.length ≤ l.length / 2 := by
  by_cases h : 1 ≤ lg l.length ∧ lg l.length ≤ 20
  · rw [wordV_yes h]; exact Nat.le_of_eq (wordN_len _ _ _ _ _)
  · rw [wordV_no h]; exact Nat.zero_le _
theorem chW_le (l ys : QL) : ∀ k, (chW l ys k).length ≤ l.length
  | 0 => Nat.le_refl _
  | k + 1 => by
    have := wordV_len (chW l ys k) (qAt ys k) (k : Int)
    have h := chW_le l ys k
    show (wordV (chW l ys k) (qAt ys k) (k : Int)).1.length ≤ _
    omega
/-! ### The polynomial in the end -/
/-- All coefficients from a place on are 0. -/
def restZ (c : QL) (s : Nat) : Prop := ∀ i, s ≤ i → i < c.length → c.getD i (0, 0) = (0, 0)
instance (c : QL) (s : Nat) : Decidable (restZ c s) := decidable_of_iff (∀ i ∈ List.range c.length, s ≤ i → c.getD i (0, 0) = (0, 0)) ⟨fun h i hs hi => h i (List.mem_range.2 hi) hs, fun h i hi hs => h i hs (List.mem_range.1 hi)⟩
end Go.Proofs.YthfkfgjhgicfeaaGreatDoor
namespace Go.Proofs.YthfkfgjhgicfeaaGreatDoor
open Go Go.RowKit Go.Sort Go.BigFrame
set_option linter.unusedVariables false

def WordsPost (W : World) (rows : List QL) (ok : Bool) (e : Ending) (w' : World) : Prop :=
  Below W.heap.size W w' ∧ ∃ (a : Option Addr) (cap : Nat), e = .returned (.tuple #[.slice a rows.length cap, .bool ok]) ∧ TabQ w' a rows.length rows ∧ rows.length ≤ cap
theorem infoSl : (Tryz.prog.info? 24).map (fun i => (i.zero, i.size, i.bytes)) = some (some (.slice none 0 0), 1, 24) := by kernel_rfl
def CWr5 (B bb bo nb cb g go k cg nj cj : Nat) (aj : Option Addr) (y0 y1 : Int) (r : QL) (ok : Bool) (sl : Nat) (v : Value) (W : World) : Prop :=
  match sl with
  | 19 => v = .slice (some ⟨g, go, none⟩) (k + 1) cg
  | 20 => v = .int .i64 (k : Int)
  | 21 => v = .pointer (some ⟨g, go + k, none⟩)
  | 22 => v = .slice aj nj cj
  | 23 => v = .slice (some ⟨bb, bo, none⟩) nb cb
  | 24 => v = .int .i64 (k : Int)
  | 25 => v = .pointer (some ⟨bb, bo + k * 2, none⟩)
  | 26 => v = .agg #[.int .u64 y0, .int .u64 y1]
  | 27 => v = .int .i64 (k : Int)
  | 28 => ∃ (ar : Option Addr) (cr : Nat), v = .tuple #[.slice ar r.length cr, .bool ok] ∧ QRowA W ar r.length r ∧ ∀ x, ar = some x → B ≤ x.block
  | 18 => ∃ (ar : Option Addr) (cr : Nat), v = .tuple #[.slice ar r.length cr, .bool ok] ∧ QRowA W ar r.length r ∧ ∀ x, ar = some x → B ≤ x.block
  | 29 => ∃ (ar : Option Addr) (cr : Nat), v = .slice ar r.length cr ∧ QRowA W ar r.length r ∧ ∀ x, ar = some x → B ≤ x.block
  | 30 => v = .bool ok
  | 8 => ∃ (ar : Option Addr) (cr : Nat), v = .slice ar r.length cr ∧ QRowA W ar r.length r ∧ ∀ x, ar = some x → B ≤ x.block
  | 9 => v = .bool ok
  | _ => v = .bool true
theorem CWr5.keep {B bb bo nb cb g go k cg nj cj : Nat} {aj : Option Addr} {y0 y1 : Int} {r : QL} {ok : Bool} {sl : Nat} {v : Value} {W W' : World} (h : CWr5 B bb bo nb cb g go k cg nj cj aj y0 y1 r ok sl v W) (hb : Below W.heap.size W W') : CWr5 B bb bo nb cb g go k cg nj cj aj y0 y1 r ok sl v W' := by
  unfold CWr5 at *
  split at h
  all_goals first | exact h | (obtain ⟨ar, cr, e, hq, hx⟩ := h; exact ⟨ar, cr, e, hq.keep hb, hx⟩)
def WordsRel (w : World) (l ys : QL) (v i : Value) (W : World) : Prop := ∃ (k : Nat) (rs : Nat → Value), k ≤ ys.length ∧ i = .int .i64 (k : Int) ∧ chOk l ys k = true ∧ RowsUpQ w W v rs (chRows l ys k)
set_option maxRecDepth 100000 in
set_option maxHeartbeats 8000000 in
theorem rcwords_is (a : Option Addr) (n cap : Nat) (l : QL) (ab : Option Addr) (nb cb : Nat) (ys : QL) (rows : List QL) (ok : Bool) (w : World) (ha : QRowA w a n l) (hu : ∀ n ∈ l, U n.1 ∧ U n.2) (hb : QRowA w ab nb ys) (hub : ∀ n ∈ ys, U n.1 ∧ U n.2) (hnb : nb ≤ 1000) (hr : chainV l ys = (rows, ok)) :
    Calls Tryz.prog 23 #[.slice a n cap, .slice ab nb cb] w (WordsPost w rows ok) := by
  obtain rfl := ha.1
  have hlb := hb.1
  obtain ⟨i0, hi, hz0, hz1, hz2⟩ := info_parts infoSl
  have HA := Lib.hid ha; have HB2 := Lib.hid hb; have HU := Lib.hid hu; have HUB := Lib.hid hub; have HR := Lib.hid hr; have HLB := Lib.hid hlb
  have HST := Lib.hid (RowsUpQ.start (c := cap) ha)
  clear ha hb hu hub hr hlb
  go_enter Tryz.func23, Tryz.ntmps23
  go_upto_region 3 with fail
  go_loopw [6, 7] (WordsRel w l ys) (fun _ i _ => nb - (intOf i).toNat)
  case atStart => exact ⟨0, _, Nat.zero_le _, rfl, rfl, HST.out⟩
  case round =>
    clear HST
    obtain ⟨k, rs, hk, rfl, hok, hM⟩ := hrel
    rw [HLB.out] at hk
    have hcl := chRows_len l ys k
    obtain ⟨ag, cg, hv, hT, hcg⟩ := hM.told
    rw [hcl] at hv hT hcg
    by_cases hlt : k < nb
    · have hltI : (k : Int) < (nb : Int) := by omega
      have hk0 : (0 : Int) ≤ (k : Int) := by omega
      have hkg : (k : Int) < (k : Int) + 1 := by omega
      obtain ⟨g, go, rfl, aj, cj, oc, hq⟩ := hT.2.2 k (by omega)
      subst hv
      rw [chRows_at l ys (Nat.le_refl k)] at oc hq
      obtain ⟨bb, bo, rfl, y0c, y1c⟩ := (HB2.out.keep hM.1.2).2.2 k hlt
      have ry := qAt_rep HUB.out (show k < ys.length by rw [HLB.out]; exact hlt)
      obtain ⟨r, ok', hw⟩ : ∃ r o, wordV (chW l ys k) (qAt ys k) (k : Int) = (r, o) := ⟨_, _, rfl⟩
      have HQ := Lib.hid hq
      have kw := fun W (h : Below wr.heap.size wr W) => rfword_new aj _ cj (chW l ys k) _ _ (k : Int) _ r ok' W (HQ.out.keep h) (chW_U HU.out k) ry hw
      have hB1 : chB l ys k = ok' := by unfold chB; rw [hw]
      have hW1 : chW l ys (k + 1) = r := by rw [chW, hw]
      have HM := Lib.hid hM
      have HCB := Lib.hid hB1; have HCW := Lib.hid hW1; have HOK := Lib.hid hok
      clear hM hT hq ry hw hB1 hW1 hok
      unfold WordNew at kw
      generalize (ys.getD k (0, 0)).1 = y0 at *
      generalize (ys.getD k (0, 0)).2 = y1 at *
      generalize hnj : (chW l ys k).length = nj at *
      clear hnj
      go_upto_region 5 with fail
      refine wp_loose [(19, []), (20, []), (21, [19, 20]), (22, [21]), (23, []), (24, []), (25, [23, 24]), (26, [25]), (27, []), (28, [22, 26, 27]), (18, [28]), (29, [18]), (30, [18]), (8, [29]), (9, [30])]
        (CWr5 wr.heap.size bb bo nb cb g go k cg nj cj aj y0 y1 r ok') (fun d => false) (by kernel_rfl) (by kernel_rfl) (fun _ _ _ _ h hb => h.keep hb) ?_ ?_
      · refine opsrun_cons ?_ (opsrun_cons ?_ (opsrun_cons ?_ (opsrun_cons ?_ (opsrun_cons ?_ (opsrun_cons ?_ (opsrun_cons ?_ (opsrun_cons ?_ (opsrun_cons ?_ (opsrun_cons ?_ (opsrun_cons ?_ (opsrun_cons ?_ (opsrun_cons ?_ (opsrun_cons ?_ (opsrun_cons ?_ opsrun_nil))))))))))))))
        all_goals
          refine OpRuns.any ?_
          intro Q0 σ W' K hb hn hK
          simp only [fill, List.map, Act.put, List.setIfInBounds_toArray, List.set_cons_zero, List.set_cons_succ] at hK ⊢
        · clear hn
          go_simp
          exact hK _ _ rfl (Below.refl _ _) (fun h => absurd h (by decide))
        · clear hn
          go_simp
          exact hK _ _ rfl (Below.refl _ _) (fun h => absurd h (by decide))
        · have h19 : σ 19 = _ := hn 19 (by decide)
          have h20 : σ 20 = _ := hn 20 (by decide)
          clear hn
          simp only [h19, h20] at hK
          go_simp
          exact hK _ _ rfl (Below.refl _ _) (fun h => absurd h (by decide))
        · have h21 : σ 21 = _ := hn 21 (by decide)
          clear hn
          simp only [h21] at hK
          have oc' := bkeep hb oc
          clear oc
          go_simp
          exact hK _ _ rfl (Below.refl _ _) (fun h => absurd h (by decide))
        · clear hn
          go_simp
          exact hK _ _ rfl (Below.refl _ _) (fun h => absurd h (by decide))
        · clear hn
          go_simp
          exact hK _ _ rfl (Below.refl _ _) (fun h => absurd h (by decide))
        · have h23 : σ 23 = _ := hn 23 (by decide)
          have h24 : σ 24 = _ := hn 24 (by decide)
          clear hn
          simp only [h23, h24] at hK
          go_simp
          exact hK _ _ rfl (Below.refl _ _) (fun h => absurd h (by decide))
        · have h25 : σ 25 = _ := hn 25 (by decide)
          clear hn
          simp only [h25] at hK
          have y0c' := bkeep hb y0c
          have y1c' := bkeep hb y1c
          clear y0c y1c
          go_simp
          exact hK _ _ rfl (Below.refl _ _) (fun h => absurd h (by decide))
        · clear hn
          go_simp
          exact hK _ _ rfl (Below.refl _ _) (fun h => absurd h (by decide))
        · have h22 : σ 22 = _ := hn 22 (by decide)
          have h26 : σ 26 = _ := hn 26 (by decide)
          have h27 : σ 27 = _ := hn 27 (by decide)
          clear hn
          simp only [h22, h26, h27] at hK
          go_simp
          go_at_call 53
          refine (kw _ hb).mono ?_
          rintro e w1 ⟨hb1, ar, cr, rfl, hq, hx⟩
          exact hK _ _ ⟨ar, cr, rfl, hq, fun x h => Nat.le_trans hb.size (hx x h)⟩ hb1 (fun h => absurd h (by decide))
        · have p28 : ∃ (ar : Option Addr) (cr : Nat), (σ 28) = .tuple #[.slice ar r.length cr, .bool ok'] ∧ QRowA W' ar r.length r ∧ ∀ x, ar = some x → wr.heap.size ≤ x.block := hn 28 (by decide)
          clear hn
          obtain ⟨ar, cr, e, hq⟩ := p28
          simp only [e] at hK
          go_simp
          exact hK _ _ ⟨ar, cr, rfl, hq⟩ (Below.refl _ _) (fun h => absurd h (by decide))
        · have p18 : ∃ (ar : Option Addr) (cr : Nat), (σ 18) = .tuple #[.slice ar r.length cr, .bool ok'] ∧ QRowA W' ar r.length r ∧ ∀ x, ar = some x → wr.heap.size ≤ x.block := hn 18 (by decide)
          clear hn
          obtain ⟨ar, cr, e, hq⟩ := p18
          simp only [e] at hK
          go_simp
          exact hK _ _ ⟨ar, cr, rfl, hq⟩ (Below.refl _ _) (fun h => absurd h (by decide))
        · have p18 : ∃ (ar : Option Addr) (cr : Nat), (σ 18) = .tuple #[.slice ar r.length cr, .bool ok'] ∧ QRowA W' ar r.length r ∧ ∀ x, ar = some x → wr.heap.size ≤ x.block := hn 18 (by decide)
          clear hn
          obtain ⟨ar, cr, e, hq⟩ := p18
          simp only [e] at hK
          go_simp
          exact hK _ _ rfl (Below.refl _ _) (fun h => absurd h (by decide))
        · have p29 : ∃ (ar : Option Addr) (cr : Nat), (σ 29) = .slice ar r.length cr ∧ QRowA W' ar r.length r ∧ ∀ x, ar = some x → wr.heap.size ≤ x.block := hn 29 (by decide)
          clear hn
          obtain ⟨ar, cr, e, hq⟩ := p29
          simp only [e] at hK
          go_simp
          exact hK _ _ ⟨ar, cr, rfl, hq⟩ (Below.refl _ _) (fun h => absurd h (by decide))
        · have h30 : σ 30 = _ := hn 30 (by decide)
          clear hn
          simp only [h30] at hK
          go_simp
          exact hK _ _ rfl (Below.refl _ _) (fun h => absurd h (by decide))
      · intro σ W' hb hR' hF
        have h9 : σ 9 = .bool ok' := hR' 9 (by decide)
        obtain ⟨ar, cr, h8, hqr, hfr⟩ : ∃ (ar : Option Addr) (cr : Nat), σ 8 = .slice ar r.length cr ∧ QRowA W' ar r.length r ∧ ∀ x, ar = some x → wr.heap.size ≤ x.block := hR' 8 (by decide)
        have HM2 := Lib.hid (HM.out.keep hb)
        have HQR := Lib.hid hqr
        have HFR : Hid (∀ x, ar = some x → g < x.block) := Lib.hid fun x hx => Nat.lt_of_lt_of_le (World.block_lt_of_cell? _ _ oc) (hfr x hx)
        clear hR' hF hb hqr hfr oc y0c y1c kw HM HQ
        simp only [fill, List.map, Act.put, List.setIfInBounds_toArray, List.set_cons_zero, List.set_cons_succ, List.length_cons, List.length_nil, List.drop_succ_cons, List.drop_zero, Nat.reduceAdd, h8, h9]
        clear h8 h9
        cases ok'
        · have hno : ¬ chOk l ys ys.length = true := fun h => by
            have := chOk_at h (show k < ys.length by rw [HLB.out]; exact hlt)
            rw [HCB.out] at this; cases this
          obtain ⟨e1, e2⟩ := Prod.mk.inj ((chainV_no hno).symm.trans HR.out)
          subst e1 e2
          have HBE := Lib.hid HM2.out.1.2
          clear HM2 HQR HFR hno HCB HCW HOK
          go_wp2_with fail
          exact bodyPost_ret (v := .tuple #[.slice none 0 0, .bool false]) (by simp [results, Tryz.results23, go_sem]) rfl ⟨HBE.out, none, 0, rfl, TabQ.nil _, Nat.le_refl _⟩
        · have hown := HM2.out.1.1
          have hsz := HM2.out.1.2.size
          have hvl := valsR_len rs (chRows l ys k).length
          rw [hvl, hcl] at hown
          have HN : Hid (chOk l ys (k + 1) = true) := Lib.hid (by rw [chOk_step HOK.out]; exact HCB.out)
          have HRW := Lib.hid (chRows_snoc l ys k)
          rw [HCW.out] at HRW
          go_upto_region 4 with (at_builtin; refine wpList_append_own_at rfl _ _ 25 rfl w.heap.size 24 i0 (.slice none 0 0) 1 24 Tryz.underlying25 hi hz0 hz1 hz2 rfl (by decide) _ _ _ rfl (hown.alloc _) ⟨W'.heap.size, 0, none⟩ 1 1 [.slice ar r.length cr] rfl rfl ?c1 ?c2 ?c3 ?c4 ?c5 ?_)
          any_goals first | exact one_src (by simp [go_sem]) | (unfold maxLen; omega) | (show (k + 1 + 1) * 24 ≤ _; omega) | (show _ ≤ (W'.alloc _).heap.size; simp; omega) | (show _ ≤ W'.heap.size + 1; omega) | (intro u hu; simp at hu; subst hu; rfl) | rfl
          intro v' w4 hown' hgrow hat
          have HNX : Hid (RowsUpQ w w4 v' (fun j => if j = (chRows l ys k).length then .slice ar r.length cr else rs j) (chRows l ys (k + 1))) := Lib.hid (by
            rw [HRW.out]
            have hba : Below W'.heap.size W' (W'.alloc (.cells #[.slice ar r.length cr] 24)) := (Below.refl _ _).alloc (Nat.le_refl _) _
            refine (HM2.out.keep hba).more (HQR.out.keep hba) (fun _ x hx => ?_) hgrow (by simpa using hat) ?_
            · show some g ≠ some x.block
              have := HFR.out x hx
              intro e; have := Option.some.inj e; omega
            · refine MadeG.grow (HM2.out.1.keep hba) ?_ hgrow
              rw [hvl, hcl]
              exact hown')
          clear hown hown' hgrow hat HM2 HQR HFR hsz hvl HRW
          go_wp2_with fail
          go_roundw
          case rel => exact ⟨k + 1, _, by rw [HLB.out]; omega, by go_num, HN.out, HNX.out⟩
          case measure => simp [intOf]; omega
    · obtain rfl : k = nb := by omega
      have hltI : ¬ (k : Int) < (k : Int) := by omega
      subst hv
      have hyes : chOk l ys ys.length = true := by rw [HLB.out]; exact hok
      obtain ⟨e1, e2⟩ := Prod.mk.inj ((chainV_yes hyes).symm.trans HR.out)
      rw [HLB.out] at e1
      have HT := Lib.hid hT; have HBE := Lib.hid hM.1.2
      subst e2
      clear hT hM hyes hok
      go_wp2_with fail
      exact bodyPost_ret (v := .tuple #[.slice ag (k + 1) cg, .bool true]) (by simp [results, Tryz.results23, go_sem]) rfl ⟨HBE.out, ag, cg, by rw [← e1, hcl], by rw [← e1, hcl]; exact HT.out, by rw [← e1, hcl]; exact hcg⟩
theorem QRow.cut {W : World} {a : Option Addr} {n S c : Nat} {zs : List (Int × Int)} (h : QRow W (.slice a n c) zs) (hS : S ≤ n) : QRow W (.slice a S c) (zs.take S) := by
  rcases h with ⟨h, rfl⟩ | ⟨x, c', h, rfl⟩ | ⟨b, off, c', h, hc, hm, hcell⟩
  · cases h
    obtain rfl : S = 0 := by omega
    exact Or.inl ⟨rfl, by simp⟩
  · cases h
    obtain rfl : S = 0 := by omega
    exact Or.inr (Or.inl ⟨x, c, rfl, by simp⟩)
  · cases h
    have hl : (zs.take S).length = S := by rw [List.length_take]; omega
    refine Or.inr (Or.inr ⟨b, off, c, by rw [hl], by omega, hm, fun i hi => ?_⟩)
    rw [hl] at hi
    have e : (zs.take S).getD i (0, 0) = zs.getD i (0, 0) := by simp [List.getD, hi]
    rw [e]
    exact hcell i (by omega)
theorem QRow.le {W : World} {a : Option Addr} {n c : Nat} {zs : List (Int × Int)} (h : QRow W (.slice a n c) zs) : n ≤ c ∧ zs.length = n := by
  rcases h with ⟨h, rfl⟩ | ⟨x, c', h, rfl⟩ | ⟨b, off, c', h, hc, hm, hcell⟩
  · cases h; exact ⟨Nat.le_refl _, rfl⟩
  · cases h; exact ⟨Nat.zero_le _, rfl⟩
  · cases h; exact ⟨hc, rfl⟩
end Go.Proofs.YthfkfgjhgicfeaaGreatDoor
namespace Go.Proofs.YthfkfgjhgicfeaaGreatDoor
open Go Go.RowKit
set_option linter.unusedVariables false

/-! ### Forth and back -/
/-! ### Down -/
end Go.Proofs.YthfkfgjhgicfeaaGreatDoor
