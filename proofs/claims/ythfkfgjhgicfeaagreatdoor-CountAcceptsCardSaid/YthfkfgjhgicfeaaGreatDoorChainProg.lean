/-
  What the program's calls of layer 21 come to.
-/
import Derived.Test.YthfkfgjhgicfeaaGreatDoorGChain
import Derived.Test.YthfkfgjhgicfeaaGreatDoorFoldProg
import Derived.Test.YthfkfgjhgicfeaaGreatDoorGNttPro
import Derived.BigQuiet
namespace Go.Proofs.YthfkfgjhgicfeaaGreatDoor
open Go Go.RowKit Go.Sort Go.BigFrame
set_option linter.unusedVariables false

/-! ### Word, with the room of what it tells; BackPairs of a row with any room; Clone of any row -/
def WordRoom (W : World) (r : QL) (ok : Bool) (e : Ending) (w' : World) : Prop :=
  Below W.heap.size W w' ∧ ∃ (ar : Option Addr) (cr : Nat), e = .returned (.tuple #[.slice ar r.length cr, .bool ok]) ∧ QRowA w' ar r.length r ∧ (∀ x, ar = some x → W.heap.size ≤ x.block) ∧ r.length ≤ cr
set_option maxHeartbeats 4000000 in
theorem fword_room (a : Option Addr) (n cap : Nat) (l : List (Int × Int)) (y0 y1 f : Int) (y : F2) (r : List (Int × Int)) (ok : Bool) (w : World) (hT : Tab w) (ha : QRowA w a n l) (hrm : n ≤ cap) (hu : ∀ n ∈ l, U n.1 ∧ U n.2) (hl32 : l.length ≤ 4294967296) (hy : Rep y0 y1 y) (hf : I64 f) (hz : wordV l y f = (r, ok)) :
    Calls Tryz.prog 52 #[.slice a n cap, .agg #[.int .u64 y0, .int .u64 y1], .int .i64 f] w (WordRoom w r ok) := by
  obtain rfl := ha.1
  by_cases hl : 1 ≤ lg (l.length : Int) ∧ lg (l.length : Int) ≤ 20
  · obtain ⟨M, hM1, hM20, hM, hev, hhp, hN20⟩ := lg_even (by omega) hl.1 hl.2
    rw [wordV_yes hl, hM] at hz
    obtain ⟨hr, rfl⟩ := Prod.mk.inj hz
    have hp : 1 ≤ l.length / 2 := by rw [hhp]; exact Nat.one_le_two_pow
    obtain ⟨b, off, rfl, _, _⟩ := ha.2.2 0 (by omega)
    have hc : ∀ k, k < l.length → w.cell? ⟨b, off + k * 2, none⟩ = some (.int .u64 (l.getD k (0, 0)).1) ∧ w.cell? ⟨b, off + k * 2 + 1, none⟩ = some (.int .u64 (l.getD k (0, 0)).2) := fun k hk => by
      obtain ⟨b', off', e, c0, c1⟩ := ha.2.2 k hk
      cases e
      exact ⟨c0, c1⟩
    refine (fword_yes b off l.length cap l y0 y1 f y (l.length / 2) M w hT hc rfl hrm hu hN20 hev hp hM1 hM20 hM hy hf).mono ?_
    rintro e w' ⟨hb, g, hg, rfl, hA⟩
    have hlen : r.length = l.length / 2 := by rw [← hr, wordN_len]
    refine ⟨hb, some ⟨g, 0, none⟩, l.length / 2, by rw [hlen], ⟨rfl, by rw [hlen]; unfold maxLen; omega, fun k hk => ?_⟩, fun x hx => by cases hx; exact hg, by rw [hlen]; exact Nat.le_refl _⟩
    rw [hlen] at hk
    obtain ⟨c0, c1, _, _⟩ := hA.cells k hk
    have hat : r.getD k (0, 0) = encP (foldV (qAt l k) (qAt l (k + l.length / 2)) y (pt (shiftF f) M k)) := by rw [← hr, wordN_at _ _ _ _ hk, pointF_pt M (by omega)]
    exact ⟨g, 0, rfl, by rw [hat, Nat.zero_add]; exact c0, by rw [hat, Nat.zero_add]; exact c1⟩
  · have hz' := hz
    rw [wordV_no hl] at hz'
    obtain ⟨rfl, rfl⟩ := Prod.mk.inj hz'
    refine (fword_new a l.length cap l y0 y1 f y [] false w hT ha hrm hu hl32 hy hf hz).mono ?_
    rintro e w' ⟨hb, ar, cr, he, hq, hx⟩
    exact ⟨hb, ar, cr, he, hq, hx, Nat.zero_le _⟩
def CloneQ (w : World) (n : Nat) (zs : QL) (e : Ending) (w' : World) : Prop := ∃ a' c, e = .returned (.slice a' n c) ∧ n ≤ c ∧ Below w.heap.size w w' ∧ QRowA w' a' n zs
set_option maxHeartbeats 4000000 in
theorem clone_qany (a : Option Addr) (n cap : Nat) (zs : QL) (w : World) (hr : QRowA w a n zs) (hl : n ≤ 4294967296) :
    Calls Tryz.prog 51 #[.slice a n cap] w (CloneQ w n zs) := by
  by_cases h0 : 0 < n
  · refine (clone_q a n cap zs w hr h0 hl).mono ?_
    rintro e w' ⟨g, c, rfl, _, hnc, hcm, hb, hA⟩
    exact ⟨_, c, rfl, hnc, hb, (hA.qrowc hr.1 hnc hcm).at⟩
  obtain rfl : n = 0 := by omega
  obtain rfl : zs = [] := List.eq_nil_of_length_eq_zero hr.1
  have q := fun (w : World) (a : Option Addr) (n c n' c' : Nat) => Lib.run_eql_slice_nil (P := Tryz.prog) w 24 31 a n c n' c' Tryz.underlying24
  cases a with
  | none =>
    clear hr hl h0
    go_enter Tryz.func51, Tryz.ntmps51
    go_wp2
    go_ret
    exact ⟨none, 0, rfl, Nat.le_refl _, Below.refl _ _, qrowA_nil _⟩
  | some x =>
    obtain ⟨i0, hi, hz0, hz1, hz2⟩ := info_parts infoQ'
    clear hr hl h0
    go_enter Tryz.func51, Tryz.ntmps51
    go_wp2_with (at_builtin; refine wpList_append_own _ rfl _ _ 24 rfl w.heap.size 31 i0 (.agg #[.int .u64 0, .int .u64 0]) 2 16 Tryz.underlying24 hi hz0 hz1 hz2 rfl (by decide) _ _ _ rfl (World.ownsRow_made w #[] 0 (Nat.le_refl _) (Nat.zero_le _) (by simp)) x 0 cap [] rfl ?qc1 ?qc2 ?qc3 ?qc4 ?qc5 ?qc6 ?_)
    case qc1 => rfl
    case qc2 => intro j u hj; simp at hj
    case qc3 => intro u hu; simp at hu
    case qc4 => unfold maxLen; omega
    case qc5 => omega
    case qc6 => simp
    intro v' w1 hown hgrow hnil
    try simp only [Nat.zero_add, List.nil_append] at hown
    obtain ⟨av, cv, rfl⟩ := own_form hown
    have HB := Lib.hid (((Below.refl _ w).alloc (Nat.le_refl _) _).grown hgrow (by simp) (by intro k hk; simp [Value.ownBlock] at hk; omega))
    clear hown hgrow hnil
    go_wp2
    go_ret
    exact ⟨av, cv, rfl, Nat.zero_le _, HB.out, ⟨rfl, by unfold maxLen; omega, fun k hk => by omega⟩⟩
/-! ### Words -/
/-- Each row's room. -/
def RoomsR (rs : Nat → Value) (n : Nat) : Prop := ∀ j, j < n → ∀ a m c, rs j = .slice a m c → m ≤ c
theorem RowsUpQ.toldR {w W : World} {v : Value} {rs : Nat → Value} {rows : List (List (Int × Int))} (h : RowsUpQ w W v rs rows) : ∃ a c, v = .slice a rows.length c ∧ rows.length ≤ c ∧ rows.length ≤ maxLen ∧ ∀ k, k < rows.length → ∃ b off, a = some ⟨b, off, none⟩ ∧ W.cell? ⟨b, off + k, none⟩ = some (rs k) := by
  obtain ⟨a, c, e1, e2, e3, e4, e5⟩ := h.1.row
  rw [valsR_len] at e1 e2 e4 e5
  refine ⟨a, c, e1, e2, by omega, fun k hk => ?_⟩
  obtain ⟨b, off, e, hc⟩ := e5 k hk
  rw [valsR_at rs hk] at hc
  exact ⟨b, off, e, hc⟩
def NWr5 (B bx g go k cg nj cj : Nat) (aj : Option Addr) (y0 y1 : Int) (r : QL) (ok : Bool) (sl : Nat) (v : Value) (W : World) : Prop :=
  match sl with
  | 22 => v = .slice (some ⟨g, go, none⟩) (k + 1) cg
  | 23 => v = .int .i64 (k : Int)
  | 24 => v = .pointer (some ⟨g, go + k, none⟩)
  | 25 => v = .slice aj nj cj
  | 26 => v = .agg #[.int .u64 y0, .int .u64 y1]
  | 27 => v = .int .i64 (k : Int)
  | 28 => ∃ (ar : Option Addr) (cr : Nat), v = .tuple #[.slice ar r.length cr, .bool ok] ∧ QRowA W ar r.length r ∧ (∀ x, ar = some x → B ≤ x.block) ∧ r.length ≤ cr
  | 21 => ∃ (ar : Option Addr) (cr : Nat), v = .tuple #[.slice ar r.length cr, .bool ok] ∧ QRowA W ar r.length r ∧ (∀ x, ar = some x → B ≤ x.block) ∧ r.length ≤ cr
  | 29 => ∃ (ar : Option Addr) (cr : Nat), v = .slice ar r.length cr ∧ QRowA W ar r.length r ∧ (∀ x, ar = some x → B ≤ x.block) ∧ r.length ≤ cr
  | 30 => v = .bool ok
  | 9 => ∃ (ar : Option Addr) (cr : Nat), v = .slice ar r.length cr ∧ QRowA W ar r.length r ∧ (∀ x, ar = some x → B ≤ x.block) ∧ r.length ≤ cr
  | _ => v = .bool ok
theorem NWr5.keep {B bx g go k cg nj cj : Nat} {aj : Option Addr} {y0 y1 : Int} {r : QL} {ok : Bool} {sl : Nat} {v : Value} {W W' : World} (h : NWr5 B bx g go k cg nj cj aj y0 y1 r ok sl v W) (hb : Below W.heap.size W W') : NWr5 B bx g go k cg nj cj aj y0 y1 r ok sl v W' := by
  unfold NWr5 at *
  split at h
  all_goals first | exact h | (obtain ⟨ar, cr, e, hq, hx⟩ := h; exact ⟨ar, cr, e, hq.keep hb, hx⟩)
def NWordsRel (w : World) (l ys : QL) (v i : Value) (W : World) : Prop := ∃ (k : Nat) (rs : Nat → Value), k ≤ ys.length ∧ i = .int .i64 (k : Int) ∧ chOk l ys k = true ∧ RowsUpQ w W v rs (chRows l ys k) ∧ RoomsR rs (k + 1)
set_option maxRecDepth 100000 in
set_option maxHeartbeats 8000000 in
theorem nwords_is (a : Option Addr) (n cap : Nat) (l : QL) (ab : Option Addr) (nb cb : Nat) (ys : QL) (rows : List QL) (ok : Bool) (w : World) (ha : QRowA w a n l) (hu : ∀ n ∈ l, U n.1 ∧ U n.2) (hb : QRowA w ab nb ys) (hub : ∀ n ∈ ys, U n.1 ∧ U n.2) (hn32 : n ≤ 4294967296) (hnb : nb ≤ 1000) (hr : chainV l ys = (rows, ok)) (hT : Tab w) :
    Calls Tryz.prog 22 #[.slice a n cap, .slice ab nb cb] w (WordsPost w rows ok) := by
  obtain rfl := ha.1
  have hlb := hb.1
  obtain ⟨i0, hi, hz0, hz1, hz2⟩ := info_parts infoSl
  have kc := clone_qany a l.length cap l w ha hn32
  unfold CloneQ at kc
  have HU := Lib.hid hu; have HB2 := Lib.hid hb; have HUB := Lib.hid hub; have HR := Lib.hid hr; have HLB := Lib.hid hlb; have HT := Lib.hid hT; have HN32 := Lib.hid hn32
  clear ha hb hu hub hr hlb hT hn32
  go_enter Tryz.func22, Tryz.ntmps22
  go_upto_region 3 with (go_at_call 51; (with_reducible refine kc.mono ?_); rintro e w1 ⟨a', c', rfl, hnc, hbw, hq⟩; have HBW := Lib.hid hbw; have HST := Lib.hid (RowsUpQ.start (c := c') hq); have HRM : Hid (RoomsR (fun _ => Value.slice a' l.length c') (0 + 1)) := Lib.hid (fun j _ a m c e => by cases e; exact hnc); clear hbw hq hnc)
  clear kc
  go_loopw [6, 16] (NWordsRel w1 l ys) (fun _ i _ => nb - (intOf i).toNat)
  case atStart => exact ⟨0, _, Nat.zero_le _, rfl, rfl, HST.out, HRM.out⟩
  case round =>
    clear HST HRM
    obtain ⟨k, rs, hk, rfl, hok, hM, hrm⟩ := hrel
    rw [HLB.out] at hk
    have hcl := chRows_len l ys k
    by_cases hlt : k < nb
    · have hltI : (k : Int) < (nb : Int) := by omega
      have hk0 : (0 : Int) ≤ (k : Int) := by omega
      have hkg : (k : Int) < (k : Int) + 1 := by omega
      obtain ⟨ag, cg, hv, hcg, hmx, hcell⟩ := hM.toldR
      rw [hcl] at hv hcg hmx hcell
      obtain ⟨g, go, rfl, oc⟩ := hcell k (by omega)
      obtain ⟨aj, cj, hrs, hq, _⟩ := hM.2 k (by omega)
      rw [chRows_at l ys (Nat.le_refl k)] at hrs hq
      have hroom := hrm k (by omega) _ _ _ hrs
      rw [hrs] at oc
      subst hv
      obtain ⟨bb, bo, rfl, y0c, y1c⟩ := ((HB2.out.keep HBW.out).keep hM.1.2).2.2 k hlt
      have ry := qAt_rep HUB.out (show k < ys.length by rw [HLB.out]; exact hlt)
      obtain ⟨r, ok', hw⟩ : ∃ r o, wordV (chW l ys k) (qAt ys k) (k : Int) = (r, o) := ⟨_, _, rfl⟩
      have HQ := Lib.hid hq
      have kw := fun W (h : Below wr.heap.size wr W) => fword_room aj _ cj (chW l ys k) _ _ (k : Int) _ r ok' W (HT.out.keep (bthen (bthen HBW.out hM.1.2) h)) (HQ.out.keep h) hroom (chW_U HU.out k) (Nat.le_trans (chW_le l ys k) HN32.out) ry (by unfold I64; omega) hw
      have hB1 : chB l ys k = ok' := by unfold chB; rw [hw]
      have hW1 : chW l ys (k + 1) = r := by rw [chW, hw]
      have HM := Lib.hid hM; have HRM := Lib.hid hrm
      have HCB := Lib.hid hB1; have HCW := Lib.hid hW1; have HOK := Lib.hid hok
      clear hM hq ry hw hB1 hW1 hok hrm hrs hroom hcell hcl hmx hcg
      unfold WordRoom at kw
      generalize (ys.getD k (0, 0)).1 = y0 at *
      generalize (ys.getD k (0, 0)).2 = y1 at *
      generalize (chW l ys k).length = nj at *
      go_upto_region 5 with fail
      obtain ⟨bx, hbx⟩ : ∃ g, wr.heap.size = g := ⟨_, rfl⟩
      have hgl : g < bx := by rw [← hbx]; exact World.block_lt_of_cell? _ _ oc
      refine wp_gen (fun W => Below wr.heap.size wr W ∧ Duo W bx (.int .u64 y0) (.int .u64 y1)) ⟨(Below.refl _ _).alloc (Nat.le_refl _) _, by rw [← hbx]; simp [Duo, go_sem]⟩ ?_
      rintro w0 ⟨hB0, hD0⟩
      have HB0 := Lib.hid hB0
      have oc0 := bkeep hB0 oc
      obtain ⟨x0c, x1c, _, _⟩ := hD0
      have kw0 := fun W (h : Below w0.heap.size w0 W) => kw W (bthen hB0 h)
      have HBX := Lib.hid hbx
      simp only [hbx]
      clear oc y0c y1c hB0 kw hbx
      refine wp_loose [(22, []), (23, []), (24, [22, 23]), (25, [24]), (26, []), (27, []), (28, [25, 26, 27]), (21, [28]), (29, [21]), (30, [21]), (9, [29]), (10, [30])]
        (NWr5 w0.heap.size bx g go k cg nj cj aj y0 y1 r ok') (fun d => false) (by kernel_rfl) (by kernel_rfl) (fun _ _ _ _ h hb => h.keep hb) ?_ ?_
      · refine opsrun_cons ?_ (opsrun_cons ?_ (opsrun_cons ?_ (opsrun_cons ?_ (opsrun_cons ?_ (opsrun_cons ?_ (opsrun_cons ?_ (opsrun_cons ?_ (opsrun_cons ?_ (opsrun_cons ?_ (opsrun_cons ?_ (opsrun_cons ?_ opsrun_nil)))))))))))
        all_goals
          refine OpRuns.any ?_
          intro Q0 σ W' K hb hn hK
          simp only [fill, List.map, Act.put, List.setIfInBounds_toArray, List.set_cons_zero, List.set_cons_succ] at hK ⊢
        · clear hn
          go_simp
          exact hK _ _ rfl (Below.refl _ _) (fun h => absurd h (by decide))
        · clear hn
          go_simp
          exact hK _ _ rfl (Below.refl _ _) (fun h => absurd h (by decide))
        · have h22 : σ 22 = _ := hn 22 (by decide)
          have h23 : σ 23 = _ := hn 23 (by decide)
          clear hn
          simp only [h22, h23] at hK
          go_simp
          exact hK _ _ rfl (Below.refl _ _) (fun h => absurd h (by decide))
        · have h24 : σ 24 = _ := hn 24 (by decide)
          clear hn
          simp only [h24] at hK
          have oc' := bkeep hb oc0
          clear oc0
          go_simp
          exact hK _ _ rfl (Below.refl _ _) (fun h => absurd h (by decide))
        · clear hn
          have x0c' := bkeep hb x0c
          have x1c' := bkeep hb x1c
          clear x0c x1c
          go_simp
          exact hK _ _ rfl (Below.refl _ _) (fun h => absurd h (by decide))
        · clear hn
          go_simp
          exact hK _ _ rfl (Below.refl _ _) (fun h => absurd h (by decide))
        · have h25 : σ 25 = _ := hn 25 (by decide)
          have h26 : σ 26 = _ := hn 26 (by decide)
          have h27 : σ 27 = _ := hn 27 (by decide)
          clear hn
          simp only [h25, h26, h27] at hK
          go_simp
          go_at_call 52
          refine (kw0 _ hb).mono ?_
          rintro e w1 ⟨hb1, ar, cr, rfl, hq, hx, hc⟩
          exact hK _ _ ⟨ar, cr, rfl, hq, fun x h => Nat.le_trans hb.size (hx x h), hc⟩ hb1 (fun h => absurd h (by decide))
        · have p28 : ∃ (ar : Option Addr) (cr : Nat), (σ 28) = .tuple #[.slice ar r.length cr, .bool ok'] ∧ QRowA W' ar r.length r ∧ (∀ x, ar = some x → w0.heap.size ≤ x.block) ∧ r.length ≤ cr := hn 28 (by decide)
          clear hn
          obtain ⟨ar, cr, e, hq⟩ := p28
          simp only [e] at hK
          go_simp
          exact hK _ _ ⟨ar, cr, rfl, hq⟩ (Below.refl _ _) (fun h => absurd h (by decide))
        · have p21 : ∃ (ar : Option Addr) (cr : Nat), (σ 21) = .tuple #[.slice ar r.length cr, .bool ok'] ∧ QRowA W' ar r.length r ∧ (∀ x, ar = some x → w0.heap.size ≤ x.block) ∧ r.length ≤ cr := hn 21 (by decide)
          clear hn
          obtain ⟨ar, cr, e, hq⟩ := p21
          simp only [e] at hK
          go_simp
          exact hK _ _ ⟨ar, cr, rfl, hq⟩ (Below.refl _ _) (fun h => absurd h (by decide))
        · have p21 : ∃ (ar : Option Addr) (cr : Nat), (σ 21) = .tuple #[.slice ar r.length cr, .bool ok'] ∧ QRowA W' ar r.length r ∧ (∀ x, ar = some x → w0.heap.size ≤ x.block) ∧ r.length ≤ cr := hn 21 (by decide)
          clear hn
          obtain ⟨ar, cr, e, hq⟩ := p21
          simp only [e] at hK
          go_simp
          exact hK _ _ rfl (Below.refl _ _) (fun h => absurd h (by decide))
        · have p29 : ∃ (ar : Option Addr) (cr : Nat), (σ 29) = .slice ar r.length cr ∧ QRowA W' ar r.length r ∧ (∀ x, ar = some x → w0.heap.size ≤ x.block) ∧ r.length ≤ cr := hn 29 (by decide)
          clear hn
          obtain ⟨ar, cr, e, hq⟩ := p29
          simp only [e] at hK
          go_simp
          exact hK _ _ ⟨ar, cr, rfl, hq⟩ (Below.refl _ _) (fun h => absurd h (by decide))
        · have h30 : σ 30 = _ := hn 30 (by decide)
          clear hn
          simp only [h30] at hK
          go_simp
          exact hK _ _ rfl (Below.refl _ _) (fun h => absurd h (by decide))
      · intro σ W' hb hR' hF
        have h10 : σ 10 = .bool ok' := hR' 10 (by decide)
        obtain ⟨ar, cr, h9, hqr, hfr, hrc⟩ : ∃ (ar : Option Addr) (cr : Nat), σ 9 = .slice ar r.length cr ∧ QRowA W' ar r.length r ∧ (∀ x, ar = some x → w0.heap.size ≤ x.block) ∧ r.length ≤ cr := hR' 9 (by decide)
        have HM2 := Lib.hid ((HM.out.keep HB0.out).keep hb)
        have HQR := Lib.hid hqr; have HRC := Lib.hid hrc
        have HFR : Hid (∀ x, ar = some x → g < x.block) := Lib.hid fun x hx => by
          have := hfr x hx
          have h1 := HB0.out.size
          have h2 := HBX.out
          omega
        clear hR' hF hb hqr hfr hrc oc0 x0c x1c kw0 HM HQ
        simp only [fill, List.map, Act.put, List.setIfInBounds_toArray, List.set_cons_zero, List.set_cons_succ, List.length_cons, List.length_nil, List.drop_succ_cons, List.drop_zero, Nat.reduceAdd, h9, h10]
        clear h9 h10
        cases ok'
        · have hno : ¬ chOk l ys ys.length = true := fun h => by
            have := chOk_at h (show k < ys.length by rw [HLB.out]; exact hlt)
            rw [HCB.out] at this; cases this
          obtain ⟨e1, e2⟩ := Prod.mk.inj ((chainV_no hno).symm.trans HR.out)
          subst e1 e2
          have HBE := Lib.hid (bthen HBW.out HM2.out.1.2)
          clear HM2 HQR HFR hno HCB HCW HOK HRM HRC
          go_wp2_with fail
          exact bodyPost_ret (v := .tuple #[.slice none 0 0, .bool false]) (by simp [results, Tryz.results22, go_sem]) rfl ⟨HBE.out, none, 0, rfl, TabQ.nil _, Nat.le_refl _⟩
        · have hcl := chRows_len l ys k
          have hown := HM2.out.1.1
          have hsz := HM2.out.1.2.size
          have hvl := valsR_len rs (chRows l ys k).length
          rw [hvl, hcl] at hown
          have HN : Hid (chOk l ys (k + 1) = true) := Lib.hid (by rw [chOk_step HOK.out]; exact HCB.out)
          have HRW := Lib.hid (chRows_snoc l ys k)
          rw [HCW.out] at HRW
          have HRM2 : Hid (RoomsR (fun j => if j = (chRows l ys k).length then .slice ar r.length cr else rs j) (k + 1 + 1)) := Lib.hid (fun j hj a m c e => by
            replace e : (if j = (chRows l ys k).length then Value.slice ar r.length cr else rs j) = .slice a m c := e
            by_cases h : j = (chRows l ys k).length
            · rw [if_pos h] at e; cases e; exact HRC.out
            · rw [if_neg h] at e; rw [hcl] at h; exact HRM.out j (by omega) a m c e)
          clear HRM HRC
          go_upto_region 9 with (at_builtin; refine wpList_append_own_at rfl _ _ 25 rfl w1.heap.size 24 i0 (.slice none 0 0) 1 24 Tryz.underlying25 hi hz0 hz1 hz2 rfl (by decide) _ _ _ rfl (hown.alloc _) ⟨W'.heap.size, 0, none⟩ 1 1 [.slice ar r.length cr] rfl rfl ?c1 ?c2 ?c3 ?c4 ?c5 ?_)
          any_goals first | exact one_src (by simp [go_sem]) | (unfold maxLen; omega) | (show (k + 1 + 1) * 24 ≤ _; omega) | (show _ ≤ (W'.alloc _).heap.size; simp; omega) | (show _ ≤ W'.heap.size + 1; omega) | (intro u hu; simp at hu; subst hu; rfl) | rfl
          intro v' w4 hown' hgrow hat
          have HNX : Hid (RowsUpQ w1 w4 v' (fun j => if j = (chRows l ys k).length then .slice ar r.length cr else rs j) (chRows l ys (k + 1))) := Lib.hid (by
            rw [HRW.out]
            have hba : Below W'.heap.size W' (W'.alloc (.cells #[.slice ar r.length cr] 24)) := (Below.refl _ _).alloc (Nat.le_refl _) _
            refine (HM2.out.keep hba).more (HQR.out.keep hba) (fun _ x hx => ?_) hgrow (by simpa using hat) ?_
            · show some g ≠ some x.block
              have := HFR.out x hx
              intro e; have := Option.some.inj e; omega
            · refine MadeG.grow (HM2.out.1.keep hba) ?_ hgrow
              rw [hvl, hcl]
              exact hown')
          clear hown hown' hgrow hat HM2 HQR HFR hsz hvl HRW hcl
          go_wp2_with fail
          go_roundw
          case rel => exact ⟨k + 1, _, by rw [HLB.out]; omega, by go_num, HN.out, HNX.out, HRM2.out⟩
          case measure => simp [intOf]; omega
    · obtain rfl : k = nb := by omega
      have hltI : ¬ (k : Int) < (k : Int) := by omega
      obtain ⟨ag, cg, hv, hT2, hcg⟩ := hM.told
      rw [hcl] at hv hT2 hcg
      subst hv
      have hyes : chOk l ys ys.length = true := by rw [HLB.out]; exact hok
      obtain ⟨e1, e2⟩ := Prod.mk.inj ((chainV_yes hyes).symm.trans HR.out)
      rw [HLB.out] at e1
      have HT2 := Lib.hid hT2; have HBE := Lib.hid (bthen HBW.out hM.1.2)
      subst e2
      clear hT2 hM hyes hok hrm
      go_wp2_with fail
      exact bodyPost_ret (v := .tuple #[.slice ag (k + 1) cg, .bool true]) (by simp [results, Tryz.results22, go_sem]) rfl ⟨HBE.out, ag, cg, by rw [← e1, hcl], by rw [← e1, hcl]; exact HT2.out, by rw [← e1, hcl]; exact hcg⟩
/-! ### Final -/
/-- All are 0. -/
def ZeroR (l : QL) : Prop := ∀ j, j < l.length → l.getD j (0, 0) = (0, 0)
instance (l : QL) : Decidable (ZeroR l) := decidable_of_iff (∀ j ∈ List.range l.length, l.getD j (0, 0) = (0, 0)) ⟨fun h j hj => h j (List.mem_range.2 hj), fun h j hj => h j (List.mem_range.1 hj)⟩
theorem QRowA.drop {W : World} {b off n S : Nat} {zs : QL} (h : QRowA W (some ⟨b, off, none⟩) n zs) (hS : S ≤ n) : QRowA W (some ⟨b, off + S * 2, none⟩) (n - S) (zs.drop S) := by
  refine ⟨by rw [List.length_drop, h.1], by have := h.2.1; omega, fun k hk => ?_⟩
  obtain ⟨b', off', e, c0, c1⟩ := h.2.2 (S + k) (by omega)
  cases e
  have e2 : (zs.drop S).getD k (0, 0) = zs.getD (S + k) (0, 0) := by simp [List.getD]
  rw [e2]
  exact ⟨b, off + S * 2, rfl, by rw [show off + S * 2 + k * 2 = off + (S + k) * 2 by omega]; exact c0, by rw [show off + S * 2 + k * 2 + 1 = off + (S + k) * 2 + 1 by omega]; exact c1⟩
end Go.Proofs.YthfkfgjhgicfeaaGreatDoor
