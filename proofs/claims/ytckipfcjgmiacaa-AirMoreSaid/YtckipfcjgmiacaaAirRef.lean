/-
  What the document's Size and Rules of layer 18 come to. (Written by gen_airref.py.)
-/
import Derived.Test.YtckipfcjgmiacaaAirW
import Derived.Test.YtckipfcjgmiacaaShapeRef
import Derived.Test.YtckipfcjgmiacaaOpsRow
import Derived.Test.YtckipfcjgmiacaaRows3
import Derived.Test.YtckipfcjgmiacaaGRow
import Derived.Deep.Onto
namespace Go.Proofs.Ytckipfcjgmiacaa
open Go Go.RowKit
set_option linter.unusedVariables false

theorem infoOpS : (Try.prog.info? 34).map (fun i => (i.zero, i.size, i.bytes)) = some (some (.slice none 0 0), 1, 24) := by kernel_rfl
/-- One in a variable. -/
def AirC (W : World) (g : Nat) (A : AirP) (p : AirAt) : Prop := W.cell? ⟨g, 0, none⟩ = some (.int .i64 A.cols) ∧ W.cell? ⟨g, 1, none⟩ = some (.int .i64 A.log) ∧ W.cell? ⟨g, 2, none⟩ = some (.slice p.sa A.steps.length p.sc) ∧ W.cell? ⟨g, 3, none⟩ = some (.slice p.ra A.rules.length p.rc) ∧ W.cell? ⟨g, 4, none⟩ = some (.slice p.ba A.bounds.length p.bc)
theorem AirC.keep {W W' : World} {g : Nat} {A : AirP} {p : AirAt} (h : AirC W g A p) (hb : Below W.heap.size W W') : AirC W' g A p := ⟨bkeep hb h.1, bkeep hb h.2.1, bkeep hb h.2.2.1, bkeep hb h.2.2.2.1, bkeep hb h.2.2.2.2⟩
theorem AirC.new (W : World) (A : AirP) (p : AirAt) (t : TypeId) : AirC (W.alloc (.cells #[.int .i64 A.cols, .int .i64 A.log, .slice p.sa A.steps.length p.sc, .slice p.ra A.rules.length p.rc, .slice p.ba A.bounds.length p.bc] t)) W.heap.size A p := by simp [AirC, go_sem]
theorem wrapi_62 {k : Nat} (hk : k ≤ 62) : IntKind.i64.wrap (2 ^ k) = ((2 ^ k : Nat) : Int) := by
  have : ∀ k, k ≤ 62 → IntKind.i64.wrap (2 ^ k) = ((2 ^ k : Nat) : Int) := by decide +kernel
  exact this k hk
theorem rasize_any (c l : Int) (sa : Option Addr) (sn sc : Nat) (ra : Option Addr) (rn rc : Nat) (ba : Option Addr) (bn bc : Nat) (w : World) (hl : 0 ≤ l ∧ l ≤ 62) :
    Calls Try.prog 16 #[.agg #[.int .i64 c, .int .i64 l, .slice sa sn sc, .slice ra rn rc, .slice ba bn bc]] w fun e w' => e = .returned (.int .i64 ((2 ^ l.toNat : Nat) : Int)) ∧ Below w.heap.size w w' := by
  obtain ⟨K, rfl⟩ := Int.eq_ofNat_of_zero_le hl.1
  have e1 := wrapi_62 (k := K) (by omega)
  have e2 : IntKind.u64.wrap (K : Int) = (K : Int) := by rw [IntKind.wrap_u64]; omega
  rw [Int.toNat_natCast]
  have hb := (Below.refl w.heap.size w).alloc (Nat.le_refl _)
  generalize ((2 ^ K : Nat) : Int) = M at *
  go_enter Try.func16, Try.ntmps16
  go_wp2
  go_ret
  exact ⟨rfl, hb _⟩
theorem rasize_is (A : AirP) (p : AirAt) (w : World) (hn : A.near) : Calls Try.prog 16 #[A.val p] w fun e w' => e = .returned (.int .i64 A.size) ∧ Below w.heap.size w w' :=
  rasize_any _ _ _ _ _ _ _ _ _ _ _ w ⟨hn.1, by have := hn.2.1; omega⟩
/-! ### All rules -/
def valsV (rs : Nat → Value) (k : Nat) : List Value := (List.range k).map rs
theorem valsV_len (rs : Nat → Value) (k : Nat) : (valsV rs k).length = k := by simp [valsV]
theorem valsV_snoc (rs : Nat → Value) (v : Value) (k : Nat) : valsV rs k ++ [v] = valsV (fun j => if j = k then v else rs j) (k + 1) := by
  simp only [valsV, List.range_succ, List.map_append, List.map_cons, List.map_nil, if_true]
  congr 1
  refine List.map_congr_left fun j hj => ?_
  rw [if_neg (by have := List.mem_range.1 hj; omega)]
theorem valsV_at (rs : Nat → Value) {k j : Nat} (h : j < k) : (valsV rs k).getD j undef = rs j := by simp [valsV, List.getD, h]
/-- Rules under way, in rows of their own. -/
def RulesUp (w W : World) (v : Value) (ks : List (List Opn)) : Prop :=
  ∃ rs : Nat → Value, MadeG 34 w W v (valsV rs ks.length) ∧ ∀ j, j < ks.length → W.ownsRow w.heap.size 51 2 (rs j) (ks.getD j []).length (flatO (ks.getD j []))
theorem RulesUp.start {w W : World} (h : Below w.heap.size w W) : RulesUp w W (.slice none 0 0) [] := ⟨fun _ => undef, MadeG.nil h, fun j hj => absurd hj (by simp)⟩
theorem RulesUp.keep {w W W' : World} {v : Value} {ks : List (List Opn)} (h : RulesUp w W v ks) (hb : Below W.heap.size W W') : RulesUp w W' v ks := by
  obtain ⟨rs, h1, h2⟩ := h
  exact ⟨rs, h1.keep hb, fun j hj => own_keep (h2 j hj) hb⟩
theorem RulesUp.below {w W : World} {v : Value} {ks : List (List Opn)} (h : RulesUp w W v ks) : Below w.heap.size w W := by
  obtain ⟨rs, h1, h2⟩ := h
  exact h1.2
/-- One more. -/
theorem RulesUp.more {w W W' : World} {v v' u : Value} {ks : List (List Opn)} {l : List Opn} {rs : Nat → Value} (h1 : MadeG 34 w W v (valsV rs ks.length)) (h2 : ∀ j, j < ks.length → W.ownsRow w.heap.size 51 2 (rs j) (ks.getD j []).length (flatO (ks.getD j [])))
    (hu : W.ownsRow w.heap.size 51 2 u l.length (flatO l)) (hg : W.grownBy W' v.ownBlock) (h1' : MadeG 34 w W' v' (valsV rs ks.length ++ [u])) : RulesUp w W' v' (ks ++ [l]) := by
  refine ⟨fun j => if j = ks.length then u else rs j, by rw [List.length_append, show ks.length + [l].length = ks.length + 1 from rfl, ← valsV_snoc]; exact h1', fun j hj => ?_⟩
  by_cases e : j = ks.length
  · subst e
    have e2 : (ks ++ [l]).getD ks.length [] = l := by simp [List.getD]
    have e3 : (fun j => if j = ks.length then u else rs j) ks.length = u := if_pos rfl
    rw [e2, e3]
    exact hu.kept hg (own_unlike hu h1.1 (by decide))
  · have hj' : j < ks.length := by rw [List.length_append] at hj; simp at hj; omega
    have e2 : (ks ++ [l]).getD j [] = ks.getD j [] := by simp only [List.getD]; rw [List.getElem?_append_left hj']
    have e3 : (fun j => if j = ks.length then u else rs j) j = rs j := if_neg e
    rw [e2, e3]
    exact (h2 j hj').kept hg (own_unlike (h2 j hj') h1.1 (by decide))
/-- What they read as. -/
theorem RulesUp.told {w W : World} {v : Value} {ks : List (List Opn)} (h : RulesUp w W v ks) : ∃ a c, v = .slice a ks.length c ∧ OpsA W a ks.length ks ∧ (a = none → c = 0) := by
  obtain ⟨rs, h1, h2⟩ := h
  obtain ⟨a, c, e1, e2, e3, e4, e5⟩ := h1.row
  rw [valsV_len] at e1 e2 e4 e5
  refine ⟨a, c, e1, ⟨rfl, by omega, fun k hk => ?_⟩, fun h => (e4 h).2⟩
  obtain ⟨b, off, e, hc⟩ := e5 k hk
  rw [valsV_at rs hk] at hc
  obtain ⟨ak, ck, hv, ho, hn⟩ := own_oprow (h2 k hk)
  exact ⟨b, off, e, ak, ck, by rw [hc, hv], ho, hn⟩
theorem opsA_nil (W : World) : OpsA W none 0 [] := ⟨rfl, by unfold maxLen; omega, fun k hk => by omega⟩
theorem flatO_cons (o : Opn) (l : List Opn) : flatO (o :: l) = .int .i64 o.1 :: .int .u64 o.2 :: flatO l := by simp [flatO]
theorem flatO_app (l m : List Opn) : flatO (l ++ m) = flatO l ++ flatO m := by simp [flatO]
theorem parse_okO {s : ByteArray} {l : List Opn} (h : parseB s = (l, 0)) : (∀ o ∈ l, OkO o) ∧ l.length ≤ 256 := by
  obtain ⟨_, h1, h2⟩ := parse_back h
  refine ⟨fun o ho => ?_, h2⟩
  obtain ⟨r, u⟩ := h1 o ho
  have := right_kind r
  exact ⟨by omega, u⟩
theorem AirP.text_step {A : AirP} {k : Nat} (h : k < A.steps.length) : A.text k = tx A.steps k := if_pos h
theorem AirP.text_rule {A : AirP} {k : Nat} (h : ¬ k < A.steps.length) : A.text k = tx A.rules (k - A.steps.length) := if_neg h
theorem tx_mem {l : List ByteArray} {k : Nat} (h : k < l.length) : tx l k ∈ l := by
  unfold tx
  simp [List.getD, h]
theorem AirP.one_parse {A : AirP} {k : Nat} {l : List Opn} {e : Int} (h : parseB (A.text k) = (l, e)) (he : e ≠ 0) : A.one k = ([], e) := ruleB_parse h he
theorem AirP.one_check {A : AirP} {k : Nat} {l : List Opn} {d : Nat} {e : Int} {nx : Bool} (hn : decide (¬ k < A.steps.length) = nx) (h : parseB (A.text k) = (l, 0)) (hc : checkB l A.cols nx = (d, e)) (he : e ≠ 0) : A.one k = ([], e) := by subst hn; exact ruleB_check h hc he
theorem AirP.one_ok {A : AirP} {k : Nat} {l : List Opn} {d : Nat} {nx : Bool} (hn : decide (¬ k < A.steps.length) = nx) (h : parseB (A.text k) = (l, 0)) (hc : checkB l A.cols nx = (d, 0)) : A.one k = (l, 0) := by subst hn; exact ruleB_ok h hc
theorem AirP.all_ok2 {A : AirP} (h : A.fits) : A.all = A.upto A.count := by unfold AirP.all; rw [if_pos h]
def RulesRel (w0 : World) (A : AirP) (o i : Value) (W : World) : Prop :=
  ∃ (k : Nat) (ks : List (List Opn)), k ≤ A.count ∧ ks.length = k ∧ i = .int .i64 k ∧ RulesUp w0 W o ks ∧ A.upto k = (ks, 0)
theorem rarules_no (A : AirP) (p : AirAt) (ls : List (List Opn)) (r : Int) (w : World) (hA : AirA w A p) (hk : OkAir A) (hf : FewAir A) (hfit : ¬ A.fits) (hr : A.all = (ls, r)) : Calls Try.prog 12 #[A.val p] w (RulesPost w ls r) := by
  have hno : A.all = ([], 1) := by unfold AirP.all; rw [if_neg hfit]
  have hb0 := fun o => (Below.refl w.heap.size w).alloc (Nat.le_refl _) o
  have hl1 := hf.1; have hl2 := hf.2.1
  by_cases h1 : A.cols < 1
  · obtain ⟨rfl, rfl⟩ := Prod.mk.inj (hno.symm.trans hr)
    clear hA hk hf hr hno
    go_enter Try.func12, Try.ntmps12
    go_wp2
    exact bodyPost_ret (v := .tuple #[.slice none 0 0, .int .i64 1]) (by simp [results, Try.results12, go_sem]) rfl ⟨hb0 _, none, 0, rfl, opsA_nil _, fun _ => rfl⟩
  by_cases h2 : 8 < A.cols
  · obtain ⟨rfl, rfl⟩ := Prod.mk.inj (hno.symm.trans hr)
    clear hA hk hf hr hno
    go_enter Try.func12, Try.ntmps12
    go_wp2
    exact bodyPost_ret (v := .tuple #[.slice none 0 0, .int .i64 1]) (by simp [results, Try.results12, go_sem]) rfl ⟨hb0 _, none, 0, rfl, opsA_nil _, fun _ => rfl⟩
  by_cases h3 : (A.steps.length : Int) = 0
  · by_cases h4 : (16 : Int) < (A.rules.length : Int)
    · obtain ⟨rfl, rfl⟩ := Prod.mk.inj (hno.symm.trans hr)
      clear hA hk hf hr hno
      go_enter Try.func12, Try.ntmps12
      go_wp2
      exact bodyPost_ret (v := .tuple #[.slice none 0 0, .int .i64 1]) (by simp [results, Try.results12, go_sem]) rfl ⟨hb0 _, none, 0, rfl, opsA_nil _, fun _ => rfl⟩
    · exact absurd ⟨by omega, by omega, .inl (by omega), by omega⟩ hfit
  by_cases h5 : (A.steps.length : Int) = A.cols
  · by_cases h4 : (16 : Int) < (A.rules.length : Int)
    · obtain ⟨rfl, rfl⟩ := Prod.mk.inj (hno.symm.trans hr)
      clear hA hk hf hr hno
      go_enter Try.func12, Try.ntmps12
      go_wp2
      exact bodyPost_ret (v := .tuple #[.slice none 0 0, .int .i64 1]) (by simp [results, Try.results12, go_sem]) rfl ⟨hb0 _, none, 0, rfl, opsA_nil _, fun _ => rfl⟩
    · exact absurd ⟨by omega, by omega, .inr h5, by omega⟩ hfit
  obtain ⟨rfl, rfl⟩ := Prod.mk.inj (hno.symm.trans hr)
  have h3b : ((A.steps.length : Int) != 0) = true := by simpa using h3
  have h5b : ((A.steps.length : Int) != A.cols) = true := by simpa using h5
  clear hA hk hf hr hno
  go_enter Try.func12, Try.ntmps12
  go_wp2
  exact bodyPost_ret (v := .tuple #[.slice none 0 0, .int .i64 1]) (by simp [results, Try.results12, go_sem]) rfl ⟨hb0 _, none, 0, rfl, opsA_nil _, fun _ => rfl⟩
theorem own_mono' {W : World} {B B' : Nat} {e : TypeId} {size n : Nat} {v : Value} {xs : List Value} (h : W.ownsRow B' e size v n xs) (hb : B ≤ B') : W.ownsRow B e size v n xs := h.mono hb
theorem lit_two (W : World) (o : Obj) : ((W.alloc o).alloc (.cells #[] 51)).ownsRow (W.heap.size + 1) 51 2 (.slice (some ⟨W.heap.size + 1, 0, none⟩) 0 0) 0 [] := by
  have h := World.ownsRow_lit (e := 51) (size := 2) (W.alloc o) #[] 0 (Nat.le_refl _) (by unfold maxLen; omega) rfl
  rw [show (W.alloc o).heap.size = W.heap.size + 1 by simp] at h
  exact h
theorem lit_below (W : World) (o o' : Obj) : Below (W.heap.size + 1) (W.alloc o) ((W.alloc o).alloc o') := (Below.refl _ _).alloc (by simp) _
theorem lit_one (W : World) (k : Int) : (W.alloc (.cells #[.int .i64 2, .int .u64 k] 51)).ownsRow W.heap.size 51 2 (.slice (some ⟨W.heap.size, 0, none⟩) 1 1) 1 [.int .i64 2, .int .u64 k] :=
  World.ownsRow_lit (e := 51) (size := 2) W #[.int .i64 2, .int .u64 k] 1 (Nat.le_refl _) (by unfold maxLen; omega) rfl
theorem below_sz {W W1 : World} {o : Obj} (h : Below (W.heap.size + 1) (W.alloc o) W1) : Below (W.alloc o).heap.size (W.alloc o) W1 := by
  rw [show (W.alloc o).heap.size = W.heap.size + 1 by simp]; exact h
theorem below_lit {W W1 : World} {o : Obj} (h : Below (W.heap.size + 1) (W.alloc o) W1) : Below W.heap.size W W1 := bthen ((Below.refl _ _).alloc (Nat.le_refl _) o) (below_sz h)
theorem below_two {W W1 : World} {o : Obj} (h : Below (W.alloc o).heap.size (W.alloc o) W1) : Below W.heap.size W W1 := bthen ((Below.refl _ _).alloc (Nat.le_refl _) o) h
theorem step_row {W : World} {B : Nat} {a : Option Addr} {c : Nat} {m : List Opn} (h : W.ownsRow B 51 2 (.slice a (m.length + 1) c) (m.length + 1) (flatO m ++ [.int .i64 5, .int .u64 0])) : OpA W a (m ++ [(5, 0)]).length (m ++ [(5, 0)]) ∧ (a = none → c = 0) := by
  have e : flatO (m ++ [(5, 0)]) = flatO m ++ [.int .i64 5, .int .u64 0] := by rw [flatO_app]; rfl
  obtain ⟨a', c', hv, ho, hn⟩ := own_oprow (l := m ++ [(5, 0)]) (by rw [e, List.length_append]; exact h)
  simp only [Value.slice.injEq] at hv
  obtain ⟨rfl, _, rfl⟩ := hv
  exact ⟨ho, hn⟩
theorem step_nil {W : World} {B : Nat} {a : Option Addr} {c : Nat} {m : List Opn} (h : W.ownsRow B 51 2 (.slice a (m.length + 1) c) (m.length + 1) (flatO m ++ [.int .i64 5, .int .u64 0])) : a = none → c = 0 := (step_row h).2
theorem step_nil0 {W : World} {B : Nat} {a : Option Addr} {c : Nat} {m : List Opn} (h : W.ownsRow B 51 2 (.slice a (m.length + 1) c) (m.length + 1) (flatO m ++ [.int .i64 5, .int .u64 0])) : a = none → m.length + 1 = 0 := fun e => by
  have := opA_nil0 (step_row h).1 e
  simp at this
theorem step_cells {W : World} {B : Nat} {a : Option Addr} {c : Nat} {m : List Opn} (h : W.ownsRow B 51 2 (.slice a (m.length + 1) c) (m.length + 1) (flatO m ++ [.int .i64 5, .int .u64 0])) : ∀ ad, a = some ad → ∀ j u, (flatO (m ++ [(5, 0)]))[j]? = some u → W.cell? (ad.add j) = some u := opA_cells (step_row h).1
set_option maxRecDepth 100000 in
set_option maxHeartbeats 8000000 in
theorem rarules_is (A : AirP) (p : AirAt) (ls : List (List Opn)) (r : Int) (w : World) (hA : AirA w A p) (hk : OkAir A) (hf : FewAir A) (hr : A.all = (ls, r)) : Calls Try.prog 12 #[A.val p] w (RulesPost w ls r) := by
  by_cases hfit : A.fits
  case neg => exact rarules_no A p ls r w hA hk hf hfit hr
  obtain ⟨i0, hi, hz0, hz1, hz2⟩ := info_parts infoOp
  obtain ⟨i1, ki, kz0, kz1, kz2⟩ := info_parts infoOpS
  have HFIT := Lib.hid hfit; have HR := Lib.hid hr
  obtain ⟨g1, g2, g3, g4⟩ := hfit
  have hg1 : ¬ A.cols < 1 := by omega
  have hg2 : ¬ 8 < A.cols := by omega
  have hg4 : ¬ (16 : Int) < (A.rules.length : Int) := by omega
  have hsl : A.steps.length ≤ 8 := by omega
  have hsum : IntKind.i64.wrap ((A.steps.length : Int) + (A.rules.length : Int)) = (A.count : Int) := by rw [IntWalk.i64_in _ (by omega)]; unfold AirP.count; omega
  have hsum' : wrap64 ((A.steps.length : Int) + (A.rules.length : Int)) = (A.count : Int) := by rw [IntWalk.wrap64_in _ (by omega)]; unfold AirP.count; omega
  have hcl : A.count ≤ 24 := by unfold AirP.count; omega
  have HCNT : Hid (A.count = A.steps.length + A.rules.length) := Lib.hid rfl
  have hA0' := Lib.hid hA
  clear hr hA
  go_enter Try.func12, Try.ntmps12
  go_upto_region 1 with fail
  refine wp_gen (fun W => Below w.heap.size w W ∧ AirC W w.heap.size A p) ⟨(Below.refl _ _).alloc (Nat.le_refl _) _, AirC.new _ _ _ _⟩ ?_
  obtain ⟨g, hg⟩ : ∃ g, w.heap.size = g := ⟨_, rfl⟩
  rintro w0 ⟨hB0, hC0⟩
  rw [hg] at hC0
  simp only [hg]
  have hA0 := hA0'.out.keep hB0
  have HB0 := Lib.hid hB0
  have HC0 := Lib.hid hC0; have HA0 := Lib.hid hA0
  clear hB0 hg hA0'
  obtain ⟨x0, x1, x2, x3, x4⟩ := hC0
  have hgd : (A.steps.length : Int) = 0 ∨ (¬ (A.steps.length : Int) = 0 ∧ (A.steps.length : Int) = A.cols) := by omega
  rcases hgd with hns | ⟨hns, hnc⟩
  · go_upto_region 5 with fail
    clear hns g1 g2 g3 g4 hg1 hg2 hg4 x0 x1 x2 x3 x4
    go_loopw [4, 5] (RulesRel w0 A) (fun _ i _ => A.count - (intOf i).toNat)
    case atStart => exact ⟨0, [], Nat.zero_le _, rfl, rfl, RulesUp.start (Below.refl _ _), rfl⟩
    case round =>
      obtain ⟨k, ks, hk2, hlen, rfl, hU, hup⟩ := hrel
      have HU := Lib.hid hU; have HUP := Lib.hid hup; have HLN := Lib.hid hlen
      obtain ⟨x0, x1, x2, x3, x4⟩ := HC0.out.keep hU.below
      have hC0 := HC0.out
      clear hU hup hlen
      rename_i u4 _
      by_cases hlt : k < A.count
      · have hltI : (k : Int) < (A.count : Int) := by omega
        have hk0 : (0 : Int) ≤ (k : Int) := by omega
        by_cases hst : k < A.steps.length
        · have hstI : (k : Int) < (A.steps.length : Int) := by omega
          have hnx : decide (¬ k < A.steps.length) = false := decide_eq_false (by simpa using hst)
          have hform : A.form k = stepO k := funext fun l => if_pos hst
          have hT := hk.steps _ (tx_mem hst)
          rw [← AirP.text_step hst] at hT
          obtain ⟨b, off, hpa, cs⟩ := ((hA0.keep HU.out.below).1).2 k hst
          rw [← AirP.text_step hst] at cs
          rw [hpa] at x2
          clear hpa
          obtain ⟨m, e, hp⟩ : ∃ m e, parseB (A.text k) = (m, e) := ⟨_, _, rfl⟩
          have kp := fun W => rcparse_own (A.text k) m e W hT hp
          have HT2 := Lib.hid hp
          have HP := HT2
          generalize hTT : A.text k = T at cs kp
          clear hTT
          have HCO := Lib.hid (hC0.keep HU.out.below)
          clear hp hT
          go_upto_region 13 with (go_at_call 26; (with_reducible refine (kp _).mono ?_); rintro E w1 ⟨hb, v1, rfl, ho1⟩)
          by_cases he : e = 0
          · subst he
            obtain ⟨a1, c1, rfl, hO1, hN1⟩ := own_oprow ho1
            have hm := parse_okO HT2.out
            have hm256 := hm.2
            have HU1 := Lib.hid (HU.out.keep hb)
            have HO1 := Lib.hid hO1; have HN1 := Lib.hid hN1; have HR1 := Lib.hid ho1; have HB1 := Lib.hid hb
            obtain ⟨d, e2, hz⟩ : ∃ d e2, checkB m A.cols false = (d, e2) := ⟨_, _, rfl⟩
            have kc := fun W h => rscheck_is a1 c1 m A.cols false d e2 W h hm.1 hk.cols hz
            have HZ := Lib.hid hz
            have y0 := (HCO.out.keep hb).1
            clear ho1 hO1 hN1 hm hz hb x0 x1 x2 x3 x4 cs HCO
            go_upto_region 16 with (go_at_call 27; (with_reducible refine (kc _ HO1.out).mono ?_); rintro E w2 ⟨rfl, hb⟩)
            have HU2 := Lib.hid (HU1.out.keep hb); have HR2 := Lib.hid (own_keep (own_mono' HR1.out HU.out.below.size) hb)
            have hO2 := HO1.out.keep hb
            clear hb HU1 HR1 HB1 HO1 kc y0
            by_cases he2 : e2 = 0
            · subst he2
              have HS := Lib.hid (AirP.upto_go HUP.out (AirP.one_ok hnx HT2.out HZ.out))
              rw [hform] at HS
              have HO1 := Lib.hid hO2
              obtain ⟨Wc, hWc⟩ : ∃ W, w2 = W := ⟨_, rfl⟩
              rw [hWc] at HU2 HR2 HO1
              simp only [hWc]
              clear hWc hO2 HZ HU kp
              have hwk : IntKind.u64.wrap (k : Int) = (k : Int) := by rw [IntKind.wrap_u64]; omega
              clear HP HT2
              go_upto_region 20 with (first
                | (at_builtin; refine wpList_append3 rfl _ _ 34 rfl (Wc.heap.size + 1) 51 i0 (.agg #[.int .i64 0, .int .u64 0]) 2 16 Try.underlying34 hi hz0 hz1 hz2 rfl (by decide) _ 0 [] rfl (lit_two Wc (.cells #[.int .i64 2, .int .u64 (k : Int)] 51)) a1 m.length c1 (flatO m) rfl (flatO_len2 m) HN1.out (opA_nil0 HO1.out) (fun ad e => opA_cells (HO1.out.keep (bthen ((Below.refl _ _).alloc (Nat.le_refl _) _) ((Below.refl _ _).alloc (Nat.le_refl _) _))) ad e) (flatO_one m) (by unfold maxLen; omega) (by omega) (by simp) ?_; rintro v3 w3 q1 q2 _; rw [Nat.zero_add, List.nil_append] at q1; obtain ⟨a3, c3, rfl⟩ := own_form q1; have HBX := Lib.hid (own_row_below (lit_two Wc (.cells #[.int .i64 2, .int .u64 (k : Int)] 51)) (lit_below Wc (.cells #[.int .i64 2, .int .u64 (k : Int)] 51) _) q2 (Nat.le_refl _) (by simp)); have HR3 := Lib.hid q1; clear q1 q2)
                | (at_builtin; refine wpList_append_own _ rfl _ _ 34 rfl (Wc.heap.size + 1) 51 i0 (.agg #[.int .i64 0, .int .u64 0]) 2 16 Try.underlying34 hi hz0 hz1 hz2 rfl (by decide) _ _ _ rfl (HR3.out.alloc _) ⟨w3.heap.size, 0, none⟩ 1 1 [.int .i64 5, .int .u64 0] rfl rfl (two_src (by simp [go_sem]) (by simp [go_sem])) (by intro u hu; simp at hu; rcases hu with rfl | rfl <;> rfl) (by unfold maxLen; omega) (by omega) (by have := HBX.out.size; simp at this ⊢; omega) ?_; rintro v4 w4 q1 q2 _; obtain ⟨a4, c4, rfl⟩ := own_form q1; have HBY := Lib.hid (own_row_below (HR3.out.alloc _) (HBX.out.alloc (by have := HBX.out.size; simp at this ⊢; omega) _) q2 (Nat.le_refl _) (by have := HBX.out.size; simp at this ⊢; omega)); have HR4 := Lib.hid q1; clear q1 q2 HR3)
                | (at_builtin; refine wpList_append3 rfl _ _ 34 rfl Wc.heap.size 51 i0 (.agg #[.int .i64 0, .int .u64 0]) 2 16 Try.underlying34 hi hz0 hz1 hz2 rfl (by decide) _ 1 [.int .i64 2, .int .u64 (k : Int)] rfl (own_keep (lit_one Wc (k : Int)) (below_sz HBY.out)) a4 (m.length + 1) c4 (flatO (m ++ [(5, 0)])) rfl (by rw [flatO_len2]; simp) (step_nil HR4.out) (fun h => absurd (step_nil0 HR4.out h) (by omega)) (fun ad e => step_cells HR4.out ad e) (flatO_one _) (by unfold maxLen; omega) (by omega) (below_lit HBY.out).size ?_; rintro v5 w5 q1 q2 _; have HBZ := Lib.hid (own_row_below (own_keep (lit_one Wc (k : Int)) (below_sz HBY.out)) (below_lit HBY.out) q2 (Nat.le_refl _) (below_lit HBY.out).size); have HR5 := Lib.hid q1; clear q1 q2))
              have hLL : (stepO k m).length = 1 + (m.length + 1) := by unfold stepO; simp; omega
              have HL : Hid (w5.ownsRow w0.heap.size 51 2 v5 (stepO k m).length (flatO (stepO k m))) := Lib.hid (by
                rw [hLL]
                exact own_mono' (by unfold stepO; rw [flatO_cons]; exact HR5.out) HU2.out.below.size)
              refine wp_gen (fun W => RulesUp w0 W u4 ks ∧ W.ownsRow w0.heap.size 51 2 v5 (stepO k m).length (flatO (stepO k m))) ⟨HU2.out.keep HBZ.out, HL.out⟩ ?_
              have hLm : (stepO k m).length ≤ 300 := by omega
              clear HL HR5 HBZ HR4 HBY HBX hLL HU2 HR2 HO1 HN1 hwk
              generalize stepO k m = L at *
              rintro W6 ⟨hu, hl⟩
              obtain ⟨aL, cL, rfl⟩ := own_form hl
              obtain ⟨rs, hm1, hm2⟩ := hu
              have hlen := HLN.out
              have hown := hm1.1
              rw [valsV_len] at hown
              have HM1 := Lib.hid hm1; have HM2 := Lib.hid hm2; have HL := Lib.hid hl; have HOWN := Lib.hid hown
              have hsz0 := hm1.2.size
              clear hm1 hm2 hl
              go_upto_region 6 with (at_builtin; refine wpList_append_own _ rfl _ _ 30 rfl w0.heap.size 34 i1 (.slice none 0 0) 1 24 Try.underlying30 ki kz0 kz1 kz2 rfl (by decide) _ _ _ rfl (hown.alloc _) ⟨W6.heap.size, 0, none⟩ 1 1 [.slice aL L.length cL] rfl rfl (one_src (by simp [go_sem])) (by intro u hu; simp at hu; subst hu; rfl) (by unfold maxLen; omega) (by omega) (by simp; omega) ?_)
              intro v7 w7 q1 q2 _
              have hal : Below W6.heap.size W6 (W6.alloc (.cells #[.slice aL L.length cL] 34)) := (Below.refl _ _).alloc (Nat.le_refl _) _
              have HUP2 := Lib.hid (RulesUp.more (HM1.out.keep hal) (fun j hj => own_keep (HM2.out j hj) hal) (own_keep HL.out hal) q2 (MadeG.grow (HM1.out.keep hal) (by rw [valsV_len, HLN.out]; exact q1) q2))
              clear q1 q2 hal hown HM1 HM2 HL HOWN
              go_wp2
              go_roundw
              case rel => exact ⟨k + 1, ks ++ [L], by omega, by rw [List.length_append]; show ks.length + 1 = k + 1; omega, by go_num, HUP2.out, HS.out⟩
              case measure => simp [intOf]; omega
            · have hD := (AirP.all_stop HFIT.out (AirP.upto_err HUP.out (AirP.one_check hnx HT2.out HZ.out he2) he2) he2 (show k + 1 ≤ A.count by omega)).symm.trans HR.out
              obtain ⟨rfl, rfl⟩ := Prod.mk.inj hD
              have HBE := Lib.hid (bthen HB0.out HU2.out.below)
              clear hD HR HUP HU HU2 HR2 hO2 HT2 HZ HP kp
              go_wp2_with fail
              exact bodyPost_ret (v := .tuple #[.slice none 0 0, .int .i64 e2]) (by simp [results, Try.results12, go_sem]) rfl ⟨HBE.out, none, 0, rfl, opsA_nil _, fun _ => rfl⟩
          · have hD := (AirP.all_stop HFIT.out (AirP.upto_err HUP.out (AirP.one_parse HT2.out he) he) he (show k + 1 ≤ A.count by omega)).symm.trans HR.out
            obtain ⟨rfl, rfl⟩ := Prod.mk.inj hD
            have HBE := Lib.hid (bthen HB0.out (bthen HU.out.below hb))
            clear hD HR HUP HU HT2 HP ho1 hb kp HCO
            go_wp2_with fail
            exact bodyPost_ret (v := .tuple #[.slice none 0 0, .int .i64 e]) (by simp [results, Try.results12, go_sem]) rfl ⟨HBE.out, none, 0, rfl, opsA_nil _, fun _ => rfl⟩
        · have hstI : ¬ (k : Int) < (A.steps.length : Int) := by omega
          have hnx : decide (¬ k < A.steps.length) = true := decide_eq_true hst
          have hform : A.form k = id := funext fun l => if_neg hst
          have hrl : k - A.steps.length < A.rules.length := by have := hlt; unfold AirP.count at this; omega
          have hT := hk.rules _ (tx_mem hrl)
          rw [← AirP.text_rule hst] at hT
          obtain ⟨b, off, hpa, cs⟩ := ((hA0.keep HU.out.below).2.1).2 (k - A.steps.length) hrl
          rw [← AirP.text_rule hst] at cs
          rw [hpa] at x3
          clear hpa
          obtain ⟨J, hJ⟩ : ∃ J, k - A.steps.length = J := ⟨_, rfl⟩
          rw [hJ] at cs hrl
          have hwJ : IntKind.i64.wrap ((k : Int) - (A.steps.length : Int)) = (J : Int) := by rw [IntWalk.i64_in _ (by omega)]; omega
          have hwJ' : wrap64 ((k : Int) - (A.steps.length : Int)) = (J : Int) := by rw [IntWalk.wrap64_in _ (by omega)]; omega
          have hJ0 : (0 : Int) ≤ (J : Int) := by omega
          have hJl : (J : Int) < (A.rules.length : Int) := by omega
          obtain ⟨m, e, hp⟩ : ∃ m e, parseB (A.text k) = (m, e) := ⟨_, _, rfl⟩
          have kp := fun W => rcparse_own (A.text k) m e W hT hp
          have HT2 := Lib.hid hp
          have HP := HT2
          generalize hTT : A.text k = T at cs kp
          clear hTT
          have HCO := Lib.hid (hC0.keep HU.out.below)
          clear hp hT
          go_upto_region 13 with (go_at_call 26; (with_reducible refine (kp _).mono ?_); rintro E w1 ⟨hb, v1, rfl, ho1⟩)
          by_cases he : e = 0
          · subst he
            obtain ⟨a1, c1, rfl, hO1, hN1⟩ := own_oprow ho1
            have hm := parse_okO HT2.out
            have hm256 := hm.2
            have HU1 := Lib.hid (HU.out.keep hb)
            have HO1 := Lib.hid hO1; have HN1 := Lib.hid hN1; have HR1 := Lib.hid ho1; have HB1 := Lib.hid hb
            obtain ⟨d, e2, hz⟩ : ∃ d e2, checkB m A.cols true = (d, e2) := ⟨_, _, rfl⟩
            have kc := fun W h => rscheck_is a1 c1 m A.cols true d e2 W h hm.1 hk.cols hz
            have HZ := Lib.hid hz
            have y0 := (HCO.out.keep hb).1
            clear ho1 hO1 hN1 hm hz hb x0 x1 x2 x3 x4 cs HCO
            go_upto_region 16 with (go_at_call 27; (with_reducible refine (kc _ HO1.out).mono ?_); rintro E w2 ⟨rfl, hb⟩)
            have HU2 := Lib.hid (HU1.out.keep hb); have HR2 := Lib.hid (own_keep (own_mono' HR1.out HU.out.below.size) hb)
            have hO2 := HO1.out.keep hb
            clear hb HU1 HR1 HB1 HO1 kc y0
            by_cases he2 : e2 = 0
            · subst he2
              have HS := Lib.hid (AirP.upto_go HUP.out (AirP.one_ok hnx HT2.out HZ.out))
              rw [hform] at HS
              have HO1 := Lib.hid hO2
              obtain ⟨Wc, hWc⟩ : ∃ W, w2 = W := ⟨_, rfl⟩
              rw [hWc] at HU2 HR2 HO1
              simp only [hWc]
              clear hWc hO2 HZ HU kp
              clear HP HT2
              go_upto_region 20 with fail
              refine wp_gen (fun W => RulesUp w0 W u4 ks ∧ W.ownsRow w0.heap.size 51 2 (.slice a1 m.length c1) m.length (flatO m)) ⟨HU2.out, HR2.out⟩ ?_
              have hLm : m.length ≤ 300 := by omega
              obtain ⟨v5, hv5⟩ : ∃ v, Value.slice a1 m.length c1 = v := ⟨_, rfl⟩
              rw [hv5]
              simp only [id] at HS
              clear HU2 HR2 HO1 HN1 hv5
              generalize m = L at *
              rintro W6 ⟨hu, hl⟩
              obtain ⟨aL, cL, rfl⟩ := own_form hl
              obtain ⟨rs, hm1, hm2⟩ := hu
              have hlen := HLN.out
              have hown := hm1.1
              rw [valsV_len] at hown
              have HM1 := Lib.hid hm1; have HM2 := Lib.hid hm2; have HL := Lib.hid hl; have HOWN := Lib.hid hown
              have hsz0 := hm1.2.size
              clear hm1 hm2 hl
              go_upto_region 6 with (at_builtin; refine wpList_append_own _ rfl _ _ 30 rfl w0.heap.size 34 i1 (.slice none 0 0) 1 24 Try.underlying30 ki kz0 kz1 kz2 rfl (by decide) _ _ _ rfl (hown.alloc _) ⟨W6.heap.size, 0, none⟩ 1 1 [.slice aL L.length cL] rfl rfl (one_src (by simp [go_sem])) (by intro u hu; simp at hu; subst hu; rfl) (by unfold maxLen; omega) (by omega) (by simp; omega) ?_)
              intro v7 w7 q1 q2 _
              have hal : Below W6.heap.size W6 (W6.alloc (.cells #[.slice aL L.length cL] 34)) := (Below.refl _ _).alloc (Nat.le_refl _) _
              have HUP2 := Lib.hid (RulesUp.more (HM1.out.keep hal) (fun j hj => own_keep (HM2.out j hj) hal) (own_keep HL.out hal) q2 (MadeG.grow (HM1.out.keep hal) (by rw [valsV_len, HLN.out]; exact q1) q2))
              clear q1 q2 hal hown HM1 HM2 HL HOWN
              go_wp2
              go_roundw
              case rel => exact ⟨k + 1, ks ++ [L], by omega, by rw [List.length_append]; show ks.length + 1 = k + 1; omega, by go_num, HUP2.out, HS.out⟩
              case measure => simp [intOf]; omega
            · have hD := (AirP.all_stop HFIT.out (AirP.upto_err HUP.out (AirP.one_check hnx HT2.out HZ.out he2) he2) he2 (show k + 1 ≤ A.count by omega)).symm.trans HR.out
              obtain ⟨rfl, rfl⟩ := Prod.mk.inj hD
              have HBE := Lib.hid (bthen HB0.out HU2.out.below)
              clear hD HR HUP HU HU2 HR2 hO2 HT2 HZ HP kp
              go_wp2_with fail
              exact bodyPost_ret (v := .tuple #[.slice none 0 0, .int .i64 e2]) (by simp [results, Try.results12, go_sem]) rfl ⟨HBE.out, none, 0, rfl, opsA_nil _, fun _ => rfl⟩
          · have hD := (AirP.all_stop HFIT.out (AirP.upto_err HUP.out (AirP.one_parse HT2.out he) he) he (show k + 1 ≤ A.count by omega)).symm.trans HR.out
            obtain ⟨rfl, rfl⟩ := Prod.mk.inj hD
            have HBE := Lib.hid (bthen HB0.out (bthen HU.out.below hb))
            clear hD HR HUP HU HT2 HP ho1 hb kp HCO
            go_wp2_with fail
            exact bodyPost_ret (v := .tuple #[.slice none 0 0, .int .i64 e]) (by simp [results, Try.results12, go_sem]) rfl ⟨HBE.out, none, 0, rfl, opsA_nil _, fun _ => rfl⟩
      · obtain rfl : k = A.count := by omega
        have hD := (AirP.all_ok2 HFIT.out).symm.trans HR.out
        rw [HUP.out] at hD
        obtain ⟨rfl, rfl⟩ := Prod.mk.inj hD
        obtain ⟨a4, c4, rfl, hT4, hN4⟩ := HU.out.told
        have HBE := Lib.hid (bthen HB0.out HU.out.below)
        have HT4 := Lib.hid hT4; have HN4 := Lib.hid hN4
        clear hD HR HUP HU hT4 hN4
        go_wp2_with fail
        exact bodyPost_ret (v := .tuple #[.slice a4 ks.length c4, .int .i64 0]) (by simp [results, Try.results12, go_sem]) rfl ⟨HBE.out, a4, c4, rfl, HT4.out, HN4.out⟩
  · go_upto_region 5 with fail
    clear hns hnc g1 g2 g3 g4 hg1 hg2 hg4 x0 x1 x2 x3 x4
    go_loopw [4, 5] (RulesRel w0 A) (fun _ i _ => A.count - (intOf i).toNat)
    case atStart => exact ⟨0, [], Nat.zero_le _, rfl, rfl, RulesUp.start (Below.refl _ _), rfl⟩
    case round =>
      obtain ⟨k, ks, hk2, hlen, rfl, hU, hup⟩ := hrel
      have HU := Lib.hid hU; have HUP := Lib.hid hup; have HLN := Lib.hid hlen
      obtain ⟨x0, x1, x2, x3, x4⟩ := HC0.out.keep hU.below
      have hC0 := HC0.out
      clear hU hup hlen
      rename_i u4 _
      by_cases hlt : k < A.count
      · have hltI : (k : Int) < (A.count : Int) := by omega
        have hk0 : (0 : Int) ≤ (k : Int) := by omega
        by_cases hst : k < A.steps.length
        · have hstI : (k : Int) < (A.steps.length : Int) := by omega
          have hnx : decide (¬ k < A.steps.length) = false := decide_eq_false (by simpa using hst)
          have hform : A.form k = stepO k := funext fun l => if_pos hst
          have hT := hk.steps _ (tx_mem hst)
          rw [← AirP.text_step hst] at hT
          obtain ⟨b, off, hpa, cs⟩ := ((hA0.keep HU.out.below).1).2 k hst
          rw [← AirP.text_step hst] at cs
          rw [hpa] at x2
          clear hpa
          obtain ⟨m, e, hp⟩ : ∃ m e, parseB (A.text k) = (m, e) := ⟨_, _, rfl⟩
          have kp := fun W => rcparse_own (A.text k) m e W hT hp
          have HT2 := Lib.hid hp
          have HP := HT2
          generalize hTT : A.text k = T at cs kp
          clear hTT
          have HCO := Lib.hid (hC0.keep HU.out.below)
          clear hp hT
          go_upto_region 13 with (go_at_call 26; (with_reducible refine (kp _).mono ?_); rintro E w1 ⟨hb, v1, rfl, ho1⟩)
          by_cases he : e = 0
          · subst he
            obtain ⟨a1, c1, rfl, hO1, hN1⟩ := own_oprow ho1
            have hm := parse_okO HT2.out
            have hm256 := hm.2
            have HU1 := Lib.hid (HU.out.keep hb)
            have HO1 := Lib.hid hO1; have HN1 := Lib.hid hN1; have HR1 := Lib.hid ho1; have HB1 := Lib.hid hb
            obtain ⟨d, e2, hz⟩ : ∃ d e2, checkB m A.cols false = (d, e2) := ⟨_, _, rfl⟩
            have kc := fun W h => rscheck_is a1 c1 m A.cols false d e2 W h hm.1 hk.cols hz
            have HZ := Lib.hid hz
            have y0 := (HCO.out.keep hb).1
            clear ho1 hO1 hN1 hm hz hb x0 x1 x2 x3 x4 cs HCO
            go_upto_region 16 with (go_at_call 27; (with_reducible refine (kc _ HO1.out).mono ?_); rintro E w2 ⟨rfl, hb⟩)
            have HU2 := Lib.hid (HU1.out.keep hb); have HR2 := Lib.hid (own_keep (own_mono' HR1.out HU.out.below.size) hb)
            have hO2 := HO1.out.keep hb
            clear hb HU1 HR1 HB1 HO1 kc y0
            by_cases he2 : e2 = 0
            · subst he2
              have HS := Lib.hid (AirP.upto_go HUP.out (AirP.one_ok hnx HT2.out HZ.out))
              rw [hform] at HS
              have HO1 := Lib.hid hO2
              obtain ⟨Wc, hWc⟩ : ∃ W, w2 = W := ⟨_, rfl⟩
              rw [hWc] at HU2 HR2 HO1
              simp only [hWc]
              clear hWc hO2 HZ HU kp
              have hwk : IntKind.u64.wrap (k : Int) = (k : Int) := by rw [IntKind.wrap_u64]; omega
              clear HP HT2
              go_upto_region 20 with (first
                | (at_builtin; refine wpList_append3 rfl _ _ 34 rfl (Wc.heap.size + 1) 51 i0 (.agg #[.int .i64 0, .int .u64 0]) 2 16 Try.underlying34 hi hz0 hz1 hz2 rfl (by decide) _ 0 [] rfl (lit_two Wc (.cells #[.int .i64 2, .int .u64 (k : Int)] 51)) a1 m.length c1 (flatO m) rfl (flatO_len2 m) HN1.out (opA_nil0 HO1.out) (fun ad e => opA_cells (HO1.out.keep (bthen ((Below.refl _ _).alloc (Nat.le_refl _) _) ((Below.refl _ _).alloc (Nat.le_refl _) _))) ad e) (flatO_one m) (by unfold maxLen; omega) (by omega) (by simp) ?_; rintro v3 w3 q1 q2 _; rw [Nat.zero_add, List.nil_append] at q1; obtain ⟨a3, c3, rfl⟩ := own_form q1; have HBX := Lib.hid (own_row_below (lit_two Wc (.cells #[.int .i64 2, .int .u64 (k : Int)] 51)) (lit_below Wc (.cells #[.int .i64 2, .int .u64 (k : Int)] 51) _) q2 (Nat.le_refl _) (by simp)); have HR3 := Lib.hid q1; clear q1 q2)
                | (at_builtin; refine wpList_append_own _ rfl _ _ 34 rfl (Wc.heap.size + 1) 51 i0 (.agg #[.int .i64 0, .int .u64 0]) 2 16 Try.underlying34 hi hz0 hz1 hz2 rfl (by decide) _ _ _ rfl (HR3.out.alloc _) ⟨w3.heap.size, 0, none⟩ 1 1 [.int .i64 5, .int .u64 0] rfl rfl (two_src (by simp [go_sem]) (by simp [go_sem])) (by intro u hu; simp at hu; rcases hu with rfl | rfl <;> rfl) (by unfold maxLen; omega) (by omega) (by have := HBX.out.size; simp at this ⊢; omega) ?_; rintro v4 w4 q1 q2 _; obtain ⟨a4, c4, rfl⟩ := own_form q1; have HBY := Lib.hid (own_row_below (HR3.out.alloc _) (HBX.out.alloc (by have := HBX.out.size; simp at this ⊢; omega) _) q2 (Nat.le_refl _) (by have := HBX.out.size; simp at this ⊢; omega)); have HR4 := Lib.hid q1; clear q1 q2 HR3)
                | (at_builtin; refine wpList_append3 rfl _ _ 34 rfl Wc.heap.size 51 i0 (.agg #[.int .i64 0, .int .u64 0]) 2 16 Try.underlying34 hi hz0 hz1 hz2 rfl (by decide) _ 1 [.int .i64 2, .int .u64 (k : Int)] rfl (own_keep (lit_one Wc (k : Int)) (below_sz HBY.out)) a4 (m.length + 1) c4 (flatO (m ++ [(5, 0)])) rfl (by rw [flatO_len2]; simp) (step_nil HR4.out) (fun h => absurd (step_nil0 HR4.out h) (by omega)) (fun ad e => step_cells HR4.out ad e) (flatO_one _) (by unfold maxLen; omega) (by omega) (below_lit HBY.out).size ?_; rintro v5 w5 q1 q2 _; have HBZ := Lib.hid (own_row_below (own_keep (lit_one Wc (k : Int)) (below_sz HBY.out)) (below_lit HBY.out) q2 (Nat.le_refl _) (below_lit HBY.out).size); have HR5 := Lib.hid q1; clear q1 q2))
              have hLL : (stepO k m).length = 1 + (m.length + 1) := by unfold stepO; simp; omega
              have HL : Hid (w5.ownsRow w0.heap.size 51 2 v5 (stepO k m).length (flatO (stepO k m))) := Lib.hid (by
                rw [hLL]
                exact own_mono' (by unfold stepO; rw [flatO_cons]; exact HR5.out) HU2.out.below.size)
              refine wp_gen (fun W => RulesUp w0 W u4 ks ∧ W.ownsRow w0.heap.size 51 2 v5 (stepO k m).length (flatO (stepO k m))) ⟨HU2.out.keep HBZ.out, HL.out⟩ ?_
              have hLm : (stepO k m).length ≤ 300 := by omega
              clear HL HR5 HBZ HR4 HBY HBX hLL HU2 HR2 HO1 HN1 hwk
              generalize stepO k m = L at *
              rintro W6 ⟨hu, hl⟩
              obtain ⟨aL, cL, rfl⟩ := own_form hl
              obtain ⟨rs, hm1, hm2⟩ := hu
              have hlen := HLN.out
              have hown := hm1.1
              rw [valsV_len] at hown
              have HM1 := Lib.hid hm1; have HM2 := Lib.hid hm2; have HL := Lib.hid hl; have HOWN := Lib.hid hown
              have hsz0 := hm1.2.size
              clear hm1 hm2 hl
              go_upto_region 6 with (at_builtin; refine wpList_append_own _ rfl _ _ 30 rfl w0.heap.size 34 i1 (.slice none 0 0) 1 24 Try.underlying30 ki kz0 kz1 kz2 rfl (by decide) _ _ _ rfl (hown.alloc _) ⟨W6.heap.size, 0, none⟩ 1 1 [.slice aL L.length cL] rfl rfl (one_src (by simp [go_sem])) (by intro u hu; simp at hu; subst hu; rfl) (by unfold maxLen; omega) (by omega) (by simp; omega) ?_)
              intro v7 w7 q1 q2 _
              have hal : Below W6.heap.size W6 (W6.alloc (.cells #[.slice aL L.length cL] 34)) := (Below.refl _ _).alloc (Nat.le_refl _) _
              have HUP2 := Lib.hid (RulesUp.more (HM1.out.keep hal) (fun j hj => own_keep (HM2.out j hj) hal) (own_keep HL.out hal) q2 (MadeG.grow (HM1.out.keep hal) (by rw [valsV_len, HLN.out]; exact q1) q2))
              clear q1 q2 hal hown HM1 HM2 HL HOWN
              go_wp2
              go_roundw
              case rel => exact ⟨k + 1, ks ++ [L], by omega, by rw [List.length_append]; show ks.length + 1 = k + 1; omega, by go_num, HUP2.out, HS.out⟩
              case measure => simp [intOf]; omega
            · have hD := (AirP.all_stop HFIT.out (AirP.upto_err HUP.out (AirP.one_check hnx HT2.out HZ.out he2) he2) he2 (show k + 1 ≤ A.count by omega)).symm.trans HR.out
              obtain ⟨rfl, rfl⟩ := Prod.mk.inj hD
              have HBE := Lib.hid (bthen HB0.out HU2.out.below)
              clear hD HR HUP HU HU2 HR2 hO2 HT2 HZ HP kp
              go_wp2_with fail
              exact bodyPost_ret (v := .tuple #[.slice none 0 0, .int .i64 e2]) (by simp [results, Try.results12, go_sem]) rfl ⟨HBE.out, none, 0, rfl, opsA_nil _, fun _ => rfl⟩
          · have hD := (AirP.all_stop HFIT.out (AirP.upto_err HUP.out (AirP.one_parse HT2.out he) he) he (show k + 1 ≤ A.count by omega)).symm.trans HR.out
            obtain ⟨rfl, rfl⟩ := Prod.mk.inj hD
            have HBE := Lib.hid (bthen HB0.out (bthen HU.out.below hb))
            clear hD HR HUP HU HT2 HP ho1 hb kp HCO
            go_wp2_with fail
            exact bodyPost_ret (v := .tuple #[.slice none 0 0, .int .i64 e]) (by simp [results, Try.results12, go_sem]) rfl ⟨HBE.out, none, 0, rfl, opsA_nil _, fun _ => rfl⟩
        · have hstI : ¬ (k : Int) < (A.steps.length : Int) := by omega
          have hnx : decide (¬ k < A.steps.length) = true := decide_eq_true hst
          have hform : A.form k = id := funext fun l => if_neg hst
          have hrl : k - A.steps.length < A.rules.length := by have := hlt; unfold AirP.count at this; omega
          have hT := hk.rules _ (tx_mem hrl)
          rw [← AirP.text_rule hst] at hT
          obtain ⟨b, off, hpa, cs⟩ := ((hA0.keep HU.out.below).2.1).2 (k - A.steps.length) hrl
          rw [← AirP.text_rule hst] at cs
          rw [hpa] at x3
          clear hpa
          obtain ⟨J, hJ⟩ : ∃ J, k - A.steps.length = J := ⟨_, rfl⟩
          rw [hJ] at cs hrl
          have hwJ : IntKind.i64.wrap ((k : Int) - (A.steps.length : Int)) = (J : Int) := by rw [IntWalk.i64_in _ (by omega)]; omega
          have hwJ' : wrap64 ((k : Int) - (A.steps.length : Int)) = (J : Int) := by rw [IntWalk.wrap64_in _ (by omega)]; omega
          have hJ0 : (0 : Int) ≤ (J : Int) := by omega
          have hJl : (J : Int) < (A.rules.length : Int) := by omega
          obtain ⟨m, e, hp⟩ : ∃ m e, parseB (A.text k) = (m, e) := ⟨_, _, rfl⟩
          have kp := fun W => rcparse_own (A.text k) m e W hT hp
          have HT2 := Lib.hid hp
          have HP := HT2
          generalize hTT : A.text k = T at cs kp
          clear hTT
          have HCO := Lib.hid (hC0.keep HU.out.below)
          clear hp hT
          go_upto_region 13 with (go_at_call 26; (with_reducible refine (kp _).mono ?_); rintro E w1 ⟨hb, v1, rfl, ho1⟩)
          by_cases he : e = 0
          · subst he
            obtain ⟨a1, c1, rfl, hO1, hN1⟩ := own_oprow ho1
            have hm := parse_okO HT2.out
            have hm256 := hm.2
            have HU1 := Lib.hid (HU.out.keep hb)
            have HO1 := Lib.hid hO1; have HN1 := Lib.hid hN1; have HR1 := Lib.hid ho1; have HB1 := Lib.hid hb
            obtain ⟨d, e2, hz⟩ : ∃ d e2, checkB m A.cols true = (d, e2) := ⟨_, _, rfl⟩
            have kc := fun W h => rscheck_is a1 c1 m A.cols true d e2 W h hm.1 hk.cols hz
            have HZ := Lib.hid hz
            have y0 := (HCO.out.keep hb).1
            clear ho1 hO1 hN1 hm hz hb x0 x1 x2 x3 x4 cs HCO
            go_upto_region 16 with (go_at_call 27; (with_reducible refine (kc _ HO1.out).mono ?_); rintro E w2 ⟨rfl, hb⟩)
            have HU2 := Lib.hid (HU1.out.keep hb); have HR2 := Lib.hid (own_keep (own_mono' HR1.out HU.out.below.size) hb)
            have hO2 := HO1.out.keep hb
            clear hb HU1 HR1 HB1 HO1 kc y0
            by_cases he2 : e2 = 0
            · subst he2
              have HS := Lib.hid (AirP.upto_go HUP.out (AirP.one_ok hnx HT2.out HZ.out))
              rw [hform] at HS
              have HO1 := Lib.hid hO2
              obtain ⟨Wc, hWc⟩ : ∃ W, w2 = W := ⟨_, rfl⟩
              rw [hWc] at HU2 HR2 HO1
              simp only [hWc]
              clear hWc hO2 HZ HU kp
              clear HP HT2
              go_upto_region 20 with fail
              refine wp_gen (fun W => RulesUp w0 W u4 ks ∧ W.ownsRow w0.heap.size 51 2 (.slice a1 m.length c1) m.length (flatO m)) ⟨HU2.out, HR2.out⟩ ?_
              have hLm : m.length ≤ 300 := by omega
              obtain ⟨v5, hv5⟩ : ∃ v, Value.slice a1 m.length c1 = v := ⟨_, rfl⟩
              rw [hv5]
              simp only [id] at HS
              clear HU2 HR2 HO1 HN1 hv5
              generalize m = L at *
              rintro W6 ⟨hu, hl⟩
              obtain ⟨aL, cL, rfl⟩ := own_form hl
              obtain ⟨rs, hm1, hm2⟩ := hu
              have hlen := HLN.out
              have hown := hm1.1
              rw [valsV_len] at hown
              have HM1 := Lib.hid hm1; have HM2 := Lib.hid hm2; have HL := Lib.hid hl; have HOWN := Lib.hid hown
              have hsz0 := hm1.2.size
              clear hm1 hm2 hl
              go_upto_region 6 with (at_builtin; refine wpList_append_own _ rfl _ _ 30 rfl w0.heap.size 34 i1 (.slice none 0 0) 1 24 Try.underlying30 ki kz0 kz1 kz2 rfl (by decide) _ _ _ rfl (hown.alloc _) ⟨W6.heap.size, 0, none⟩ 1 1 [.slice aL L.length cL] rfl rfl (one_src (by simp [go_sem])) (by intro u hu; simp at hu; subst hu; rfl) (by unfold maxLen; omega) (by omega) (by simp; omega) ?_)
              intro v7 w7 q1 q2 _
              have hal : Below W6.heap.size W6 (W6.alloc (.cells #[.slice aL L.length cL] 34)) := (Below.refl _ _).alloc (Nat.le_refl _) _
              have HUP2 := Lib.hid (RulesUp.more (HM1.out.keep hal) (fun j hj => own_keep (HM2.out j hj) hal) (own_keep HL.out hal) q2 (MadeG.grow (HM1.out.keep hal) (by rw [valsV_len, HLN.out]; exact q1) q2))
              clear q1 q2 hal hown HM1 HM2 HL HOWN
              go_wp2
              go_roundw
              case rel => exact ⟨k + 1, ks ++ [L], by omega, by rw [List.length_append]; show ks.length + 1 = k + 1; omega, by go_num, HUP2.out, HS.out⟩
              case measure => simp [intOf]; omega
            · have hD := (AirP.all_stop HFIT.out (AirP.upto_err HUP.out (AirP.one_check hnx HT2.out HZ.out he2) he2) he2 (show k + 1 ≤ A.count by omega)).symm.trans HR.out
              obtain ⟨rfl, rfl⟩ := Prod.mk.inj hD
              have HBE := Lib.hid (bthen HB0.out HU2.out.below)
              clear hD HR HUP HU HU2 HR2 hO2 HT2 HZ HP kp
              go_wp2_with fail
              exact bodyPost_ret (v := .tuple #[.slice none 0 0, .int .i64 e2]) (by simp [results, Try.results12, go_sem]) rfl ⟨HBE.out, none, 0, rfl, opsA_nil _, fun _ => rfl⟩
          · have hD := (AirP.all_stop HFIT.out (AirP.upto_err HUP.out (AirP.one_parse HT2.out he) he) he (show k + 1 ≤ A.count by omega)).symm.trans HR.out
            obtain ⟨rfl, rfl⟩ := Prod.mk.inj hD
            have HBE := Lib.hid (bthen HB0.out (bthen HU.out.below hb))
            clear hD HR HUP HU HT2 HP ho1 hb kp HCO
            go_wp2_with fail
            exact bodyPost_ret (v := .tuple #[.slice none 0 0, .int .i64 e]) (by simp [results, Try.results12, go_sem]) rfl ⟨HBE.out, none, 0, rfl, opsA_nil _, fun _ => rfl⟩
      · obtain rfl : k = A.count := by omega
        have hD := (AirP.all_ok2 HFIT.out).symm.trans HR.out
        rw [HUP.out] at hD
        obtain ⟨rfl, rfl⟩ := Prod.mk.inj hD
        obtain ⟨a4, c4, rfl, hT4, hN4⟩ := HU.out.told
        have HBE := Lib.hid (bthen HB0.out HU.out.below)
        have HT4 := Lib.hid hT4; have HN4 := Lib.hid hN4
        clear hD HR HUP HU hT4 hN4
        go_wp2_with fail
        exact bodyPost_ret (v := .tuple #[.slice a4 ks.length c4, .int .i64 0]) (by simp [results, Try.results12, go_sem]) rfl ⟨HBE.out, a4, c4, rfl, HT4.out, HN4.out⟩
end Go.Proofs.Ytckipfcjgmiacaa
