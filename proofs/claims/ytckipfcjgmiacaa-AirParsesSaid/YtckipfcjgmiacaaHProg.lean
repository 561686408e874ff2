/-
  The program's calls of layer 16: within, joined, step, Check; what is asked of Check is so. (Written by gen_hprog.py.)
-/
import Derived.Test.YtckipfcjgmiacaaHAw
import Derived.Test.YtckipfcjgmiacaaKPro1
import Derived.Test.YtckipfcjgmiacaaStkX
namespace Go.Proofs.Ytckipfcjgmiacaa
open Go Go.RowKit
set_option linter.unusedVariables false

def withinB (k n cols : Int) (nx : Bool) : Bool := if k = 1 then decide (n < cols) else if k = 2 then nx && decide (n < cols) else true
theorem hright_far {k n : Int} (h : rightO (k, n) = true) (hk : k = 1 ∨ k = 2) : n < 256 := by
  unfold rightO at h
  rcases hk with rfl | rfl <;> simpa using h
set_option maxHeartbeats 4000000 in
theorem hwithin_is (k n cols : Int) (nx r : Bool) (w : World) (hr : rightO (k, n) = true) (hn : 0 ≤ n) (hb : withinB k n cols nx = r) : Calls Try.prog 66 #[.agg #[.int .i64 k, .int .u64 n], .int .i64 cols, .bool nx] w fun e w' => e = .returned (.bool r) ∧ Below w.heap.size w w' := by
  have HR := Lib.hid hb
  have hf := fun h => @hright_far k n hr h
  have hcase : k = 1 ∨ k = 2 ∨ (¬ k = 1 ∧ ¬ k = 2) := by omega
  clear hb hr
  go_enter Try.func66, Try.ntmps66
  go_upto_region 1 with fail
  refine wp_gen (fun W => Below w.heap.size w W ∧ W.cell? ⟨w.heap.size, 0, none⟩ = some (.int .i64 k) ∧ W.cell? ⟨w.heap.size, 1, none⟩ = some (.int .u64 n)) ⟨(Below.refl _ _).alloc (Nat.le_refl _) _, by simp [go_sem], by simp [go_sem]⟩ ?_
  obtain ⟨g, hg⟩ : ∃ g, w.heap.size = g := ⟨_, rfl⟩
  rintro W1 ⟨hB, c0, c1⟩
  rw [hg] at c0 c1
  simp only [hg]
  have HB := Lib.hid hB
  clear hB hg
  rcases hcase with rfl | rfl | ⟨h1, h2⟩
  · have hw : IntKind.i64.wrap n = n := IntWalk.i64_in _ (by have := hf (.inl rfl); omega)
    clear hf
    go_wp2_with fail
    go_ret
    exact ⟨by rw [← HR.out]; simp [withinB], HB.out⟩
  · have hw : IntKind.i64.wrap n = n := IntWalk.i64_in _ (by have := hf (.inr rfl); omega)
    clear hf
    cases nx
    all_goals
      go_wp2_with fail
      go_ret
      exact ⟨by rw [← HR.out]; simp [withinB], HB.out⟩
  · clear hf
    go_wp2_with fail
    go_ret
    exact ⟨by rw [← HR.out]; simp [withinB, h1, h2], HB.out⟩
abbrev joinN (k : Int) (x y : Nat) : Nat := if k = 6 then x + y else max x y
set_option maxHeartbeats 4000000 in
theorem hjoined_is (k n : Int) (x y z : Nat) (w : World) (hb : x + y ≤ 512) (hz : joinN k x y = z) : Calls Try.prog 70 #[.agg #[.int .i64 k, .int .u64 n], .int .i64 (x : Int), .int .i64 (y : Int)] w fun e w' => e = .returned (.int .i64 (z : Int)) ∧ Below w.heap.size w w' := by
  obtain ⟨hs1, hs2⟩ := w_add x y hb
  have hs3 := max_nat x y
  have HZ := Lib.hid hz
  clear hz
  go_enter Try.func70, Try.ntmps70
  go_upto_region 1 with fail
  refine wp_gen (fun W => Below w.heap.size w W ∧ W.cell? ⟨w.heap.size, 0, none⟩ = some (.int .i64 k) ∧ W.cell? ⟨w.heap.size, 1, none⟩ = some (.int .u64 n)) ⟨(Below.refl _ _).alloc (Nat.le_refl _) _, by simp [go_sem], by simp [go_sem]⟩ ?_
  obtain ⟨g, hg⟩ : ∃ g, w.heap.size = g := ⟨_, rfl⟩
  rintro W1 ⟨hB, c0, c1⟩
  rw [hg] at c0 c1
  simp only [hg]
  have HB := Lib.hid hB
  clear hB hg
  have HZ6 := Lib.hid (fun h : k = 6 => show x + y = z by have := HZ.out; unfold joinN at this; rwa [if_pos h] at this)
  have HZ5 := Lib.hid (fun h : ¬ k = 6 => show max x y = z by have := HZ.out; unfold joinN at this; rwa [if_neg h] at this)
  by_cases h6 : k = 6
  · have e := HZ6.out h6
    rw [e] at hs1 hs2
    subst h6
    clear hs3 e
    go_wp2_with fail
    go_ret
    exact ⟨rfl, HB.out⟩
  · have e := HZ5.out h6
    rw [e] at hs3
    clear hs1 hs2 e
    go_wp2_with fail
    go_ret
    exact ⟨rfl, HB.out⟩
/-- What an operation that may be written does to the stack. -/
def goS (k : Int) (st : List Nat) : Option (List Nat) :=
  if k = 1 ∨ k = 2 then some (1 :: st) else if k = 3 then some (0 :: st) else match st with
    | y :: x :: r => some (joinN k x y :: r)
    | _ => none
theorem goS_col {k : Int} (h : k = 1 ∨ k = 2) (st : List Nat) : goS k st = some (1 :: st) := by unfold goS; rw [if_pos h]
theorem goS_const (st : List Nat) : goS 3 st = some (0 :: st) := rfl
theorem goS_few {k : Int} (h : ¬ (k = 1 ∨ k = 2)) (h3 : ¬ k = 3) {st : List Nat} (hs : st.length < 2) : goS k st = none := by
  unfold goS
  rw [if_neg h, if_neg h3]
  match st, hs with
  | [], _ => rfl
  | [_], _ => rfl
theorem goS_two {k : Int} (h : ¬ (k = 1 ∨ k = 2)) (h3 : ¬ k = 3) (y x : Nat) (r : List Nat) : goS k (y :: x :: r) = some (joinN k x y :: r) := by
  unfold goS
  rw [if_neg h, if_neg h3]
structure StpN (r M1 M2 : Nat) : Prop where
  a : IntKind.i64.wrap ((M2 : Int) - 2) = (r : Int)
  b : wrap64 ((M2 : Int) - 2) = (r : Int)
  c : IntKind.i64.wrap ((r : Int) + 1) = (M1 : Int)
  d : wrap64 ((r : Int) + 1) = (M1 : Int)
  e : (M1 : Int) < (M2 : Int)
  f : (r : Int) < (M2 : Int)
  g : (r : Int) ≤ (M2 : Int)
  h : (0 : Int) ≤ (M1 : Int)
  i : (0 : Int) ≤ (r : Int)
  j : ¬ (r : Int) < 0
theorem stp_nums (r M1 M2 : Nat) (h1 : r + 1 = M1) (h2 : r + 1 + 1 = M2) (hl : r + 1 + 1 ≤ 16) : StpN r M1 M2 where
  a := by rw [IntWalk.i64_in _ (by omega)]; omega
  b := by rw [IntWalk.wrap64_in _ (by omega)]; omega
  c := by rw [IntWalk.i64_in _ (by omega)]; omega
  d := by rw [IntWalk.wrap64_in _ (by omega)]; omega
  e := by omega
  f := by omega
  g := by omega
  h := by omega
  i := by omega
  j := by omega
def StepPost (w0 w : World) (st' : Option (List Nat)) (E : Ending) (w' : World) : Prop :=
  match st' with
  | none => E = .returned (.tuple #[.slice none 0 0, .bool false]) ∧ Below w0.heap.size w0 w'
  | some l => ∃ v', E = .returned (.tuple #[v', .bool (decide (l.length ≤ 16))]) ∧ w'.ownsRow w0.heap.size 3 1 v' l.length (stkV stN l) ∧ Below w0.heap.size w0 w'
def StpVal (gs m M1 M2 cs' x y z : Nat) (k n : Int) (sl : Nat) : Value :=
  match sl with
  | 29 => .slice (some ⟨gs, 0, none⟩) M2 cs'
  | 30 => .int .i64 (m : Int)
  | 31 => .slice (some ⟨gs, 0, none⟩) m cs'
  | 32 => .agg #[.int .i64 k, .int .u64 n]
  | 33 => .slice (some ⟨gs, 0, none⟩) M2 cs'
  | 34 => .int .i64 (m : Int)
  | 35 => .pointer (some ⟨gs, m, none⟩)
  | 36 => .int .i64 (x : Int)
  | 37 => .slice (some ⟨gs, 0, none⟩) M2 cs'
  | 38 => .int .i64 (m : Int)
  | 39 => .int .i64 (M1 : Int)
  | 40 => .pointer (some ⟨gs, M1, none⟩)
  | 41 => .int .i64 (y : Int)
  | _ => .int .i64 (z : Int)
set_option maxRecDepth 100000 in
set_option maxHeartbeats 8000000 in
theorem hstep_is (w0 : World) (v : Value) (st : List Nat) (k n : Int) (res : Option (List Nat)) (w : World) (hres : goS k st = res) (hk : 1 ≤ k ∧ k ≤ 6) (hs : st.length ≤ 16) (hsum : st.sum ≤ 500) (hown : w.ownsRow w0.heap.size 3 1 v st.length (stkV stN st)) (hB : Below w0.heap.size w0 w) :
    Calls Try.prog 67 #[v, .agg #[.int .i64 k, .int .u64 n]] w (StepPost w0 w res) := by
  obtain ⟨i0, hi, hz0, hz1, hz2⟩ := info_parts infoI
  obtain ⟨aS, cS, rfl⟩ := own_form hown
  have HO0 := Lib.hid hown; have HB0 := Lib.hid hB
  have hl0 := fun k hk => (hown.lt k hk).2
  have HL0 := Lib.hid hl0
  clear hown hB hl0
  go_enter Try.func67, Try.ntmps67
  go_upto_region 1 with fail
  refine wp_gen (fun W => Below w0.heap.size w0 W ∧ W.ownsRow w0.heap.size 3 1 (.slice aS st.length cS) st.length (stkV stN st) ∧ W.cell? ⟨w.heap.size, 0, none⟩ = some (.int .i64 k) ∧ W.cell? ⟨w.heap.size, 1, none⟩ = some (.int .u64 n)) ⟨HB0.out.alloc HB0.out.size _, HO0.out.alloc _, by simp [go_sem], by simp [go_sem]⟩ ?_
  obtain ⟨g, hg⟩ : ∃ g, w.heap.size = g := ⟨_, rfl⟩
  rintro W1 ⟨hB, hown, c0, c1⟩
  rw [hg] at c0 c1
  simp only [hg]
  have HB := Lib.hid hB; have HO := Lib.hid hown
  clear hB hown hg HB0 HO0 HL0
  by_cases hk1 : k = 1
  · subst hk1
    have e := (goS_col (.inl rfl) st).symm.trans hres
    subst e
    clear hres
    have hown := HO.out
    have hsz0 := HB.out.size
    obtain ⟨FL, hFL⟩ : ∃ fl, stkV stN st = fl := ⟨_, rfl⟩
    rw [hFL] at hown
    have HFL := Lib.hid hFL
    clear hFL HO
    go_upto_region 14 with (at_builtin; refine wpList_append_own _ rfl _ _ 55 rfl w0.heap.size 3 i0 (.int .i64 0) 1 8 Try.underlying55 hi hz0 hz1 hz2 rfl (by decide) _ _ _ rfl (hown.alloc _) ⟨W1.heap.size, 0, none⟩ 1 1 [.int .i64 1] rfl rfl (one_src (by simp [go_sem])) (by intro u hu; simp at hu; subst hu; rfl) (by unfold maxLen; omega) (by omega) (by first | omega | (simp; omega)) ?_)
    intro v' w3 hown' hgrow _
    have hb3 := own_row_below (hown.alloc (.cells #[.int .i64 1] 3)) (HB.out.alloc HB.out.size _) hgrow (Nat.le_refl _) (by simp; omega)
    have q3 : w3.ownsRow w0.heap.size 3 1 v' (st.length + 1) (stkV stN (1 :: st)) := by rw [stkV_cons, HFL.out]; exact hown'
    clear hown hown' hgrow hsz0
    have HB := Lib.hid hb3
    have HO := Lib.hid q3
    obtain ⟨aV, cV, hvf⟩ := own_form q3
    subst hvf
    clear hb3 q3
    obtain ⟨M, hM⟩ : ∃ M, (st).length + 1 = M := ⟨_, rfl⟩
    have HQ : Hid (decide ((1 :: st).length ≤ 16) = decide (M ≤ 16)) := Lib.hid (by rw [← hM]; rfl)
    rw [hM] at HO ⊢
    have HM := Lib.hid hM
    clear hM
    by_cases h16 : M ≤ 16
    · have h16I : (M : Int) ≤ 16 := by omega
      go_wp2_with fail
      exact bodyPost_ret (v := .tuple #[.slice aV M cV, .bool true]) (by simp [results, Try.results67, go_sem]) rfl ⟨_, by rw [HQ.out, decide_eq_true h16], (by rw [show (1 :: st).length = M from HM.out]; exact HO.out), HB.out⟩
    · have h16I : ¬ (M : Int) ≤ 16 := by omega
      go_wp2_with fail
      exact bodyPost_ret (v := .tuple #[.slice aV M cV, .bool false]) (by simp [results, Try.results67, go_sem]) rfl ⟨_, by rw [HQ.out, decide_eq_false h16], (by rw [show (1 :: st).length = M from HM.out]; exact HO.out), HB.out⟩
  by_cases hk2 : k = 2
  · subst hk2
    have e := (goS_col (.inr rfl) st).symm.trans hres
    subst e
    clear hres
    have hown := HO.out
    have hsz0 := HB.out.size
    obtain ⟨FL, hFL⟩ : ∃ fl, stkV stN st = fl := ⟨_, rfl⟩
    rw [hFL] at hown
    have HFL := Lib.hid hFL
    clear hFL HO
    go_upto_region 14 with (at_builtin; refine wpList_append_own _ rfl _ _ 55 rfl w0.heap.size 3 i0 (.int .i64 0) 1 8 Try.underlying55 hi hz0 hz1 hz2 rfl (by decide) _ _ _ rfl (hown.alloc _) ⟨W1.heap.size, 0, none⟩ 1 1 [.int .i64 1] rfl rfl (one_src (by simp [go_sem])) (by intro u hu; simp at hu; subst hu; rfl) (by unfold maxLen; omega) (by omega) (by first | omega | (simp; omega)) ?_)
    intro v' w3 hown' hgrow _
    have hb3 := own_row_below (hown.alloc (.cells #[.int .i64 1] 3)) (HB.out.alloc HB.out.size _) hgrow (Nat.le_refl _) (by simp; omega)
    have q3 : w3.ownsRow w0.heap.size 3 1 v' (st.length + 1) (stkV stN (1 :: st)) := by rw [stkV_cons, HFL.out]; exact hown'
    clear hown hown' hgrow hsz0
    have HB := Lib.hid hb3
    have HO := Lib.hid q3
    obtain ⟨aV, cV, hvf⟩ := own_form q3
    subst hvf
    clear hb3 q3
    obtain ⟨M, hM⟩ : ∃ M, (st).length + 1 = M := ⟨_, rfl⟩
    have HQ : Hid (decide ((1 :: st).length ≤ 16) = decide (M ≤ 16)) := Lib.hid (by rw [← hM]; rfl)
    rw [hM] at HO ⊢
    have HM := Lib.hid hM
    clear hM
    by_cases h16 : M ≤ 16
    · have h16I : (M : Int) ≤ 16 := by omega
      go_wp2_with fail
      exact bodyPost_ret (v := .tuple #[.slice aV M cV, .bool true]) (by simp [results, Try.results67, go_sem]) rfl ⟨_, by rw [HQ.out, decide_eq_true h16], (by rw [show (1 :: st).length = M from HM.out]; exact HO.out), HB.out⟩
    · have h16I : ¬ (M : Int) ≤ 16 := by omega
      go_wp2_with fail
      exact bodyPost_ret (v := .tuple #[.slice aV M cV, .bool false]) (by simp [results, Try.results67, go_sem]) rfl ⟨_, by rw [HQ.out, decide_eq_false h16], (by rw [show (1 :: st).length = M from HM.out]; exact HO.out), HB.out⟩
  by_cases hk3 : k = 3
  · subst hk3
    have e := (goS_const st).symm.trans hres
    subst e
    clear hres
    have hown := HO.out
    have hsz0 := HB.out.size
    obtain ⟨FL, hFL⟩ : ∃ fl, stkV stN st = fl := ⟨_, rfl⟩
    rw [hFL] at hown
    have HFL := Lib.hid hFL
    clear hFL HO
    go_upto_region 14 with (at_builtin; refine wpList_append_own _ rfl _ _ 55 rfl w0.heap.size 3 i0 (.int .i64 0) 1 8 Try.underlying55 hi hz0 hz1 hz2 rfl (by decide) _ _ _ rfl (hown.alloc _) ⟨W1.heap.size, 0, none⟩ 1 1 [.int .i64 0] rfl rfl (one_src (by simp [go_sem])) (by intro u hu; simp at hu; subst hu; rfl) (by unfold maxLen; omega) (by omega) (by first | omega | (simp; omega)) ?_)
    intro v' w3 hown' hgrow _
    have hb3 := own_row_below (hown.alloc (.cells #[.int .i64 0] 3)) (HB.out.alloc HB.out.size _) hgrow (Nat.le_refl _) (by simp; omega)
    have q3 : w3.ownsRow w0.heap.size 3 1 v' (st.length + 1) (stkV stN (0 :: st)) := by rw [stkV_cons, HFL.out]; exact hown'
    clear hown hown' hgrow hsz0
    have HB := Lib.hid hb3
    have HO := Lib.hid q3
    obtain ⟨aV, cV, hvf⟩ := own_form q3
    subst hvf
    clear hb3 q3
    obtain ⟨M, hM⟩ : ∃ M, (st).length + 1 = M := ⟨_, rfl⟩
    have HQ : Hid (decide ((0 :: st).length ≤ 16) = decide (M ≤ 16)) := Lib.hid (by rw [← hM]; rfl)
    rw [hM] at HO ⊢
    have HM := Lib.hid hM
    clear hM
    by_cases h16 : M ≤ 16
    · have h16I : (M : Int) ≤ 16 := by omega
      go_wp2_with fail
      exact bodyPost_ret (v := .tuple #[.slice aV M cV, .bool true]) (by simp [results, Try.results67, go_sem]) rfl ⟨_, by rw [HQ.out, decide_eq_true h16], (by rw [show (0 :: st).length = M from HM.out]; exact HO.out), HB.out⟩
    · have h16I : ¬ (M : Int) ≤ 16 := by omega
      go_wp2_with fail
      exact bodyPost_ret (v := .tuple #[.slice aV M cV, .bool false]) (by simp [results, Try.results67, go_sem]) rfl ⟨_, by rw [HQ.out, decide_eq_false h16], (by rw [show (0 :: st).length = M from HM.out]; exact HO.out), HB.out⟩
  by_cases hfew : st.length < 2
  · have e := (goS_few (by omega) hk3 hfew).symm.trans hres
    subst e
    clear hres
    have hv3 : IntKind.i64.wrap ((st.length : Int) - 2) = (st.length : Int) - 2 := IntWalk.i64_in _ (by omega)
    have hv4 : wrap64 ((st.length : Int) - 2) = (st.length : Int) - 2 := IntWalk.wrap64_in _ (by omega)
    have hfI : (st.length : Int) - 2 < 0 := by omega
    have hkd : k = 4 ∨ k = 5 ∨ k = 6 := by omega
    clear HO
    rcases hkd with rfl | rfl | rfl
    all_goals
      go_wp2_with fail
      exact bodyPost_ret (v := .tuple #[.slice none 0 0, .bool false]) (by simp [results, Try.results67, go_sem]) rfl ⟨rfl, HB.out⟩
  obtain ⟨y, x, r, rfl⟩ : ∃ y x r, st = y :: x :: r := by
    match st, hfew with
    | y :: x :: r, _ => exact ⟨y, x, r, rfl⟩
    | [_], h => exact absurd (by simp) h
    | [], h => exact absurd (by simp) h
  have hsr : y + (x + r.sum) ≤ 500 := by simpa using hsum
  have hlr : r.length + 1 + 1 ≤ 16 := by simpa using hs
  obtain ⟨z, hz⟩ : ∃ z, joinN k x y = z := ⟨_, rfl⟩
  have e := (goS_two (by omega) hk3 y x r).symm.trans hres
  rw [hz] at e
  subst e
  clear hres
  have kc := fun W => hjoined_is k n x y z W (by omega) hz
  obtain ⟨M2, hM2⟩ : ∃ M2, r.length + 1 + 1 = M2 := ⟨_, rfl⟩
  obtain ⟨M1, hM1⟩ : ∃ M1, r.length + 1 = M1 := ⟨_, rfl⟩
  have HN := Lib.hid (stp_nums r.length M1 M2 hM1 hM2 hlr)
  obtain ⟨gs, cs', hu8, hcs, hcsm, hcx, hcy, hcut⟩ := stk_two stN_len HO.out
  have hrM : r.length ≤ cs' := by omega
  rw [hM2] at hcs
  have hu8' : aS = some ⟨gs, 0, none⟩ ∧ cS = cs' := by
    have e := hu8
    simp only [List.length_cons] at e
    cases e
    exact ⟨rfl, rfl⟩
  obtain ⟨rfl, rfl⟩ := hu8'
  clear hu8
  simp only [List.length_cons, hM2] at HO ⊢
  replace hcx := hcx 0 (by decide); replace hcy := hcy 0 (by decide)
  simp only [Nat.mul_one, Nat.add_zero, hM1] at hcx hcy
  replace hcx : W1.cell? ⟨gs, r.length, none⟩ = some (.int .i64 (x : Int)) := hcx
  replace hcy : W1.cell? ⟨gs, M1, none⟩ = some (.int .i64 (y : Int)) := hcy
  have HCX := Lib.hid hcx; have HCY := Lib.hid hcy; have HCUT := Lib.hid hcut; have HC0 := Lib.hid c0; have HC1 := Lib.hid c1
  clear hcx hcy hcut HO hM1 hM2 hfew hsum hs hz hsr
  have hkd : k = 4 ∨ k = 5 ∨ k = 6 := by omega
  have hne : ¬ k = 1 ∧ ¬ k = 2 ∧ ¬ k = 3 := ⟨hk1, hk2, hk3⟩
  rcases hkd with rfl | rfl | rfl
  · obtain ⟨hv3, hv4, hv1, hv2, hl2, hl3, hl4, hl5, hl6, hl7⟩ := HN.out
    clear HN
    go_upto_region 13 with fail
    clear c0 c1
    have HBR := Lib.hid HB.out.size
    refine wp_lay [(29, []), (30, []), (31, [29, 30]), (32, []), (33, []), (34, []), (35, [33, 34]), (36, [35]), (37, []), (38, []), (39, [38]), (40, [37, 39]), (41, [40]), (42, [32, 36, 41]), (43, [42]), (44, [31, 43])]
      (StkX w0 W1 3 1 32 36 41 42 43 44 0 r.length (stkV stN r) [.int .i64 (z : Int)] [29, 30, 31, 32, 33, 34, 35, 36, 37, 38, 39, 40, 41, 42] (StpVal gs r.length M1 M2 cS x y z 4 n)) (by kernel_rfl) (by kernel_rfl) (fun σ => StkX.start (Below.refl _ _).drew σ) ?_ ?_
    · refine opsw_cons ?_ (opsw_cons ?_ (opsw_cons ?_ (opsw_cons ?_ (opsw_cons ?_ (opsw_cons ?_ (opsw_cons ?_ (opsw_cons ?_ (opsw_cons ?_ (opsw_cons ?_ (opsw_cons ?_ (opsw_cons ?_ (opsw_cons ?_ (opsw_cons ?_ (opsw_cons ?_ (opsw_cons ?_ opsw_nil)))))))))))))))
      all_goals
        refine OpRunsW.any ?_
        intro Q0 D σ W K hW hd hn hK
        simp only [fill, List.map, Act.put, List.setIfInBounds_toArray, List.set_cons_zero, List.set_cons_succ] at hK ⊢
      · have HW := Lib.hid hW
        clear hW
        go_simp
        exact hK _ _ (HW.out.next (Below.refl _ _) (by decide) rfl)
      · have HW := Lib.hid hW
        clear hW
        go_simp
        exact hK _ _ (HW.out.next (Below.refl _ _) (by decide) rfl)
      · have h29 : σ 29 = (.slice (some ⟨gs, 0, none⟩) M2 cS) := hW.o.sv 29 (by decide) (hn 29 (by decide))
        have h30 : σ 30 = (.int .i64 (r.length : Int)) := hW.o.sv 30 (by decide) (hn 30 (by decide))
        simp only [h29, h30] at hK
        have HW := Lib.hid hW
        clear hW
        go_simp
        exact hK _ _ (HW.out.next (Below.refl _ _) (by decide) rfl)
      · have hop := hW.openx hd
        have c0 := bkeep (hW.o.pre hop) HC0.out
        have c1 := bkeep (hW.o.pre hop) HC1.out
        have HW := Lib.hid hW
        clear hW hop
        go_simp
        exact hK _ _ (HW.out.next (Below.refl _ _) (by decide) rfl)
      · have HW := Lib.hid hW
        clear hW
        go_simp
        exact hK _ _ (HW.out.next (Below.refl _ _) (by decide) rfl)
      · have HW := Lib.hid hW
        clear hW
        go_simp
        exact hK _ _ (HW.out.next (Below.refl _ _) (by decide) rfl)
      · have h33 : σ 33 = (.slice (some ⟨gs, 0, none⟩) M2 cS) := hW.o.sv 33 (by decide) (hn 33 (by decide))
        have h34 : σ 34 = (.int .i64 (r.length : Int)) := hW.o.sv 34 (by decide) (hn 34 (by decide))
        simp only [h33, h34] at hK
        have HW := Lib.hid hW
        clear hW
        go_simp
        exact hK _ _ (HW.out.next (Below.refl _ _) (by decide) rfl)
      · have h35 : σ 35 = (.pointer (some ⟨gs, r.length, none⟩)) := hW.o.sv 35 (by decide) (hn 35 (by decide))
        simp only [h35] at hK
        have hop := hW.o.opena hd
        have c0 := bkeep (hW.o.pre hop) HCX.out
        have HW := Lib.hid hW
        clear hW
        go_simp
        exact hK _ _ (HW.out.next (Below.refl _ _) (by decide) rfl)
      · have HW := Lib.hid hW
        clear hW
        go_simp
        exact hK _ _ (HW.out.next (Below.refl _ _) (by decide) rfl)
      · have HW := Lib.hid hW
        clear hW
        go_simp
        exact hK _ _ (HW.out.next (Below.refl _ _) (by decide) rfl)
      · have h38 : σ 38 = (.int .i64 (r.length : Int)) := hW.o.sv 38 (by decide) (hn 38 (by decide))
        simp only [h38] at hK
        have HW := Lib.hid hW
        clear hW
        go_simp
        exact hK _ _ (HW.out.next (Below.refl _ _) (by decide) rfl)
      · have h37 : σ 37 = (.slice (some ⟨gs, 0, none⟩) M2 cS) := hW.o.sv 37 (by decide) (hn 37 (by decide))
        have h39 : σ 39 = (.int .i64 (M1 : Int)) := hW.o.sv 39 (by decide) (hn 39 (by decide))
        simp only [h37, h39] at hK
        have HW := Lib.hid hW
        clear hW
        go_simp
        exact hK _ _ (HW.out.next (Below.refl _ _) (by decide) rfl)
      · have h40 : σ 40 = (.pointer (some ⟨gs, M1, none⟩)) := hW.o.sv 40 (by decide) (hn 40 (by decide))
        simp only [h40] at hK
        have hop := hW.o.openl hd
        have c0 := bkeep (hW.o.pre hop) HCY.out
        have HW := Lib.hid hW
        clear hW
        go_simp
        exact hK _ _ (HW.out.next (Below.refl _ _) (by decide) rfl)
      · have h32 : σ 32 = (.agg #[.int .i64 4, .int .u64 n]) := hW.o.sv 32 (by decide) (hn 32 (by decide))
        have h36 : σ 36 = (.int .i64 (x : Int)) := hW.o.sv 36 (by decide) (hn 36 (by decide))
        have h41 : σ 41 = (.int .i64 (y : Int)) := hW.o.sv 41 (by decide) (hn 41 (by decide))
        simp only [h32, h36, h41] at hK
        have hA := And.intro (hn 32 (by decide)) (hn 36 (by decide))
        have hL := hn 41 (by decide)
        have HH := Lib.hid (And.intro hd (And.intro hA hL))
        have HW := Lib.hid hW
        clear hW hd hA hL
        go_simp
        go_at_call 70
        refine (kc _).mono ?_
        rintro e w2 ⟨rfl, hb⟩
        exact hK _ _ (HW.out.call HH.out.1 HH.out.2.1.1 HH.out.2.1.2 HH.out.2.2 hb (by decide) rfl)
      · have h42 : σ 42 = (.int .i64 (z : Int)) := hW.o.sv 42 (by decide) (hn 42 (by decide))
        simp only [h42] at hK
        have HH := Lib.hid (And.intro hd (hn 42 (by decide)))
        have HW := Lib.hid hW
        clear hW hd
        go_simp
        exact hK _ _ (HW.out.build HH.out.1 HH.out.2 ((Below.refl _ _).alloc (Nat.le_refl _) _) (by decide) (by decide) (one_src (by simp [go_sem])))
      · have hsb := hn 43 (by decide)
        obtain ⟨gl, hl, hcell⟩ := hW.o.li hd hsb
        have h31 : σ 31 = (.slice (some ⟨gs, 0, none⟩) r.length cS) := hW.o.sv 31 (by decide) (hn 31 (by decide))
        have hpre := hW.o.pre hd
        have hown := own_keep HCUT.out hpre
        have hBW := bthen HB.out hpre
        rw [if_pos (by rfl)]
        refine wp_append_at3 (.tmp 31) (.tmp 43) 55 (by rfl) w0.heap.size 3 i0 (.int .i64 0) 1 8 Try.underlying55 hi hz0 hz1 hz2 rfl (by decide) (.slice (some ⟨gs, 0, none⟩) r.length cS) r.length (stkV stN r) (by exact h31) hown (some ⟨gl, 0, none⟩) 1 1 [.int .i64 (z : Int)] (by exact hl) rfl (fun h => by cases h) (fun h => by cases h) (by rintro ad e; cases e; exact hcell) (by intro u hu; simp at hu; subst hu; rfl) (by unfold maxLen; omega) (by omega) hBW.size ?_
        intro v' w' q1 q2 q3
        exact hK _ _ (hW.app hd hsb (by decide) (by decide) q1 (own_row_below hown hBW q2 (Nat.le_refl _) hBW.size))
    · intro D σ W hW hD
      obtain ⟨hq1, hq2⟩ := hW.o.post (hD 44 (by decide))
      have q3 : W.ownsRow w0.heap.size 3 1 (σ 44) (r.length + 1) (stkV stN (z :: r)) := by rw [stkV_cons]; exact hq1
      have hb3 := hq2
      obtain ⟨s7, hs7⟩ : ∃ v, σ 44 = v := ⟨_, rfl⟩
      rw [hs7] at q3
      clear hW hD hq1 hq2 HCX HCY HCUT kc HC0 HC1
      simp only [fill, List.map, Act.put, List.setIfInBounds_toArray, List.set_cons_zero, List.set_cons_succ, List.length_cons, List.length_nil, List.drop_succ_cons, List.drop_zero, Nat.reduceAdd, hs7]
      clear hs7
      have HB := Lib.hid hb3
      have HO := Lib.hid q3
      obtain ⟨aV, cV, hvf⟩ := own_form q3
      subst hvf
      clear hb3 q3
      obtain ⟨M, hM⟩ : ∃ M, (r).length + 1 = M := ⟨_, rfl⟩
      have HQ : Hid (decide ((z :: r).length ≤ 16) = decide (M ≤ 16)) := Lib.hid (by rw [← hM]; rfl)
      rw [hM] at HO ⊢
      have HM := Lib.hid hM
      clear hM
      by_cases h16 : M ≤ 16
      · have h16I : (M : Int) ≤ 16 := by omega
        go_wp2_with fail
        exact bodyPost_ret (v := .tuple #[.slice aV M cV, .bool true]) (by simp [results, Try.results67, go_sem]) rfl ⟨_, by rw [HQ.out, decide_eq_true h16], (by rw [show (z :: r).length = M from HM.out]; exact HO.out), HB.out⟩
      · have h16I : ¬ (M : Int) ≤ 16 := by omega
        go_wp2_with fail
        exact bodyPost_ret (v := .tuple #[.slice aV M cV, .bool false]) (by simp [results, Try.results67, go_sem]) rfl ⟨_, by rw [HQ.out, decide_eq_false h16], (by rw [show (z :: r).length = M from HM.out]; exact HO.out), HB.out⟩
  · obtain ⟨hv3, hv4, hv1, hv2, hl2, hl3, hl4, hl5, hl6, hl7⟩ := HN.out
    clear HN
    go_upto_region 13 with fail
    clear c0 c1
    have HBR := Lib.hid HB.out.size
    refine wp_lay [(29, []), (30, []), (31, [29, 30]), (32, []), (33, []), (34, []), (35, [33, 34]), (36, [35]), (37, []), (38, []), (39, [38]), (40, [37, 39]), (41, [40]), (42, [32, 36, 41]), (43, [42]), (44, [31, 43])]
      (StkX w0 W1 3 1 32 36 41 42 43 44 0 r.length (stkV stN r) [.int .i64 (z : Int)] [29, 30, 31, 32, 33, 34, 35, 36, 37, 38, 39, 40, 41, 42] (StpVal gs r.length M1 M2 cS x y z 5 n)) (by kernel_rfl) (by kernel_rfl) (fun σ => StkX.start (Below.refl _ _).drew σ) ?_ ?_
    · refine opsw_cons ?_ (opsw_cons ?_ (opsw_cons ?_ (opsw_cons ?_ (opsw_cons ?_ (opsw_cons ?_ (opsw_cons ?_ (opsw_cons ?_ (opsw_cons ?_ (opsw_cons ?_ (opsw_cons ?_ (opsw_cons ?_ (opsw_cons ?_ (opsw_cons ?_ (opsw_cons ?_ (opsw_cons ?_ opsw_nil)))))))))))))))
      all_goals
        refine OpRunsW.any ?_
        intro Q0 D σ W K hW hd hn hK
        simp only [fill, List.map, Act.put, List.setIfInBounds_toArray, List.set_cons_zero, List.set_cons_succ] at hK ⊢
      · have HW := Lib.hid hW
        clear hW
        go_simp
        exact hK _ _ (HW.out.next (Below.refl _ _) (by decide) rfl)
      · have HW := Lib.hid hW
        clear hW
        go_simp
        exact hK _ _ (HW.out.next (Below.refl _ _) (by decide) rfl)
      · have h29 : σ 29 = (.slice (some ⟨gs, 0, none⟩) M2 cS) := hW.o.sv 29 (by decide) (hn 29 (by decide))
        have h30 : σ 30 = (.int .i64 (r.length : Int)) := hW.o.sv 30 (by decide) (hn 30 (by decide))
        simp only [h29, h30] at hK
        have HW := Lib.hid hW
        clear hW
        go_simp
        exact hK _ _ (HW.out.next (Below.refl _ _) (by decide) rfl)
      · have hop := hW.openx hd
        have c0 := bkeep (hW.o.pre hop) HC0.out
        have c1 := bkeep (hW.o.pre hop) HC1.out
        have HW := Lib.hid hW
        clear hW hop
        go_simp
        exact hK _ _ (HW.out.next (Below.refl _ _) (by decide) rfl)
      · have HW := Lib.hid hW
        clear hW
        go_simp
        exact hK _ _ (HW.out.next (Below.refl _ _) (by decide) rfl)
      · have HW := Lib.hid hW
        clear hW
        go_simp
        exact hK _ _ (HW.out.next (Below.refl _ _) (by decide) rfl)
      · have h33 : σ 33 = (.slice (some ⟨gs, 0, none⟩) M2 cS) := hW.o.sv 33 (by decide) (hn 33 (by decide))
        have h34 : σ 34 = (.int .i64 (r.length : Int)) := hW.o.sv 34 (by decide) (hn 34 (by decide))
        simp only [h33, h34] at hK
        have HW := Lib.hid hW
        clear hW
        go_simp
        exact hK _ _ (HW.out.next (Below.refl _ _) (by decide) rfl)
      · have h35 : σ 35 = (.pointer (some ⟨gs, r.length, none⟩)) := hW.o.sv 35 (by decide) (hn 35 (by decide))
        simp only [h35] at hK
        have hop := hW.o.opena hd
        have c0 := bkeep (hW.o.pre hop) HCX.out
        have HW := Lib.hid hW
        clear hW
        go_simp
        exact hK _ _ (HW.out.next (Below.refl _ _) (by decide) rfl)
      · have HW := Lib.hid hW
        clear hW
        go_simp
        exact hK _ _ (HW.out.next (Below.refl _ _) (by decide) rfl)
      · have HW := Lib.hid hW
        clear hW
        go_simp
        exact hK _ _ (HW.out.next (Below.refl _ _) (by decide) rfl)
      · have h38 : σ 38 = (.int .i64 (r.length : Int)) := hW.o.sv 38 (by decide) (hn 38 (by decide))
        simp only [h38] at hK
        have HW := Lib.hid hW
        clear hW
        go_simp
        exact hK _ _ (HW.out.next (Below.refl _ _) (by decide) rfl)
      · have h37 : σ 37 = (.slice (some ⟨gs, 0, none⟩) M2 cS) := hW.o.sv 37 (by decide) (hn 37 (by decide))
        have h39 : σ 39 = (.int .i64 (M1 : Int)) := hW.o.sv 39 (by decide) (hn 39 (by decide))
        simp only [h37, h39] at hK
        have HW := Lib.hid hW
        clear hW
        go_simp
        exact hK _ _ (HW.out.next (Below.refl _ _) (by decide) rfl)
      · have h40 : σ 40 = (.pointer (some ⟨gs, M1, none⟩)) := hW.o.sv 40 (by decide) (hn 40 (by decide))
        simp only [h40] at hK
        have hop := hW.o.openl hd
        have c0 := bkeep (hW.o.pre hop) HCY.out
        have HW := Lib.hid hW
        clear hW
        go_simp
        exact hK _ _ (HW.out.next (Below.refl _ _) (by decide) rfl)
      · have h32 : σ 32 = (.agg #[.int .i64 5, .int .u64 n]) := hW.o.sv 32 (by decide) (hn 32 (by decide))
        have h36 : σ 36 = (.int .i64 (x : Int)) := hW.o.sv 36 (by decide) (hn 36 (by decide))
        have h41 : σ 41 = (.int .i64 (y : Int)) := hW.o.sv 41 (by decide) (hn 41 (by decide))
        simp only [h32, h36, h41] at hK
        have hA := And.intro (hn 32 (by decide)) (hn 36 (by decide))
        have hL := hn 41 (by decide)
        have HH := Lib.hid (And.intro hd (And.intro hA hL))
        have HW := Lib.hid hW
        clear hW hd hA hL
        go_simp
        go_at_call 70
        refine (kc _).mono ?_
        rintro e w2 ⟨rfl, hb⟩
        exact hK _ _ (HW.out.call HH.out.1 HH.out.2.1.1 HH.out.2.1.2 HH.out.2.2 hb (by decide) rfl)
      · have h42 : σ 42 = (.int .i64 (z : Int)) := hW.o.sv 42 (by decide) (hn 42 (by decide))
        simp only [h42] at hK
        have HH := Lib.hid (And.intro hd (hn 42 (by decide)))
        have HW := Lib.hid hW
        clear hW hd
        go_simp
        exact hK _ _ (HW.out.build HH.out.1 HH.out.2 ((Below.refl _ _).alloc (Nat.le_refl _) _) (by decide) (by decide) (one_src (by simp [go_sem])))
      · have hsb := hn 43 (by decide)
        obtain ⟨gl, hl, hcell⟩ := hW.o.li hd hsb
        have h31 : σ 31 = (.slice (some ⟨gs, 0, none⟩) r.length cS) := hW.o.sv 31 (by decide) (hn 31 (by decide))
        have hpre := hW.o.pre hd
        have hown := own_keep HCUT.out hpre
        have hBW := bthen HB.out hpre
        rw [if_pos (by rfl)]
        refine wp_append_at3 (.tmp 31) (.tmp 43) 55 (by rfl) w0.heap.size 3 i0 (.int .i64 0) 1 8 Try.underlying55 hi hz0 hz1 hz2 rfl (by decide) (.slice (some ⟨gs, 0, none⟩) r.length cS) r.length (stkV stN r) (by exact h31) hown (some ⟨gl, 0, none⟩) 1 1 [.int .i64 (z : Int)] (by exact hl) rfl (fun h => by cases h) (fun h => by cases h) (by rintro ad e; cases e; exact hcell) (by intro u hu; simp at hu; subst hu; rfl) (by unfold maxLen; omega) (by omega) hBW.size ?_
        intro v' w' q1 q2 q3
        exact hK _ _ (hW.app hd hsb (by decide) (by decide) q1 (own_row_below hown hBW q2 (Nat.le_refl _) hBW.size))
    · intro D σ W hW hD
      obtain ⟨hq1, hq2⟩ := hW.o.post (hD 44 (by decide))
      have q3 : W.ownsRow w0.heap.size 3 1 (σ 44) (r.length + 1) (stkV stN (z :: r)) := by rw [stkV_cons]; exact hq1
      have hb3 := hq2
      obtain ⟨s7, hs7⟩ : ∃ v, σ 44 = v := ⟨_, rfl⟩
      rw [hs7] at q3
      clear hW hD hq1 hq2 HCX HCY HCUT kc HC0 HC1
      simp only [fill, List.map, Act.put, List.setIfInBounds_toArray, List.set_cons_zero, List.set_cons_succ, List.length_cons, List.length_nil, List.drop_succ_cons, List.drop_zero, Nat.reduceAdd, hs7]
      clear hs7
      have HB := Lib.hid hb3
      have HO := Lib.hid q3
      obtain ⟨aV, cV, hvf⟩ := own_form q3
      subst hvf
      clear hb3 q3
      obtain ⟨M, hM⟩ : ∃ M, (r).length + 1 = M := ⟨_, rfl⟩
      have HQ : Hid (decide ((z :: r).length ≤ 16) = decide (M ≤ 16)) := Lib.hid (by rw [← hM]; rfl)
      rw [hM] at HO ⊢
      have HM := Lib.hid hM
      clear hM
      by_cases h16 : M ≤ 16
      · have h16I : (M : Int) ≤ 16 := by omega
        go_wp2_with fail
        exact bodyPost_ret (v := .tuple #[.slice aV M cV, .bool true]) (by simp [results, Try.results67, go_sem]) rfl ⟨_, by rw [HQ.out, decide_eq_true h16], (by rw [show (z :: r).length = M from HM.out]; exact HO.out), HB.out⟩
      · have h16I : ¬ (M : Int) ≤ 16 := by omega
        go_wp2_with fail
        exact bodyPost_ret (v := .tuple #[.slice aV M cV, .bool false]) (by simp [results, Try.results67, go_sem]) rfl ⟨_, by rw [HQ.out, decide_eq_false h16], (by rw [show (z :: r).length = M from HM.out]; exact HO.out), HB.out⟩
  · obtain ⟨hv3, hv4, hv1, hv2, hl2, hl3, hl4, hl5, hl6, hl7⟩ := HN.out
    clear HN
    go_upto_region 13 with fail
    clear c0 c1
    have HBR := Lib.hid HB.out.size
    refine wp_lay [(29, []), (30, []), (31, [29, 30]), (32, []), (33, []), (34, []), (35, [33, 34]), (36, [35]), (37, []), (38, []), (39, [38]), (40, [37, 39]), (41, [40]), (42, [32, 36, 41]), (43, [42]), (44, [31, 43])]
      (StkX w0 W1 3 1 32 36 41 42 43 44 0 r.length (stkV stN r) [.int .i64 (z : Int)] [29, 30, 31, 32, 33, 34, 35, 36, 37, 38, 39, 40, 41, 42] (StpVal gs r.length M1 M2 cS x y z 6 n)) (by kernel_rfl) (by kernel_rfl) (fun σ => StkX.start (Below.refl _ _).drew σ) ?_ ?_
    · refine opsw_cons ?_ (opsw_cons ?_ (opsw_cons ?_ (opsw_cons ?_ (opsw_cons ?_ (opsw_cons ?_ (opsw_cons ?_ (opsw_cons ?_ (opsw_cons ?_ (opsw_cons ?_ (opsw_cons ?_ (opsw_cons ?_ (opsw_cons ?_ (opsw_cons ?_ (opsw_cons ?_ (opsw_cons ?_ opsw_nil)))))))))))))))
      all_goals
        refine OpRunsW.any ?_
        intro Q0 D σ W K hW hd hn hK
        simp only [fill, List.map, Act.put, List.setIfInBounds_toArray, List.set_cons_zero, List.set_cons_succ] at hK ⊢
      · have HW := Lib.hid hW
        clear hW
        go_simp
        exact hK _ _ (HW.out.next (Below.refl _ _) (by decide) rfl)
      · have HW := Lib.hid hW
        clear hW
        go_simp
        exact hK _ _ (HW.out.next (Below.refl _ _) (by decide) rfl)
      · have h29 : σ 29 = (.slice (some ⟨gs, 0, none⟩) M2 cS) := hW.o.sv 29 (by decide) (hn 29 (by decide))
        have h30 : σ 30 = (.int .i64 (r.length : Int)) := hW.o.sv 30 (by decide) (hn 30 (by decide))
        simp only [h29, h30] at hK
        have HW := Lib.hid hW
        clear hW
        go_simp
        exact hK _ _ (HW.out.next (Below.refl _ _) (by decide) rfl)
      · have hop := hW.openx hd
        have c0 := bkeep (hW.o.pre hop) HC0.out
        have c1 := bkeep (hW.o.pre hop) HC1.out
        have HW := Lib.hid hW
        clear hW hop
        go_simp
        exact hK _ _ (HW.out.next (Below.refl _ _) (by decide) rfl)
      · have HW := Lib.hid hW
        clear hW
        go_simp
        exact hK _ _ (HW.out.next (Below.refl _ _) (by decide) rfl)
      · have HW := Lib.hid hW
        clear hW
        go_simp
        exact hK _ _ (HW.out.next (Below.refl _ _) (by decide) rfl)
      · have h33 : σ 33 = (.slice (some ⟨gs, 0, none⟩) M2 cS) := hW.o.sv 33 (by decide) (hn 33 (by decide))
        have h34 : σ 34 = (.int .i64 (r.length : Int)) := hW.o.sv 34 (by decide) (hn 34 (by decide))
        simp only [h33, h34] at hK
        have HW := Lib.hid hW
        clear hW
        go_simp
        exact hK _ _ (HW.out.next (Below.refl _ _) (by decide) rfl)
      · have h35 : σ 35 = (.pointer (some ⟨gs, r.length, none⟩)) := hW.o.sv 35 (by decide) (hn 35 (by decide))
        simp only [h35] at hK
        have hop := hW.o.opena hd
        have c0 := bkeep (hW.o.pre hop) HCX.out
        have HW := Lib.hid hW
        clear hW
        go_simp
        exact hK _ _ (HW.out.next (Below.refl _ _) (by decide) rfl)
      · have HW := Lib.hid hW
        clear hW
        go_simp
        exact hK _ _ (HW.out.next (Below.refl _ _) (by decide) rfl)
      · have HW := Lib.hid hW
        clear hW
        go_simp
        exact hK _ _ (HW.out.next (Below.refl _ _) (by decide) rfl)
      · have h38 : σ 38 = (.int .i64 (r.length : Int)) := hW.o.sv 38 (by decide) (hn 38 (by decide))
        simp only [h38] at hK
        have HW := Lib.hid hW
        clear hW
        go_simp
        exact hK _ _ (HW.out.next (Below.refl _ _) (by decide) rfl)
      · have h37 : σ 37 = (.slice (some ⟨gs, 0, none⟩) M2 cS) := hW.o.sv 37 (by decide) (hn 37 (by decide))
        have h39 : σ 39 = (.int .i64 (M1 : Int)) := hW.o.sv 39 (by decide) (hn 39 (by decide))
        simp only [h37, h39] at hK
        have HW := Lib.hid hW
        clear hW
        go_simp
        exact hK _ _ (HW.out.next (Below.refl _ _) (by decide) rfl)
      · have h40 : σ 40 = (.pointer (some ⟨gs, M1, none⟩)) := hW.o.sv 40 (by decide) (hn 40 (by decide))
        simp only [h40] at hK
        have hop := hW.o.openl hd
        have c0 := bkeep (hW.o.pre hop) HCY.out
        have HW := Lib.hid hW
        clear hW
        go_simp
        exact hK _ _ (HW.out.next (Below.refl _ _) (by decide) rfl)
      · have h32 : σ 32 = (.agg #[.int .i64 6, .int .u64 n]) := hW.o.sv 32 (by decide) (hn 32 (by decide))
        have h36 : σ 36 = (.int .i64 (x : Int)) := hW.o.sv 36 (by decide) (hn 36 (by decide))
        have h41 : σ 41 = (.int .i64 (y : Int)) := hW.o.sv 41 (by decide) (hn 41 (by decide))
        simp only [h32, h36, h41] at hK
        have hA := And.intro (hn 32 (by decide)) (hn 36 (by decide))
        have hL := hn 41 (by decide)
        have HH := Lib.hid (And.intro hd (And.intro hA hL))
        have HW := Lib.hid hW
        clear hW hd hA hL
        go_simp
        go_at_call 70
        refine (kc _).mono ?_
        rintro e w2 ⟨rfl, hb⟩
        exact hK _ _ (HW.out.call HH.out.1 HH.out.2.1.1 HH.out.2.1.2 HH.out.2.2 hb (by decide) rfl)
      · have h42 : σ 42 = (.int .i64 (z : Int)) := hW.o.sv 42 (by decide) (hn 42 (by decide))
        simp only [h42] at hK
        have HH := Lib.hid (And.intro hd (hn 42 (by decide)))
        have HW := Lib.hid hW
        clear hW hd
        go_simp
        exact hK _ _ (HW.out.build HH.out.1 HH.out.2 ((Below.refl _ _).alloc (Nat.le_refl _) _) (by decide) (by decide) (one_src (by simp [go_sem])))
      · have hsb := hn 43 (by decide)
        obtain ⟨gl, hl, hcell⟩ := hW.o.li hd hsb
        have h31 : σ 31 = (.slice (some ⟨gs, 0, none⟩) r.length cS) := hW.o.sv 31 (by decide) (hn 31 (by decide))
        have hpre := hW.o.pre hd
        have hown := own_keep HCUT.out hpre
        have hBW := bthen HB.out hpre
        rw [if_pos (by rfl)]
        refine wp_append_at3 (.tmp 31) (.tmp 43) 55 (by rfl) w0.heap.size 3 i0 (.int .i64 0) 1 8 Try.underlying55 hi hz0 hz1 hz2 rfl (by decide) (.slice (some ⟨gs, 0, none⟩) r.length cS) r.length (stkV stN r) (by exact h31) hown (some ⟨gl, 0, none⟩) 1 1 [.int .i64 (z : Int)] (by exact hl) rfl (fun h => by cases h) (fun h => by cases h) (by rintro ad e; cases e; exact hcell) (by intro u hu; simp at hu; subst hu; rfl) (by unfold maxLen; omega) (by omega) hBW.size ?_
        intro v' w' q1 q2 q3
        exact hK _ _ (hW.app hd hsb (by decide) (by decide) q1 (own_row_below hown hBW q2 (Nat.le_refl _) hBW.size))
    · intro D σ W hW hD
      obtain ⟨hq1, hq2⟩ := hW.o.post (hD 44 (by decide))
      have q3 : W.ownsRow w0.heap.size 3 1 (σ 44) (r.length + 1) (stkV stN (z :: r)) := by rw [stkV_cons]; exact hq1
      have hb3 := hq2
      obtain ⟨s7, hs7⟩ : ∃ v, σ 44 = v := ⟨_, rfl⟩
      rw [hs7] at q3
      clear hW hD hq1 hq2 HCX HCY HCUT kc HC0 HC1
      simp only [fill, List.map, Act.put, List.setIfInBounds_toArray, List.set_cons_zero, List.set_cons_succ, List.length_cons, List.length_nil, List.drop_succ_cons, List.drop_zero, Nat.reduceAdd, hs7]
      clear hs7
      have HB := Lib.hid hb3
      have HO := Lib.hid q3
      obtain ⟨aV, cV, hvf⟩ := own_form q3
      subst hvf
      clear hb3 q3
      obtain ⟨M, hM⟩ : ∃ M, (r).length + 1 = M := ⟨_, rfl⟩
      have HQ : Hid (decide ((z :: r).length ≤ 16) = decide (M ≤ 16)) := Lib.hid (by rw [← hM]; rfl)
      rw [hM] at HO ⊢
      have HM := Lib.hid hM
      clear hM
      by_cases h16 : M ≤ 16
      · have h16I : (M : Int) ≤ 16 := by omega
        go_wp2_with fail
        exact bodyPost_ret (v := .tuple #[.slice aV M cV, .bool true]) (by simp [results, Try.results67, go_sem]) rfl ⟨_, by rw [HQ.out, decide_eq_true h16], (by rw [show (z :: r).length = M from HM.out]; exact HO.out), HB.out⟩
      · have h16I : ¬ (M : Int) ≤ 16 := by omega
        go_wp2_with fail
        exact bodyPost_ret (v := .tuple #[.slice aV M cV, .bool false]) (by simp [results, Try.results67, go_sem]) rfl ⟨_, by rw [HQ.out, decide_eq_false h16], (by rw [show (z :: r).length = M from HM.out]; exact HO.out), HB.out⟩
theorem hstep_none (w0 : World) (v : Value) (st : List Nat) (k n : Int) (w : World) (hres : goS k st = none) (hk : 1 ≤ k ∧ k ≤ 6) (hs : st.length ≤ 16) (hsum : st.sum ≤ 500) (hown : w.ownsRow w0.heap.size 3 1 v st.length (stkV stN st)) (hB : Below w0.heap.size w0 w) :
    Calls Try.prog 67 #[v, .agg #[.int .i64 k, .int .u64 n]] w fun E w' => E = .returned (.tuple #[.slice none 0 0, .bool false]) ∧ Below w0.heap.size w0 w' :=
  hstep_is w0 v st k n none w hres hk hs hsum hown hB
theorem hstep_some (w0 : World) (v : Value) (st l : List Nat) (k n : Int) (q : Bool) (w : World) (hres : goS k st = some l) (hq : decide (l.length ≤ 16) = q) (hk : 1 ≤ k ∧ k ≤ 6) (hs : st.length ≤ 16) (hsum : st.sum ≤ 500) (hown : w.ownsRow w0.heap.size 3 1 v st.length (stkV stN st)) (hB : Below w0.heap.size w0 w) :
    Calls Try.prog 67 #[v, .agg #[.int .i64 k, .int .u64 n]] w fun E w' => ∃ a c, E = .returned (.tuple #[.slice a l.length c, .bool q]) ∧ w'.ownsRow w0.heap.size 3 1 (.slice a l.length c) l.length (stkV stN l) ∧ Below w0.heap.size w0 w' :=
  (hstep_is w0 v st k n (some l) w hres hk hs hsum hown hB).mono fun e w' ⟨v', h1, h2, h3⟩ => by
    obtain ⟨a, c, hv⟩ := own_form h2
    subst hv
    exact ⟨a, c, by rw [h1, hq], h2, h3⟩
theorem within_bad {k n cols : Int} {nx : Bool} (hr : rightO (k, n) = true) (hw : withinB k n cols nx = false) (st : List Nat) : pushS cols nx (k, n) st = (3, st) := by
  unfold withinB at hw
  by_cases h1 : k = 1
  · subst h1
    rw [if_pos rfl] at hw
    exact push_far hr (by simp) (.inl rfl) (by simpa using hw)
  · rw [if_neg h1] at hw
    by_cases h2 : k = 2
    · subst h2
      rw [if_pos rfl] at hw
      cases nx with
      | false => exact push_bad (.inr ⟨rfl, rfl⟩)
      | true => exact push_far hr (by simp) (.inr rfl) (by simpa using hw)
    · rw [if_neg h2] at hw; cases hw
theorem within_some {k n cols : Int} {nx : Bool} {st l : List Nat} (hr : rightO (k, n) = true) (hw : withinB k n cols nx = true) (hg : goS k st = some l) : pushS cols nx (k, n) st = (0, l) := by
  unfold withinB at hw
  unfold goS at hg
  by_cases h1 : k = 1
  · subst h1
    rw [if_pos rfl] at hw
    rw [if_pos (.inl rfl)] at hg
    cases hg
    exact push_col hr (by simp) (.inl rfl) (by simpa using hw)
  · by_cases h2 : k = 2
    · subst h2
      rw [if_neg h1, if_pos rfl] at hw
      rw [if_pos (.inr rfl)] at hg
      cases hg
      simp at hw
      exact push_col hr (by simp [hw.1]) (.inr rfl) hw.2
    · rw [if_neg (by simp [h1, h2])] at hg
      by_cases h3 : k = 3
      · rw [if_pos h3] at hg
        cases hg
        exact push_const hr h3
      · rw [if_neg h3] at hg
        match st, hg with
        | y :: x :: r, hg =>
          cases hg
          exact push_two hr (by simp [h1, h2]) h3
theorem within_none {k n cols : Int} {nx : Bool} {st : List Nat} (hr : rightO (k, n) = true) (hg : goS k st = none) : pushS cols nx (k, n) st = (4, st) := by
  unfold goS at hg
  by_cases h1 : k = 1 ∨ k = 2
  · rw [if_pos h1] at hg; cases hg
  · rw [if_neg h1] at hg
    by_cases h3 : k = 3
    · rw [if_pos h3] at hg; cases hg
    · rw [if_neg h3] at hg
      match st, hg with
      | [], _ => exact push_few hr h1 h3 (by simp)
      | [_], _ => exact push_few hr h1 h3 (by simp)
def maxL (st : List Nat) : Nat := st.foldr max 0
theorem maxL_cons (x : Nat) (st : List Nat) : maxL (x :: st) = max x (maxL st) := rfl
theorem maxL_go {k : Int} {st l : List Nat} (hg : goS k st = some l) : max (maxL st) (topS l) = maxL l := by
  unfold goS at hg
  split at hg
  · cases hg; rw [maxL_cons]; show max (maxL st) 1 = _; omega
  · split at hg
    · cases hg; rw [maxL_cons]; show max (maxL st) 0 = _; omega
    · match st, hg with
      | y :: x :: r, hg =>
        cases hg
        rw [maxL_cons, maxL_cons, maxL_cons]
        show max (max y (max x (maxL r))) (joinN k x y) = _
        unfold joinN
        split <;> omega
def ChkRelP (w : World) (zs : List Opn) (cols : Int) (nx : Bool) (D : Nat × Int) (v i : Value) (W : World) : Prop :=
  ∃ (k : Nat) (st : List Nat), k ≤ zs.length ∧ i = .int .i64 k ∧ Below w.heap.size w W ∧ W.ownsRow w.heap.size 3 1 v st.length (stkV stN st) ∧ st.length ≤ 16 ∧ st.sum ≤ k ∧ tellS cols nx (zs.drop k) st (maxL st) = D
set_option maxRecDepth 100000 in
set_option maxHeartbeats 8000000 in
theorem hcheck_is (a : Option Addr) (cap : Nat) (zs : List Opn) (cols : Int) (nx : Bool) (d : Nat) (e : Int) (w : World) (hO : OpA w a zs.length zs) (hu : ∀ o ∈ zs, OkO o) (hz : checkB zs cols nx = (d, e)) :
    Calls Try.prog 59 #[.slice a zs.length cap, .int .i64 cols, .bool nx] w fun E w' => E = .returned (.tuple #[.int .i64 (d : Int), .int .i64 e]) ∧ Below w.heap.size w w' := by
  have hmax := hO.2.1
  unfold maxLen at hmax
  have HC := Lib.hid hO.2.2
  have HU := Lib.hid hu
  clear hO hu
  unfold checkB at hz
  by_cases hbig : 256 < zs.length
  · rw [if_pos hbig] at hz
    obtain ⟨rfl, rfl⟩ := Prod.mk.inj hz
    have hbI : (256 : Int) < (zs.length : Int) := by omega
    clear hz
    go_enter Try.func59, Try.ntmps59
    go_wp2
    exact bodyPost_ret (v := .tuple #[.int .i64 0, .int .i64 6]) (by simp [results, Try.results59, go_sem]) rfl ⟨rfl, Below.refl _ _⟩
  rw [if_neg hbig] at hz
  have HZ := Lib.hid hz
  have hbI : ¬ (256 : Int) < (zs.length : Int) := by omega
  have hlen : zs.length ≤ 256 := by omega
  clear hz hbig hmax
  go_enter Try.func59, Try.ntmps59
  go_upto_region 5 with fail
  go_loopw [8, 17] (ChkRelP w zs cols nx (d, e)) (fun _ i _ => zs.length - (intOf i).toNat)
  case atStart => exact ⟨0, [], Nat.zero_le _, rfl, Below.refl _ _, World.ownsRow_nil _ _ _ _, by simp, by simp, by rw [List.drop_zero]; exact HZ.out⟩
  case round =>
    clear HZ hbI
    obtain ⟨k, st, hk, rfl, hB, hown, hst, hsum, hres⟩ := hrel
    by_cases hlt : k < zs.length
    · have hlt' : (k : Int) < (zs.length : Int) := by omega
      have hk0 : (0 : Int) ≤ (k : Int) := by omega
      rw [drop_at hlt] at hres
      have hok : OkO (zs.getD k (0, 0)) := by
        have e : zs.getD k (0, 0) = zs[k] := by simp [List.getD, hlt]
        rw [e]
        exact HU.out _ (List.getElem_mem hlt)
      obtain ⟨b, off, rfl, u0, u1⟩ := HC.out k hlt
      replace u0 := bkeep hB u0; replace u1 := bkeep hB u1
      obtain ⟨rest, hrest⟩ : ∃ r, zs.drop (k + 1) = r := ⟨_, rfl⟩
      rw [hrest] at hres
      have HREST := Lib.hid hrest
      clear hrest
      generalize zs.getD k (0, 0) = o at *
      obtain ⟨kd, nn⟩ := o
      dsimp only at u0 u1
      have HB := Lib.hid hB; have HO := Lib.hid hown; have HRES := Lib.hid hres
      obtain ⟨aS, cS, hv⟩ := own_form hown
      subst hv
      clear hB hown hres
      go_upto_region 7 with fail
      obtain ⟨g6, hg6⟩ : ∃ g, wr.heap.size = g := ⟨_, rfl⟩
      refine wp_gen (fun W => Below w.heap.size w W ∧ W.ownsRow w.heap.size 3 1 (.slice aS st.length cS) st.length (stkV stN st) ∧ W.cell? ⟨wr.heap.size, 0, none⟩ = some (.int .i64 kd) ∧ W.cell? ⟨wr.heap.size, 1, none⟩ = some (.int .u64 nn)) ⟨HB.out.alloc HB.out.size _, HO.out.alloc _, by simp [go_sem], by simp [go_sem]⟩ ?_
      rw [hg6]
      rintro W1 ⟨hB, hown, c0, c1⟩
      have HB := Lib.hid hB; have HO := Lib.hid hown
      clear hB hown hg6 u0 u1
      have kr := fun r h => kright_is kd nn r (w := W1) hok h
      by_cases hr : rightO (kd, nn) = false
      · have hD := (tell_err (l := rest) (wo := maxL st) (push_bad (cols := cols) (nx := nx) (st := st) (.inl hr)) (by decide)).symm.trans HRES.out
        obtain ⟨rfl, rfl⟩ := Prod.mk.inj hD
        clear hD HRES
        go_wp2_with (go_at_call 65; (with_reducible refine (kr false hr).mono ?_); rintro e w2 ⟨rfl, hb⟩; replace HB := Lib.hid (bthen HB.out hb); replace HO := Lib.hid (own_keep HO.out hb); replace c0 := bkeep hb c0; replace c1 := bkeep hb c1; clear hb)
        exact bodyPost_ret (v := .tuple #[.int .i64 0, .int .i64 3]) (by simp [results, Try.results59, go_sem]) rfl ⟨rfl, HB.out⟩
      have hrt : rightO (kd, nn) = true := by simpa using hr
      have hk := right_kind hrt
      dsimp only at hk
      have hn0 : 0 ≤ nn := hok.2.1
      have hk6 : 1 ≤ kd ∧ kd ≤ 6 := by omega
      obtain ⟨q, hq⟩ : ∃ q, withinB kd nn cols nx = q := ⟨_, rfl⟩
      have kw := fun W => hwithin_is kd nn cols nx q W hrt hn0 hq
      cases q with
      | false =>
        have hD := (tell_err (l := rest) (wo := maxL st) (within_bad hrt hq st) (by decide)).symm.trans HRES.out
        obtain ⟨rfl, rfl⟩ := Prod.mk.inj hD
        clear hD HRES hq
        go_wp2_with (first | (go_at_call 65; (with_reducible refine (kr true hrt).mono ?_); rintro e w2 ⟨rfl, hb⟩; replace HB := Lib.hid (bthen HB.out hb); replace HO := Lib.hid (own_keep HO.out hb); replace c0 := bkeep hb c0; replace c1 := bkeep hb c1; clear hb) | (go_at_call 66; (with_reducible refine (kw _).mono ?_); rintro e w2 ⟨rfl, hb⟩; replace HB := Lib.hid (bthen HB.out hb); replace HO := Lib.hid (own_keep HO.out hb); replace c0 := bkeep hb c0; replace c1 := bkeep hb c1; clear hb))
        exact bodyPost_ret (v := .tuple #[.int .i64 0, .int .i64 3]) (by simp [results, Try.results59, go_sem]) rfl ⟨rfl, HB.out⟩
      | true =>
        have hsum5 : st.sum ≤ 500 := by omega
        cases hgo : goS kd st with
        | none =>
          have hD := (tell_err (l := rest) (wo := maxL st) (within_none (cols := cols) (nx := nx) hrt hgo) (by decide)).symm.trans HRES.out
          obtain ⟨rfl, rfl⟩ := Prod.mk.inj hD
          have ks := fun W hO hB => hstep_none w (.slice aS st.length cS) st kd nn W hgo hk6 hst hsum5 hO hB
          clear hD HRES hq hgo
          go_wp2_with (first | (go_at_call 65; (with_reducible refine (kr true hrt).mono ?_); rintro e w2 ⟨rfl, hb⟩; replace HB := Lib.hid (bthen HB.out hb); replace HO := Lib.hid (own_keep HO.out hb); replace c0 := bkeep hb c0; replace c1 := bkeep hb c1; clear hb) | (go_at_call 66; (with_reducible refine (kw _).mono ?_); rintro e w2 ⟨rfl, hb⟩; replace HB := Lib.hid (bthen HB.out hb); replace HO := Lib.hid (own_keep HO.out hb); replace c0 := bkeep hb c0; replace c1 := bkeep hb c1; clear hb) | (go_at_call 67; (with_reducible refine (ks _ HO.out HB.out).mono ?_); rintro e w3 ⟨rfl, hb⟩; clear HB HO c0 c1; have HB := Lib.hid hb; clear hb))
          exact bodyPost_ret (v := .tuple #[.int .i64 0, .int .i64 4]) (by simp [results, Try.results59, go_sem]) rfl ⟨rfl, HB.out⟩
        | some l =>
          have hpp := within_some hrt hq hgo
          have hsum2 := (pushS_sum (cols := cols) (nx := nx) (show (pushS cols nx _ _).1 = 0 by rw [hpp])).1
          rw [hpp] at hsum2
          dsimp only at hsum2
          by_cases h16 : 16 < l.length
          · have hD := (tell_high (l := rest) (wo := maxL st) hpp h16).symm.trans HRES.out
            obtain ⟨rfl, rfl⟩ := Prod.mk.inj hD
            have ks := fun W hO hB => hstep_some w (.slice aS st.length cS) st l kd nn false W hgo (decide_eq_false (by omega)) hk6 hst hsum5 hO hB
            clear hD HRES hq hgo hpp hsum2
            go_wp2_with (first | (go_at_call 65; (with_reducible refine (kr true hrt).mono ?_); rintro e w2 ⟨rfl, hb⟩; replace HB := Lib.hid (bthen HB.out hb); replace HO := Lib.hid (own_keep HO.out hb); replace c0 := bkeep hb c0; replace c1 := bkeep hb c1; clear hb) | (go_at_call 66; (with_reducible refine (kw _).mono ?_); rintro e w2 ⟨rfl, hb⟩; replace HB := Lib.hid (bthen HB.out hb); replace HO := Lib.hid (own_keep HO.out hb); replace c0 := bkeep hb c0; replace c1 := bkeep hb c1; clear hb) | (go_at_call 67; (with_reducible refine (ks _ HO.out HB.out).mono ?_); rintro e w3 ⟨a3, c3, rfl, ho, hb⟩; clear HB HO c0 c1; have HB := Lib.hid hb; have HO := Lib.hid ho; clear hb ho))
            exact bodyPost_ret (v := .tuple #[.int .i64 0, .int .i64 4]) (by simp [results, Try.results59, go_sem]) rfl ⟨rfl, HB.out⟩
          · have HS := Lib.hid (((tell_go (l := rest) (wo := maxL st) hpp h16).symm.trans HRES.out))
            have HMX := Lib.hid (maxL_go hgo)
            have HSU := Lib.hid (show l.sum ≤ k + 1 by omega)
            have HLN := Lib.hid (show l.length ≤ 16 by omega)
            have ks := fun W hO hB => hstep_some w (.slice aS st.length cS) st l kd nn true W hgo (decide_eq_true (by omega)) hk6 hst hsum5 hO hB
            clear HRES hq hgo hpp hsum2 h16
            go_wp2_with (first | (go_at_call 65; (with_reducible refine (kr true hrt).mono ?_); rintro e w2 ⟨rfl, hb⟩; replace HB := Lib.hid (bthen HB.out hb); replace HO := Lib.hid (own_keep HO.out hb); replace c0 := bkeep hb c0; replace c1 := bkeep hb c1; clear hb) | (go_at_call 66; (with_reducible refine (kw _).mono ?_); rintro e w2 ⟨rfl, hb⟩; replace HB := Lib.hid (bthen HB.out hb); replace HO := Lib.hid (own_keep HO.out hb); replace c0 := bkeep hb c0; replace c1 := bkeep hb c1; clear hb) | (go_at_call 67; (with_reducible refine (ks _ HO.out HB.out).mono ?_); rintro e w3 ⟨a3, c3, rfl, ho, hb⟩; clear HB HO c0 c1; have HB := Lib.hid hb; have HO := Lib.hid ho; clear hb ho))
            go_roundw
            case rel => exact ⟨k + 1, l, by omega, by go_num, HB.out, HO.out, HLN.out, HSU.out, by rw [HREST.out, ← HMX.out]; exact HS.out⟩
            case measure => simp [intOf]; omega
    · obtain rfl : k = zs.length := by omega
      rw [List.drop_length, tellS_nil] at hres
      unfold endS at hres
      have HB := Lib.hid hB
      clear hB
      by_cases h1 : st.length ≠ 1
      · rw [if_pos h1] at hres
        obtain ⟨rfl, rfl⟩ := Prod.mk.inj hres
        obtain ⟨aS, cS, rfl⟩ := own_form hown
        have h1I : ¬ (st.length : Int) = 1 := by omega
        have h1J : ((st.length : Int) != 1) = true := by simp; omega
        clear hres hown
        go_wp2_with fail
        exact bodyPost_ret (v := .tuple #[.int .i64 0, .int .i64 4]) (by simp [results, Try.results59, go_sem]) rfl ⟨rfl, HB.out⟩
      · rw [if_neg h1] at hres
        obtain ⟨x, rfl⟩ : ∃ x, st = [x] := List.length_eq_one_iff.1 (by omega)
        obtain ⟨g', cap', rfl, hcp, hcm, hcell⟩ := stk_one (r := []) stN_len hown
        have htop := hcell 0 (by decide)
        simp only [List.length_nil, Nat.zero_mul, Nat.add_zero] at htop
        replace htop : wr.cell? ⟨g', 0, none⟩ = some (.int .i64 (x : Int)) := htop
        have hmx : maxL [x] = x := by rw [maxL_cons]; show max x 0 = x; omega
        rw [hmx] at hres
        clear hcell hown h1 hsum hmx
        by_cases h4 : 4 < x
        · rw [if_pos h4] at hres
          obtain ⟨rfl, rfl⟩ := Prod.mk.inj hres
          have h4I : (4 : Int) < (x : Int) := by omega
          clear hres
          go_wp2_with fail
          exact bodyPost_ret (v := .tuple #[.int .i64 0, .int .i64 5]) (by simp [results, Try.results59, go_sem]) rfl ⟨rfl, HB.out⟩
        · rw [if_neg h4] at hres
          obtain ⟨hx, rfl⟩ := Prod.mk.inj hres
          have hx : x = d := hx
          subst hx
          have h4I : ¬ (4 : Int) < (x : Int) := by omega
          clear hres
          go_wp2_with fail
          exact bodyPost_ret (v := .tuple #[.int .i64 (x : Int), .int .i64 0]) (by simp [results, Try.results59, go_sem]) rfl ⟨rfl, HB.out⟩
theorem ask16 : AskShape (fun _ => True) where
  keep := fun _ _ => trivial
  check := fun a len cap zs cols nx d e W hO hu hl hc hz _ => by
    obtain rfl := hO.1
    exact hcheck_is a cap zs cols nx d e W hO hu hz
end Go.Proofs.Ytckipfcjgmiacaa
