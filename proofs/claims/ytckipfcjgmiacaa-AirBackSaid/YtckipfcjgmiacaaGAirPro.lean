/-
  AirPro1: The program's Size, Rules, Degree and Parts of layer 18.
  AirPro2: The program's rules of layer 18, and what stands on it: Rules, Degree, Parts.
  AirPro3: The program's Check of layer 18.
  AirPro4: The program's Print of layer 18.
  AirPro5: What the program's reader of layer 18 reads: it reads on behind what isn't there; what comes of it in the end is the document's.
  AirPro6: The program's reader of layer 18: number, text, bound, several.
  AirPro7: The program's Parse of layer 18. (Written by gen_airpro7.py.)
  AirProg: What is asked of the program's calls of layer 18 is so.
-/
import Derived.Test.YtckipfcjgmiacaaAirRef
import Derived.Test.YtckipfcjgmiacaaKProg
import Derived.Test.YtckipfcjgmiacaaHProg
import Derived.Test.YtckipfcjgmiacaaConcat
import Derived.Test.YtckipfcjgmiacaaAirRefP
import Derived.Test.YtckipfcjgmiacaaAirRefC
import Derived.BigQuiet
import Derived.Test.YtckipfcjgmiacaaBuild
import Derived.Test.YtckipfcjgmiacaaAirUp
import Derived.Test.YtckipfcjgmiacaaGOctPro
import Derived.Test.YtckipfcjgmiacaaBeside
import Derived.Test.YtckipfcjgmiacaaAirRefA
import Derived.Test.YtckipfcjgmiacaaAirSome
namespace Go.Proofs.Ytckipfcjgmiacaa
open Go Go.RowKit
set_option linter.unusedVariables false

theorem pasize_any (c l : Int) (sa : Option Addr) (sn sc : Nat) (ra : Option Addr) (rn rc : Nat) (ba : Option Addr) (bn bc : Nat) (w : World) (hl : 0 ≤ l ∧ l ≤ 62) :
    Calls Try.prog 15 #[.agg #[.int .i64 c, .int .i64 l, .slice sa sn sc, .slice ra rn rc, .slice ba bn bc]] w fun e w' => e = .returned (.int .i64 ((2 ^ l.toNat : Nat) : Int)) ∧ Below w.heap.size w w' := by
  obtain ⟨K, rfl⟩ := Int.eq_ofNat_of_zero_le hl.1
  have e1 := wrapi_62 (k := K) (by omega)
  rw [Int.toNat_natCast]
  have hneg : ¬ (K : Int) < 0 := by omega
  have hb := (Below.refl w.heap.size w).alloc (Nat.le_refl _)
  generalize ((2 ^ K : Nat) : Int) = M at *
  go_enter Try.func15, Try.ntmps15
  go_wp2
  go_ret
  exact ⟨rfl, hb _⟩
theorem pasize_is (A : AirP) (p : AirAt) (w : World) (hn : A.near) : Calls Try.prog 15 #[A.val p] w fun e w' => e = .returned (.int .i64 A.size) ∧ Below w.heap.size w w' :=
  pasize_any _ _ _ _ _ _ _ _ _ _ _ w ⟨hn.1, by have := hn.2.1; omega⟩
set_option maxHeartbeats 4000000 in
theorem pacount_is (A : AirP) (p : AirAt) (r : Bool) (w : World) (hr : decide A.fits = r) : Calls Try.prog 45 #[A.val p] w fun e w' => e = .returned (.bool r) ∧ Below w.heap.size w w' := by
  have hb := (Below.refl w.heap.size w).alloc (Nat.le_refl _)
  have hno : ¬ A.fits → r = false := fun h => by rw [← hr]; exact decide_eq_false h
  have hyes : A.fits → r = true := fun h => by rw [← hr]; exact decide_eq_true h
  clear hr
  by_cases h1 : 1 ≤ A.cols
  case neg =>
    obtain rfl := hno (fun h => h1 h.1)
    clear hno hyes
    go_enter Try.func45, Try.ntmps45
    go_wp2
    go_ret
    exact ⟨rfl, hb _⟩
  by_cases h2 : A.cols ≤ 8
  case neg =>
    obtain rfl := hno (fun h => h2 h.2.1)
    clear hno hyes
    go_enter Try.func45, Try.ntmps45
    go_wp2
    go_ret
    exact ⟨rfl, hb _⟩
  by_cases h3 : (A.steps.length : Int) = 0
  · by_cases h4 : (A.rules.length : Int) ≤ 16
    · obtain rfl := hyes ⟨h1, h2, .inl (by omega), by omega⟩
      clear hno hyes
      go_enter Try.func45, Try.ntmps45
      go_wp2
      go_ret
      exact ⟨rfl, hb _⟩
    · obtain rfl := hno (fun h => h4 (by have := h.2.2.2; omega))
      clear hno hyes
      go_enter Try.func45, Try.ntmps45
      go_wp2
      go_ret
      exact ⟨rfl, hb _⟩
  · have h3b : ((A.steps.length : Int) == 0) = false := by simpa using h3
    by_cases h5 : (A.steps.length : Int) = A.cols
    · have h5b : ((A.steps.length : Int) == A.cols) = true := by simpa using h5
      by_cases h4 : (A.rules.length : Int) ≤ 16
      · obtain rfl := hyes ⟨h1, h2, .inr h5, by omega⟩
        clear hno hyes h5
        go_enter Try.func45, Try.ntmps45
        go_wp2
        go_ret
        exact ⟨rfl, hb _⟩
      · obtain rfl := hno (fun h => h4 (by have := h.2.2.2; omega))
        clear hno hyes h5
        go_enter Try.func45, Try.ntmps45
        go_wp2
        go_ret
        exact ⟨rfl, hb _⟩
    · have h5b : ((A.steps.length : Int) == A.cols) = false := by simpa using h5
      obtain rfl := hno (fun h => by rcases h.2.2.1 with q | q <;> omega)
      clear hno hyes
      go_enter Try.func45, Try.ntmps45
      go_wp2
      go_ret
      exact ⟨rfl, hb _⟩
/-! ### One rule -/
set_option maxHeartbeats 2000000 in
theorem parule_err (s : ByteArray) (cols : Int) (nx : Bool) (l : List Opn) (e : Int) (w : World) (hs : s.size ≤ 9223372036854775807) (hp : parseB s = (l, e)) (he : e ≠ 0) :
    Calls Try.prog 46 #[.string s, .int .i64 cols, .bool nx] w fun E w' => E = .returned (.tuple #[.slice none 0 0, .int .i64 0, .int .i64 e]) ∧ Below w.heap.size w w' := by
  have kp := fun W => kparse_own s l e W hs hp
  clear hp hs
  go_enter Try.func46, Try.ntmps46
  go_wp2_with (go_at_call 58; (with_reducible refine (kp _).mono ?_); rintro E w1 ⟨hb, v1, rfl, ho1⟩; obtain ⟨a1, c1, rfl⟩ := own_form ho1; clear ho1)
  exact bodyPost_ret (v := .tuple #[.slice none 0 0, .int .i64 0, .int .i64 e]) (by simp [results, Try.results46, go_sem]) rfl ⟨rfl, hb⟩
set_option maxHeartbeats 2000000 in
theorem parule_is (s : ByteArray) (cols : Int) (nx : Bool) (l : List Opn) (d : Nat) (e : Int) (w : World) (hs : s.size ≤ 9223372036854775807) (hp : parseB s = (l, 0)) (hc : checkB l cols nx = (d, e)) :
    Calls Try.prog 46 #[.string s, .int .i64 cols, .bool nx] w fun E w' => Below w.heap.size w w' ∧ ∃ v, E = .returned (.tuple #[v, .int .i64 d, .int .i64 e]) ∧ w'.ownsRow w.heap.size 51 2 v l.length (flatO l) := by
  have kp := fun W => kparse_own s l 0 W hs hp
  have hm := parse_okO hp
  have kc := fun a cap W h => hcheck_is a cap l cols nx d e W h hm.1 hc
  clear hp hs hc hm
  go_enter Try.func46, Try.ntmps46
  go_wp2_with (first
    | (go_at_call 58; (with_reducible refine (kp _).mono ?_); rintro E w1 ⟨hb, v1, rfl, ho1⟩; obtain ⟨a1, c1, rfl, hO1, hN1⟩ := own_oprow ho1; have HB1 := Lib.hid hb; have HR1 := Lib.hid ho1; have HO1 := Lib.hid hO1; clear hb ho1 hO1 hN1)
    | (go_at_call 59; (with_reducible refine (kc _ _ _ HO1.out).mono ?_); rintro E w2 ⟨rfl, hb⟩; have HB2 := Lib.hid (bthen HB1.out hb); have HR2 := Lib.hid (own_keep HR1.out hb); clear hb))
  exact bodyPost_ret (v := .tuple #[.slice a1 l.length c1, .int .i64 d, .int .i64 e]) (by simp [results, Try.results46, go_sem]) rfl ⟨HB2.out, _, rfl, HR2.out⟩
/-! ### The rule of a step -/
set_option maxHeartbeats 2000000 in
theorem pawhole_is (k : Nat) (a : Option Addr) (c : Nat) (m : List Opn) (w : World) (hk : k ≤ 1000) (hO : OpA w a m.length m) (hm : m.length ≤ 256) :
    Calls Try.prog 47 #[.int .i64 k, .slice a m.length c] w fun e w' => Below w.heap.size w w' ∧ ∃ v, e = .returned v ∧ w'.ownsRow w.heap.size 51 2 v (stepO k m).length (flatO (stepO k m)) := by
  have hwk : IntKind.u64.wrap (k : Int) = (k : Int) := by rw [IntKind.wrap_u64]; omega
  have kc : ∀ w1 w2 w3 : World, w1 = w.alloc (.cells #[.int .i64 2, .int .u64 (k : Int)] 51) → w2 = w1.alloc (.cells #[.int .i64 5, .int .u64 0] 51) → w3 = w2.alloc (.cells #[.slice (some ⟨w.heap.size, 0, none⟩) 1 1, .slice a m.length c, .slice (some ⟨w1.heap.size, 0, none⟩) 1 1] 34) →
      Calls Try.prog 60 #[.slice (some ⟨w2.heap.size, 0, none⟩) 3 3] w3 fun e w' => Below w.heap.size w w' ∧ ∃ v, e = .returned v ∧ w'.ownsRow w.heap.size 51 2 v (stepO k m).length (flatO (stepO k m)) := by
    intro w1 w2 w3 e1 e2 e3
    have b1 : Below w.heap.size w w1 := by rw [e1]; exact (Below.refl _ _).alloc (Nat.le_refl _) _
    have b2 : Below w1.heap.size w1 w2 := by rw [e2]; exact (Below.refl _ _).alloc (Nat.le_refl _) _
    have b3 : Below w2.heap.size w2 w3 := by rw [e3]; exact (Below.refl _ _).alloc (Nat.le_refl _) _
    have B := bthen b1 (bthen b2 b3)
    have s0 : SrcA w2 2 ⟨some ⟨w.heap.size, 0, none⟩, 1, 1, [.int .i64 2, .int .u64 (k : Int)]⟩ :=
      SrcA.keep ⟨rfl, (by intro h; cases h), (by rintro ad h; cases h; rw [e1]; exact two_src (by simp [go_sem]) (by simp [go_sem])), (by intro u hu; simp at hu; rcases hu with rfl | rfl <;> rfl)⟩ b2
    have s1 : SrcA w2 2 ⟨a, m.length, c, flatO m⟩ :=
      SrcA.keep ⟨flatO_len2 m, opA_nil0 hO, opA_cells hO, flatO_one m⟩ (bthen b1 b2)
    have s2 : SrcA w2 2 ⟨some ⟨w1.heap.size, 0, none⟩, 1, 1, [.int .i64 5, .int .u64 0]⟩ :=
      ⟨rfl, (by intro h; cases h), (by rintro ad h; cases h; rw [e2]; exact two_src (by simp [go_sem]) (by simp [go_sem])), (by intro u hu; simp at hu; rcases hu with rfl | rfl <;> rfl)⟩
    have hrow : SrcRow w3 2 w2.heap.size [⟨some ⟨w.heap.size, 0, none⟩, 1, 1, [.int .i64 2, .int .u64 (k : Int)]⟩, ⟨a, m.length, c, flatO m⟩, ⟨some ⟨w1.heap.size, 0, none⟩, 1, 1, [.int .i64 5, .int .u64 0]⟩] := by
      rw [e3]
      refine SrcRow.lit (fun j hj => ?_) rfl
      match j, hj with
      | 0, _ => exact s0
      | 1, _ => exact s1
      | 2, _ => exact s2
    refine (ctoconcat_is w2.heap.size 3 _ w3 hrow (by simp) (by simp [sumSrc]; omega)).mono ?_
    rintro e w' ⟨hb, v, he, ho⟩
    refine ⟨bthen B hb, v, he, ?_⟩
    have ho2 := own_mono' ho B.size
    have l1 : sumSrc [⟨some ⟨w.heap.size, 0, none⟩, 1, 1, [.int .i64 2, .int .u64 (k : Int)]⟩, ⟨a, m.length, c, flatO m⟩, ⟨some ⟨w1.heap.size, 0, none⟩, 1, 1, [.int .i64 5, .int .u64 0]⟩] = (stepO k m).length := by simp [sumSrc, stepO]; omega
    have l2 : catSrc [⟨some ⟨w.heap.size, 0, none⟩, 1, 1, [.int .i64 2, .int .u64 (k : Int)]⟩, ⟨a, m.length, c, flatO m⟩, ⟨some ⟨w1.heap.size, 0, none⟩, 1, 1, [.int .i64 5, .int .u64 0]⟩] = flatO (stepO k m) := by simp [catSrc, stepO, flatO]
    rw [l1, l2] at ho2
    exact ho2
  have kc2 := kc _ _ _ rfl rfl rfl
  rw [show (w.alloc (.cells #[.int .i64 2, .int .u64 (k : Int)] 51)).heap.size = w.heap.size + 1 by simp] at kc2
  rw [show ((w.alloc (.cells #[.int .i64 2, .int .u64 (k : Int)] 51)).alloc (.cells #[.int .i64 5, .int .u64 0] 51)).heap.size = w.heap.size + 1 + 1 by simp] at kc2
  clear kc hO
  go_enter Try.func47, Try.ntmps47
  go_wp2_with (go_at_call 60; (with_reducible refine kc2.mono ?_); rintro e w4 ⟨hb, v, rfl, ho⟩; obtain ⟨a4, c4, rfl⟩ := own_form ho; have HB := Lib.hid hb; have HO := Lib.hid ho; clear hb ho)
  go_ret
  exact ⟨HB.out, _, rfl, HO.out⟩
end Go.Proofs.Ytckipfcjgmiacaa
namespace Go.Proofs.Ytckipfcjgmiacaa
open Go Go.RowKit
set_option linter.unusedVariables false

theorem srcA_str {W : World} {a : Option Addr} {l : List ByteArray} (h : StrA W a l.length (tx l)) (c : Nat) : SrcA W 1 ⟨a, l.length, c, l.map Value.string⟩ := by
  refine ⟨by simp, fun e => ?_, fun ad e j u hu => ?_, fun u hu => ?_⟩
  · show l.length = 0
    rcases Nat.eq_zero_or_pos l.length with h0 | h0
    · exact h0
    · obtain ⟨b, off, e', _⟩ := h.2 0 h0
      rw [show a = none from e] at e'; cases e'
  · have hj : j < l.length := by
      have := (List.getElem?_eq_some_iff.1 hu).1
      simpa using this
    obtain ⟨b, off, e', hc⟩ := h.2 j hj
    have e2 : a = some ad := e
    rw [e2] at e'; cases e'
    rw [List.getElem?_map] at hu
    have : (l[j]?).getD noText = tx l j := rfl
    simp [hj] at hu
    rw [Addr.add_mid, hc, ← hu]
    simp [tx, List.getD, hj]
  · obtain ⟨t, _, rfl⟩ := List.mem_map.1 hu; rfl
theorem text_at {A : AirP} {k : Nat} (h : k < A.count) : (((A.steps ++ A.rules).map Value.string).getD k undef) = .string (A.text k) := by
  have hl : k < (A.steps ++ A.rules).length := by simpa [AirP.count] using h
  rw [List.getD, List.getElem?_map, List.getElem?_eq_getElem hl]
  simp only [Option.map_some, Option.getD_some]
  unfold AirP.text
  by_cases c : k < A.steps.length
  · rw [if_pos c, List.getElem_append_left c]; simp [List.getD, c]
  · have h2 : k - A.steps.length < A.rules.length := by unfold AirP.count at h; omega
    rw [if_neg c, List.getElem_append_right (by omega)]; simp [List.getD, h2]
theorem text_size {A : AirP} {k : Nat} (h : k < A.count) (hk : OkAir A) : (A.text k).size ≤ 9223372036854775807 := by
  by_cases c : k < A.steps.length
  · rw [AirP.text_step c]; exact hk.steps _ (tx_mem c)
  · rw [AirP.text_rule c]; exact hk.rules _ (tx_mem (by unfold AirP.count at h; omega))
theorem degMax_one : ∀ ls : List (List Opn), 1 ≤ degMax ls := by
  intro ls
  have : ∀ (ls : List (List Opn)) (n : Nat), n ≤ ls.foldl (fun n l => max n (degO l)) n := by
    intro ls
    induction ls with
    | nil => intro n; exact Nat.le_refl _
    | cons l ls ih => intro n; exact Nat.le_trans (Nat.le_max_left _ _) (ih _)
  exact this ls 1
theorem deg_form {A : AirP} {k : Nat} {m : List Opn} {nx : Bool} {d : Nat} (ks : List (List Opn)) (h : checkB m A.cols nx = (d, 0)) : ((degMax (ks ++ [A.form k m]) : Nat) : Int) = max ((degMax ks : Nat) : Int) (d : Int) := by
  have h1 := degMax_one ks
  rw [degMax_snoc]
  unfold AirP.form
  split
  · unfold degO; rw [step_deg k h]; show ((max (degMax ks) (max 1 d) : Nat) : Int) = _; omega
  · rw [checkB_degO h]; omega
def PaPost (w : World) (ls : List (List Opn)) (r : Int) (e : Ending) (w' : World) : Prop :=
  Below w.heap.size w w' ∧ ∃ (a : Option Addr) (cap : Nat) (d : Int), e = .returned (.tuple #[.slice a ls.length cap, .int .i64 d, .int .i64 r]) ∧ OpsA w' a ls.length ls ∧ (a = none → cap = 0) ∧ (r = 0 → d = (degMax ls : Nat))
def PaRel (w0 : World) (A : AirP) (o g i : Value) (W : World) : Prop :=
  ∃ (k : Nat) (ks : List (List Opn)), k ≤ A.count ∧ ks.length = k ∧ i = .int .i64 k ∧ RulesUp w0 W o ks ∧ A.upto k = (ks, 0) ∧ g = .int .i64 (degMax ks : Nat)
set_option maxHeartbeats 4000000 in
theorem parules_no (A : AirP) (p : AirAt) (ls : List (List Opn)) (r : Int) (w : World) (hfit : ¬ A.fits) (hr : A.all = (ls, r)) : Calls Try.prog 30 #[A.val p] w (PaPost w ls r) := by
  have hno : A.all = ([], 1) := by unfold AirP.all; rw [if_neg hfit]
  obtain ⟨rfl, rfl⟩ := Prod.mk.inj (hno.symm.trans hr)
  have kn := fun W => pacount_is A p false W (decide_eq_false hfit)
  have hb0 := fun o => (Below.refl w.heap.size w).alloc (Nat.le_refl _) o
  have HB0 := Lib.hid hb0
  clear hno hr hfit hb0
  go_enter Try.func30, Try.ntmps30
  go_wp2_with (go_at_call 45; (with_reducible refine (kn _).mono ?_); rintro E w1 ⟨rfl, hb⟩; have HB1 := Lib.hid (bthen (HB0.out _) hb); clear hb)
  exact bodyPost_ret (v := .tuple #[.slice none 0 0, .int .i64 0, .int .i64 1]) (by simp [results, Try.results30, go_sem]) rfl ⟨HB1.out, none, 0, 0, rfl, opsA_nil _, fun _ => rfl, fun h => absurd h (by decide)⟩
theorem infoOpSS : (Try.prog.info? 34).map (fun i => (i.zero, i.size, i.bytes)) = some (some (.slice none 0 0), 1, 24) := by kernel_rfl
set_option maxRecDepth 100000 in
set_option maxHeartbeats 8000000 in
theorem parules_is (A : AirP) (p : AirAt) (ls : List (List Opn)) (r : Int) (w : World) (hA : AirA w A p) (hk : OkAir A) (hf : FewAir A) (hr : A.all = (ls, r)) : Calls Try.prog 30 #[A.val p] w (PaPost w ls r) := by
  by_cases hfit : A.fits
  case neg => exact parules_no A p ls r w hfit hr
  obtain ⟨i1, ki, kz0, kz1, kz2⟩ := info_parts infoOpSS
  have kn := fun W => pacount_is A p true W (decide_eq_true hfit)
  have HFIT := Lib.hid hfit; have HR := Lib.hid hr; have HA := Lib.hid hA; have HK := Lib.hid hk
  have hcnt : A.count ≤ 80 := by have := hf.1; have := hf.2.1; unfold AirP.count; omega
  clear hfit hr hA hk hf
  go_enter Try.func30, Try.ntmps30
  go_upto_region 1 with fail
  refine wp_gen (fun W => Below w.heap.size w W ∧ AirC W w.heap.size A p) ⟨(Below.refl _ _).alloc (Nat.le_refl _) _, AirC.new _ _ _ _⟩ ?_
  obtain ⟨g, hg⟩ : ∃ g, w.heap.size = g := ⟨_, rfl⟩
  rintro w0 ⟨hB0, hC0⟩
  rw [hg] at hC0
  simp only [hg]
  have HB0 := Lib.hid hB0; have HC0 := Lib.hid hC0
  clear hB0 hg
  obtain ⟨x0, x1, x2, x3, x4⟩ := hC0
  go_upto_region 5 with (go_at_call 45; (with_reducible refine (kn _).mono ?_); rintro E w1 ⟨rfl, hb⟩)
  have HB1 := Lib.hid (bthen HB0.out hb); have HC1 := Lib.hid (HC0.out.keep hb)
  have HA1 := Lib.hid (HA.out.keep HB1.out)
  clear hb x0 x1 x2 x3 x4 HC0 HB0 HA kn
  obtain ⟨x0, x1, x2, x3, x4⟩ := HC1.out
  have kc : Calls Try.prog 35 #[.slice (some ⟨w1.heap.size, 0, none⟩) 2 2] (w1.alloc (.cells #[.slice p.sa A.steps.length p.sc, .slice p.ra A.rules.length p.rc] 22)) fun e w' => Below w1.heap.size w1 w' ∧ ∃ v, e = .returned v ∧ w'.ownsRow w1.heap.size 9 1 v A.count ((A.steps ++ A.rules).map Value.string) := by
    have s0 := srcA_str HA1.out.1 p.sc
    have s1 := srcA_str HA1.out.2.1 p.rc
    have hrow : SrcRow (w1.alloc (.cells #[.slice p.sa A.steps.length p.sc, .slice p.ra A.rules.length p.rc] 22)) 1 w1.heap.size [⟨p.sa, A.steps.length, p.sc, A.steps.map Value.string⟩, ⟨p.ra, A.rules.length, p.rc, A.rules.map Value.string⟩] := by
      refine SrcRow.lit (fun j hj => ?_) rfl
      match j, hj with
      | 0, _ => exact s0
      | 1, _ => exact s1
    refine (ctsconcat_is w1.heap.size 2 _ _ hrow (by simp) (by simp [sumSrc]; unfold AirP.count at hcnt; omega)).mono ?_
    rintro e w' ⟨hb, v, he, ho⟩
    have hal : Below w1.heap.size w1 (w1.alloc (.cells #[.slice p.sa A.steps.length p.sc, .slice p.ra A.rules.length p.rc] 22)) := (Below.refl _ _).alloc (Nat.le_refl _) _
    refine ⟨bthen hal hb, v, he, ?_⟩
    have ho2 := own_mono' ho hal.size
    have l1 : sumSrc [⟨p.sa, A.steps.length, p.sc, A.steps.map Value.string⟩, ⟨p.ra, A.rules.length, p.rc, A.rules.map Value.string⟩] = A.count := by simp [sumSrc, AirP.count]
    have l2 : catSrc [⟨p.sa, A.steps.length, p.sc, A.steps.map Value.string⟩, ⟨p.ra, A.rules.length, p.rc, A.rules.map Value.string⟩] = (A.steps ++ A.rules).map Value.string := by simp [catSrc]
    rw [l1, l2] at ho2
    exact ho2
  go_upto_region 6 with (go_at_call 35; (with_reducible refine kc.mono ?_); rintro E w2 ⟨hb, vT, rfl, hoT⟩; obtain ⟨aT, cT, rfl⟩ := own_form hoT)
  have HB2 := Lib.hid (bthen HB1.out hb); have HC2 := Lib.hid (HC1.out.keep hb); have HOT := Lib.hid hoT
  clear hb hoT x0 x1 x2 x3 x4 HC1 HA1 HB1 kc
  go_loopw [5, 6, 23] (PaRel w2 A) (fun _ _ i _ => A.count - (intOf i).toNat)
  case atStart => exact ⟨0, [], Nat.zero_le _, rfl, rfl, RulesUp.start (Below.refl _ _), rfl, rfl⟩
  case round =>
    obtain ⟨k, ks, hk2, hlen, rfl, hU, hup, rfl⟩ := hrel
    have HU := Lib.hid hU; have HUP := Lib.hid hup; have HLN := Lib.hid hlen
    obtain ⟨x0, x1, x2, x3, x4⟩ := HC2.out.keep hU.below
    have HO2 := Lib.hid (own_keep HOT.out hU.below)
    obtain ⟨u5, c5, hu5⟩ : ∃ a c, _ = Value.slice a ks.length c := by obtain ⟨a, c, h, _⟩ := HU.out.told; exact ⟨a, c, h⟩
    subst hu5
    clear hU hup hlen
    by_cases hlt : k < A.count
    · have hltI : (k : Int) < (A.count : Int) := by omega
      have hk0 : (0 : Int) ≤ (k : Int) := by omega
      obtain ⟨gT, cT2, hT, _, _, _, hARR⟩ := own_arr HO2.out (by omega)
      cases hT
      have cs := (hARR k (by omega)).1
      dsimp only at cs
      rw [text_at hlt] at cs
      have hTS := text_size hlt HK.out
      have HTX : Hid (A.upto (k + 1) = if (ruleB (A.text k) A.cols (decide (¬ k < A.steps.length))).2 ≠ 0 then ([], (ruleB (A.text k) A.cols (decide (¬ k < A.steps.length))).2) else (ks ++ [A.form k (ruleB (A.text k) A.cols (decide (¬ k < A.steps.length))).1], 0)) := Lib.hid (by
        rw [AirP.upto, HUP.out, if_neg (by simp)]; rfl)
      have HFK := Lib.hid (fun l => (rfl : A.form k l = A.form k l))
      generalize A.text k = T at *
      clear hARR HO2 HOT
      obtain ⟨m, e, hp⟩ : ∃ m e, parseB T = (m, e) := ⟨_, _, rfl⟩
      have HP := Lib.hid hp
      obtain ⟨nx, hnx⟩ : ∃ nx, decide (¬ k < A.steps.length) = nx := ⟨_, rfl⟩
      rw [hnx] at HTX
      by_cases he : e = 0
      case neg =>
        have kr := fun W => parule_err T A.cols nx m e W hTS hp he
        have hD := (AirP.all_stop HFIT.out (show A.upto (k + 1) = ([], e) by rw [HTX.out, ruleB_parse HP.out he, if_pos he]) he (show k + 1 ≤ A.count by omega)).symm.trans HR.out
        obtain ⟨rfl, rfl⟩ := Prod.mk.inj hD
        clear hD HR HUP HTX hp HP HFK hTS
        by_cases hst : k < A.steps.length
        · have hstI : (k : Int) < (A.steps.length : Int) := by omega
          obtain rfl : nx = false := by rw [← hnx]; exact decide_eq_false (by simpa using hst)
          clear hnx
          go_wp2_with (go_at_call 46; (with_reducible refine (kr _).mono ?_); rintro E w3 ⟨rfl, hb⟩; have HBE := Lib.hid (bthen HB2.out (bthen HU.out.below hb)); clear hb)
          exact bodyPost_ret (v := .tuple #[.slice none 0 0, .int .i64 0, .int .i64 e]) (by simp [results, Try.results30, go_sem]) rfl ⟨HBE.out, none, 0, 0, rfl, opsA_nil _, fun _ => rfl, fun h => absurd h he⟩
        · have hstI : ¬ (k : Int) < (A.steps.length : Int) := by omega
          obtain rfl : nx = true := by rw [← hnx]; exact decide_eq_true hst
          clear hnx
          go_wp2_with (go_at_call 46; (with_reducible refine (kr _).mono ?_); rintro E w3 ⟨rfl, hb⟩; have HBE := Lib.hid (bthen HB2.out (bthen HU.out.below hb)); clear hb)
          exact bodyPost_ret (v := .tuple #[.slice none 0 0, .int .i64 0, .int .i64 e]) (by simp [results, Try.results30, go_sem]) rfl ⟨HBE.out, none, 0, 0, rfl, opsA_nil _, fun _ => rfl, fun h => absurd h he⟩
      subst he
      obtain ⟨d, e2, hz⟩ : ∃ d e2, checkB m A.cols nx = (d, e2) := ⟨_, _, rfl⟩
      have HZ := Lib.hid hz
      have kr := fun W => parule_is T A.cols nx m d e2 W hTS hp hz
      have hm := (parse_okO hp).2
      clear hp hz hTS
      by_cases he2 : e2 = 0
      case neg =>
        have hD := (AirP.all_stop HFIT.out (show A.upto (k + 1) = ([], e2) by rw [HTX.out, ruleB_check HP.out HZ.out he2, if_pos he2]) he2 (show k + 1 ≤ A.count by omega)).symm.trans HR.out
        obtain ⟨rfl, rfl⟩ := Prod.mk.inj hD
        clear hD HR HUP HTX HP HFK HZ
        by_cases hst : k < A.steps.length
        · have hstI : (k : Int) < (A.steps.length : Int) := by omega
          obtain rfl : nx = false := by rw [← hnx]; exact decide_eq_false (by simpa using hst)
          clear hnx
          go_wp2_with (go_at_call 46; (with_reducible refine (kr _).mono ?_); rintro E w3 ⟨hb, v3, rfl, ho⟩; obtain ⟨a3, c3, rfl⟩ := own_form ho; have HBE := Lib.hid (bthen HB2.out (bthen HU.out.below hb)); clear hb ho)
          exact bodyPost_ret (v := .tuple #[.slice none 0 0, .int .i64 0, .int .i64 e2]) (by simp [results, Try.results30, go_sem]) rfl ⟨HBE.out, none, 0, 0, rfl, opsA_nil _, fun _ => rfl, fun h => absurd h he2⟩
        · have hstI : ¬ (k : Int) < (A.steps.length : Int) := by omega
          obtain rfl : nx = true := by rw [← hnx]; exact decide_eq_true hst
          clear hnx
          go_wp2_with (go_at_call 46; (with_reducible refine (kr _).mono ?_); rintro E w3 ⟨hb, v3, rfl, ho⟩; obtain ⟨a3, c3, rfl⟩ := own_form ho; have HBE := Lib.hid (bthen HB2.out (bthen HU.out.below hb)); clear hb ho)
          exact bodyPost_ret (v := .tuple #[.slice none 0 0, .int .i64 0, .int .i64 e2]) (by simp [results, Try.results30, go_sem]) rfl ⟨HBE.out, none, 0, 0, rfl, opsA_nil _, fun _ => rfl, fun h => absurd h he2⟩
      subst he2
      have HS : Hid (A.upto (k + 1) = (ks ++ [A.form k m], 0)) := Lib.hid (by rw [HTX.out, ruleB_ok HP.out HZ.out, if_neg (by simp)])
      have HDG := Lib.hid (deg_form (k := k) ks HZ.out)
      clear HTX HP HZ HFK HUP
      have hfl : (A.form k m).length ≤ 300 := by
        unfold AirP.form
        split
        · unfold stepO; simp; omega
        · omega
      have HST : Hid (∀ W7, RulesUp w2 W7 (.slice u5 ks.length c5) ks → ∀ aL cL, W7.ownsRow w2.heap.size 51 2 (.slice aL (A.form k m).length cL) (A.form k m).length (flatO (A.form k m)) → Below w2.heap.size w2 W7 → True) := Lib.hid fun _ _ _ _ _ _ => trivial
      clear HST
      by_cases hst : k < A.steps.length
      · have hstI : (k : Int) < (A.steps.length : Int) := by omega
        obtain rfl : nx = false := by rw [← hnx]; exact decide_eq_false (by simpa using hst)
        have hform : A.form k m = stepO k m := if_pos hst
        rw [hform] at HS HDG hfl
        clear hnx hform
        go_upto_region 14 with (first
          | (go_at_call 46; (with_reducible refine (kr _).mono ?_); rintro E w3 ⟨hb, v3, rfl, ho⟩; obtain ⟨a3, c3, rfl⟩ := own_form ho; have HU3 := Lib.hid (HU.out.keep hb); obtain ⟨a3', c3', hv3, hO3, _⟩ := own_oprow ho; cases hv3; have kw := pawhole_is k a3 c3 m w3 (by omega) hO3 hm; have HO3 := Lib.hid hO3; clear hb ho hO3)
          | (go_at_call 47; (with_reducible refine kw.mono ?_); rintro E w4 ⟨hb, v4, rfl, ho⟩; obtain ⟨aL, cL, rfl⟩ := own_form ho; have HU4 := Lib.hid (HU3.out.keep hb); have HR4 := Lib.hid (own_mono' ho HU3.out.below.size); clear hb ho))
        refine wp_gen (fun W => RulesUp w2 W (.slice u5 ks.length c5) ks ∧ W.ownsRow w2.heap.size 51 2 (.slice aL (stepO k m).length cL) (stepO k m).length (flatO (stepO k m))) ⟨HU4.out, HR4.out⟩ ?_
        clear HU4 HR4 HU3 HO3 kw kr HU x0 x1 x2 x3 x4
        generalize stepO k m = L at *
        rintro W6 ⟨hu, hl⟩
        obtain ⟨rs, hm1, hm2⟩ := hu
        have hlen : ks.length ≤ 80 := by have := HLN.out; omega
        have hown := hm1.1
        rw [valsV_len] at hown
        have HM1 := Lib.hid hm1; have HM2 := Lib.hid hm2; have HL := Lib.hid hl; have HOWN := Lib.hid hown
        have hsz0 := hm1.2.size
        clear hm1 hm2 hl
        go_upto_region 15 with (at_builtin; refine wpList_append_own _ rfl _ _ 30 rfl w2.heap.size 34 i1 (.slice none 0 0) 1 24 Try.underlying30 ki kz0 kz1 kz2 rfl (by decide) _ _ _ rfl (hown.alloc _) ⟨W6.heap.size, 0, none⟩ 1 1 [.slice aL L.length cL] rfl rfl (one_src (by simp [go_sem])) (by intro u hu; simp at hu; subst hu; rfl) (by unfold maxLen; omega) (by omega) (by simp; omega) ?_)
        intro v7 w7 q1 q2 _
        have hal : Below W6.heap.size W6 (W6.alloc (.cells #[.slice aL L.length cL] 34)) := (Below.refl _ _).alloc (Nat.le_refl _) _
        have HUP2 := Lib.hid (RulesUp.more (HM1.out.keep hal) (fun j hj => own_keep (HM2.out j hj) hal) (own_keep HL.out hal) q2 (MadeG.grow (HM1.out.keep hal) (by rw [valsV_len]; exact q1) q2))
        clear q1 q2 hal hown HM1 HM2 HL HOWN
        go_wp2
        go_roundw
        case rel => exact ⟨k + 1, ks ++ [L], by omega, by rw [List.length_append, HLN.out]; rfl, by go_num, HUP2.out, HS.out, by rw [HDG.out]⟩
        case measure => simp [intOf]; omega
      · have hstI : ¬ (k : Int) < (A.steps.length : Int) := by omega
        obtain rfl : nx = true := by rw [← hnx]; exact decide_eq_true hst
        have hform : A.form k m = m := if_neg hst
        rw [hform] at HS HDG hfl
        clear hnx hform
        go_upto_region 14 with (go_at_call 46; (with_reducible refine (kr _).mono ?_); rintro E w3 ⟨hb, v3, rfl, ho⟩; obtain ⟨aL, cL, rfl⟩ := own_form ho; have HU4 := Lib.hid (HU.out.keep hb); have HR4 := Lib.hid (own_mono' ho HU.out.below.size); clear hb ho)
        refine wp_gen (fun W => RulesUp w2 W (.slice u5 ks.length c5) ks ∧ W.ownsRow w2.heap.size 51 2 (.slice aL m.length cL) m.length (flatO m)) ⟨HU4.out, HR4.out⟩ ?_
        clear HU4 HR4 kr HU x0 x1 x2 x3 x4
        generalize m = L at *
        rintro W6 ⟨hu, hl⟩
        obtain ⟨rs, hm1, hm2⟩ := hu
        have hlen : ks.length ≤ 80 := by have := HLN.out; omega
        have hown := hm1.1
        rw [valsV_len] at hown
        have HM1 := Lib.hid hm1; have HM2 := Lib.hid hm2; have HL := Lib.hid hl; have HOWN := Lib.hid hown
        have hsz0 := hm1.2.size
        clear hm1 hm2 hl
        go_upto_region 15 with (at_builtin; refine wpList_append_own _ rfl _ _ 30 rfl w2.heap.size 34 i1 (.slice none 0 0) 1 24 Try.underlying30 ki kz0 kz1 kz2 rfl (by decide) _ _ _ rfl (hown.alloc _) ⟨W6.heap.size, 0, none⟩ 1 1 [.slice aL L.length cL] rfl rfl (one_src (by simp [go_sem])) (by intro u hu; simp at hu; subst hu; rfl) (by unfold maxLen; omega) (by omega) (by simp; omega) ?_)
        intro v7 w7 q1 q2 _
        have hal : Below W6.heap.size W6 (W6.alloc (.cells #[.slice aL L.length cL] 34)) := (Below.refl _ _).alloc (Nat.le_refl _) _
        have HUP2 := Lib.hid (RulesUp.more (HM1.out.keep hal) (fun j hj => own_keep (HM2.out j hj) hal) (own_keep HL.out hal) q2 (MadeG.grow (HM1.out.keep hal) (by rw [valsV_len]; exact q1) q2))
        clear q1 q2 hal hown HM1 HM2 HL HOWN
        go_wp2
        go_roundw
        case rel => exact ⟨k + 1, ks ++ [L], by omega, by rw [List.length_append, HLN.out]; rfl, by go_num, HUP2.out, HS.out, by rw [HDG.out]⟩
        case measure => simp [intOf]; omega
    · obtain rfl : k = A.count := by omega
      have hD := (AirP.all_ok2 HFIT.out).symm.trans HR.out
      rw [HUP.out] at hD
      obtain ⟨rfl, rfl⟩ := Prod.mk.inj hD
      obtain ⟨a4, c4, hv4, hT4, hN4⟩ := HU.out.told
      cases hv4
      have HBE := Lib.hid (bthen HB2.out HU.out.below)
      have HT4 := Lib.hid hT4; have HN4 := Lib.hid hN4
      clear hD HR HUP HU hT4 hN4
      go_wp2_with fail
      exact bodyPost_ret (v := .tuple #[.slice u5 ks.length c5, .int .i64 (degMax ks : Nat), .int .i64 0]) (by simp [results, Try.results30, go_sem]) rfl ⟨HBE.out, u5, c5, _, rfl, HT4.out, HN4.out, fun _ => rfl⟩
theorem parules_pub (A : AirP) (p : AirAt) (ls : List (List Opn)) (r : Int) (w : World) (hA : AirA w A p) (hk : OkAir A) (hf : FewAir A) (hr : A.all = (ls, r)) : Calls Try.prog 11 #[A.val p] w (RulesPost w ls r) := by
  have kr := fun W (h : AirA W A p) => parules_is A p ls r W h hk hf hr
  unfold PaPost at kr
  have HA := Lib.hid (fun W' => hA.keep (W' := W'))
  have hb0 := fun o => (Below.refl w.heap.size w).alloc (Nat.le_refl _) o
  have HB0 := Lib.hid hb0
  clear hr hf hk hA hb0
  go_enter Try.func11, Try.ntmps11
  go_wp2_with (go_at_call 30; (with_reducible refine (kr _ (HA.out _ (HB0.out _))).mono ?_); rintro E w1 ⟨hb, a, cap, d, rfl, ho, hn, _⟩; have HB1 := Lib.hid (bthen (HB0.out _) hb); have HO := Lib.hid ho; have HN := Lib.hid hn; clear hb ho hn)
  exact bodyPost_ret (v := .tuple #[.slice a ls.length cap, .int .i64 r]) (by simp [results, Try.results11, go_sem]) rfl ⟨HB1.out, a, cap, rfl, HO.out, HN.out⟩
theorem check_all {A : AirP} (h : A.check = 0) : ∃ ls, A.all = (ls, 0) ∧ A.degree = degMax ls := by
  obtain ⟨_, _, h1, h2, _⟩ := A.check_ok h
  rw [← h1] at h2
  exact ⟨A.all.1, Prod.ext rfl h2, rfl⟩
theorem padegree_is (A : AirP) (p : AirAt) (w : World) (hA : AirA w A p) (hk : OkAir A) (hf : FewAir A) (hc : A.check = 0) : Calls Try.prog 17 #[A.val p] w fun e w' => e = .returned (.int .i64 (A.degree : Int)) ∧ Below w.heap.size w w' := by
  obtain ⟨ls, hr, hd⟩ := check_all hc
  have kr := fun W (h : AirA W A p) => parules_is A p ls 0 W h hk hf hr
  unfold PaPost at kr
  have HA := Lib.hid (fun W' => hA.keep (W' := W'))
  have HD := Lib.hid hd
  have hb0 := fun o => (Below.refl w.heap.size w).alloc (Nat.le_refl _) o
  have HB0 := Lib.hid hb0
  clear hr hf hk hA hb0 hc hd
  generalize A.degree = D at *
  go_enter Try.func17, Try.ntmps17
  go_wp2_with (go_at_call 30; (with_reducible refine (kr _ (HA.out _ (HB0.out _))).mono ?_); rintro E w1 ⟨hb, a, cap, d, rfl, ho, hn, hdd⟩; have HB1 := Lib.hid (bthen (HB0.out _) hb); have HX := Lib.hid (show d = (D : Int) by rw [hdd rfl, HD.out]); clear hb ho hn hdd)
  go_ret
  exact ⟨by rw [HX.out]; rfl, HB1.out⟩
theorem paparts_is (A : AirP) (p : AirAt) (w : World) (hA : AirA w A p) (hk : OkAir A) (hf : FewAir A) (hc : A.check = 0) : Calls Try.prog 19 #[A.val p] w fun e w' => e = .returned (.int .i64 (A.parts : Int)) ∧ Below w.heap.size w w' := by
  obtain ⟨h1, h4⟩ := AirP.degree_bd (show A.all.2 = 0 by obtain ⟨ls, hr, _⟩ := check_all hc; rw [hr])
  have kd := fun W (h : AirA W A p) => padegree_is A p W h hk hf hc
  have HA := Lib.hid (fun W' => hA.keep (W' := W'))
  have hb0 := fun o => (Below.refl w.heap.size w).alloc (Nat.le_refl _) o
  have HB0 := Lib.hid hb0
  have HP := Lib.hid (show ((A.parts : Nat) : Int) = max 1 ((A.degree : Int) - 1) by unfold AirP.parts; omega)
  clear hf hk hA hb0 hc
  generalize A.degree = D at *
  generalize A.parts = Q at *
  have hw : wrap64 ((D : Int) - 1) = (D : Int) - 1 := by rw [IntWalk.wrap64_in _ (by omega)]
  go_enter Try.func19, Try.ntmps19
  go_wp2_with (go_at_call 17; (with_reducible refine (kd _ (HA.out _ (HB0.out _))).mono ?_); rintro E w1 ⟨rfl, hb⟩; have HB1 := Lib.hid (bthen (HB0.out _) hb); clear hb)
  go_ret
  exact ⟨by rw [HP.out]; rfl, HB1.out⟩
end Go.Proofs.Ytckipfcjgmiacaa
namespace Go.Proofs.Ytckipfcjgmiacaa
open Go Go.RowKit
set_option linter.unusedVariables false

def PaIdx (w1 : World) (zs : List (Int × Int)) (c r : Int) (i : Value) (W : World) : Prop := ∃ j : Nat, j ≤ zs.length ∧ i = .int .i64 j ∧ Below w1.heap.size w1 W ∧ ∀ i, i < j → zs.getD i (0, 0) ≠ (c, r)
set_option maxHeartbeats 4000000 in
theorem paindex_is (a : Option Addr) (cap : Nat) (zs : List (Int × Int)) (c r : Int) (f : Bool) (w : World) (hB : BoundA w a zs.length zs) (hyes : ∀ j, j < zs.length → zs.getD j (0, 0) = (c, r) → f = true) (hno : (∀ j, j < zs.length → zs.getD j (0, 0) ≠ (c, r)) → f = false) :
    Calls Try.prog 57 #[.slice a zs.length cap, .agg #[.int .i64 c, .int .i64 r]] w fun e w' => ∃ z : Int, e = .returned (.int .i64 z) ∧ decide (0 ≤ z) = f ∧ Below w.heap.size w w' := by
  have HBA := Lib.hid hB; have HY := Lib.hid hyes; have HN := Lib.hid hno
  have hm := hB.2.1
  unfold maxLen at hm
  clear hB hyes hno
  go_enter Try.func57, Try.ntmps57
  go_upto_region 1 with fail
  refine wp_gen (fun W => Below w.heap.size w W ∧ W.cell? ⟨w.heap.size, 0, none⟩ = some (.int .i64 c) ∧ W.cell? ⟨w.heap.size, 1, none⟩ = some (.int .i64 r)) ⟨(Below.refl _ _).alloc (Nat.le_refl _) _, by simp [go_sem], by simp [go_sem]⟩ ?_
  obtain ⟨gb, hgb⟩ : ∃ g, w.heap.size = g := ⟨_, rfl⟩
  rintro w3 ⟨hb3, d0, d1⟩
  rw [hgb] at d0 d1
  simp only [hgb]
  have HB3 := Lib.hid hb3
  have HBA3 := Lib.hid (HBA.out.keep hb3)
  have HD0 := Lib.hid (And.intro d0 d1)
  clear hb3 d0 d1 HBA hgb
  go_upto_region 2 with fail
  go_loopw [8] (PaIdx w3 zs c r) (fun i _ => zs.length - (intOf i).toNat)
  case atStart => exact ⟨0, Nat.zero_le _, rfl, Below.refl _ _, fun j hj => by omega⟩
  case round =>
    obtain ⟨j, hj, rfl, hB, hne⟩ := hrel
    have HNE := Lib.hid hne; have HBI := Lib.hid hB
    clear hne
    by_cases hlt2 : j < zs.length
    · have hlt2I : (j : Int) < (zs.length : Int) := by omega
      have hj0 : (0 : Int) ≤ (j : Int) := by omega
      have d0 := bkeep hB HD0.out.1; have d1 := bkeep hB HD0.out.2
      obtain ⟨b', off', rfl, cj0, cj1⟩ := (HBA3.out.keep hB).at (k := j) (by omega)
      obtain ⟨cj, hcj⟩ : ∃ c, zs.getD j (0, 0) = c := ⟨_, rfl⟩
      have HCJ := Lib.hid hcj
      rw [hcj] at cj0 cj1
      obtain ⟨x, y⟩ := cj
      dsimp only at cj0 cj1
      clear hB hcj
      by_cases ex : x = c
      · by_cases ey : y = r
        · subst ex ey
          obtain rfl := HY.out j hlt2 HCJ.out
          have HBE := Lib.hid (bthen HB3.out HBI.out)
          clear HY HN HNE HBA3
          go_upto_region 4 with fail
          go_quiet (fail)
          go_wp2_with fail
          go_ret
          exact ⟨(j : Int), rfl, decide_eq_true hj0, by first | exact HBE.out | exact HBE.out.drew | exact below_drewN HBE.out _⟩
        · subst ex
          have HNE2 := Lib.hid (show ∀ i, i < j + 1 → zs.getD i (0, 0) ≠ (x, r) from fun i hi => by
            by_cases e : i = j
            · subst e; rw [HCJ.out]; exact fun h => ey (Prod.mk.inj h).2
            · exact HNE.out i (by omega))
          clear HNE
          go_upto_region 4 with fail
          go_quiet (fail)
          go_wp2_with fail
          go_roundw
          case rel => exact ⟨j + 1, by omega, by go_num, below_drewN HBI.out _, HNE2.out⟩
          case measure => simp [intOf]; omega
      · have HNE2 := Lib.hid (show ∀ i, i < j + 1 → zs.getD i (0, 0) ≠ (c, r) from fun i hi => by
          by_cases e : i = j
          · subst e; rw [HCJ.out]; exact fun h => ex (Prod.mk.inj h).1
          · exact HNE.out i (by omega))
        clear HNE
        go_upto_region 4 with fail
        go_quiet (fail)
        go_wp2_with fail
        go_roundw
        case rel => exact ⟨j + 1, by omega, by go_num, below_drewN HBI.out _, HNE2.out⟩
        case measure => simp [intOf]; omega
    · obtain rfl : j = zs.length := by omega
      obtain rfl := HN.out HNE.out
      have HBE := Lib.hid (bthen HB3.out HBI.out)
      clear HY HN HNE HBA3 hB
      go_wp2_with fail
      go_ret
      exact ⟨-1, rfl, by decide, HBE.out⟩
theorem pahas_is (a : Option Addr) (cap : Nat) (zs : List (Int × Int)) (c r : Int) (f : Bool) (w : World) (hB : BoundA w a zs.length zs) (hyes : ∀ j, j < zs.length → zs.getD j (0, 0) = (c, r) → f = true) (hno : (∀ j, j < zs.length → zs.getD j (0, 0) ≠ (c, r)) → f = false) :
    Calls Try.prog 44 #[.slice a zs.length cap, .agg #[.int .i64 c, .int .i64 r]] w fun e w' => e = .returned (.bool f) ∧ Below w.heap.size w w' := by
  have ki := fun W (h : BoundA W a zs.length zs) => paindex_is a cap zs c r f W h hyes hno
  have HBA := Lib.hid (hB.keep (w' := w.alloc (.cells #[.int .i64 c, .int .i64 r] 48)) ((Below.refl _ _).alloc (Nat.le_refl _) _))
  have HB0 := Lib.hid ((Below.refl w.heap.size w).alloc (Nat.le_refl _) (.cells #[.int .i64 c, .int .i64 r] 48))
  clear hB hyes hno
  go_enter Try.func44, Try.ntmps44
  go_wp2_with (go_at_call 57; (with_reducible refine (ki _ HBA.out).mono ?_); rintro E w1 ⟨z, rfl, hz, hb⟩; have HB1 := Lib.hid (bthen HB0.out hb); have HZ := Lib.hid hz; clear hb hz)
  go_ret
  exact ⟨by rw [← HZ.out]; rfl, HB1.out⟩
/-! ### Are all bounds of rows and columns that there are? -/
def PaPlace (w1 : World) (A : AirP) (i : Value) (W : World) : Prop := ∃ k : Nat, k ≤ A.bounds.length ∧ i = .int .i64 k ∧ Below w1.heap.size w1 W ∧ ∀ j, j < k → A.okAt j
theorem AirP.has_take {A : AirP} {k : Nat} (hk : k < A.bounds.length) {c r : Int} (h : A.bound k = (c, r)) {f : Bool} (hf : decide (∀ i, i < k → A.bound i ≠ A.bound k) = !f) :
    (∀ j, j < (A.bounds.take k).length → (A.bounds.take k).getD j (0, 0) = (c, r) → f = true) ∧ ((∀ j, j < (A.bounds.take k).length → (A.bounds.take k).getD j (0, 0) ≠ (c, r)) → f = false) := by
  have e : ∀ j, j < k → (A.bounds.take k).getD j (0, 0) = A.bound j := fun j hj => by
    unfold AirP.bound
    simp only [List.getD]
    rw [List.getElem?_take_of_lt hj]
  have hl : (A.bounds.take k).length = k := by rw [List.length_take]; omega
  rw [hl]
  refine ⟨fun j hj q => ?_, fun q => ?_⟩
  · rw [e j hj, ← h] at q
    cases f with
    | true => rfl
    | false => exact absurd q (of_decide_eq_true hf j hj)
  · have : decide (∀ i, i < k → A.bound i ≠ A.bound k) = true := decide_eq_true fun i hi => by have := q i hi; rw [e i hi] at this; rw [h]; exact this
    rw [this] at hf
    cases f with
    | true => cases hf
    | false => rfl
theorem BoundA.cut {W : World} {a : Option Addr} {zs : List (Int × Int)} (h : BoundA W a zs.length zs) (k : Nat) (hk : k ≤ zs.length) : BoundA W a (zs.take k).length (zs.take k) := by
  have hl : (zs.take k).length = k := by rw [List.length_take]; omega
  refine ⟨rfl, by rw [hl]; have := h.2.1; omega, fun j hj => ?_⟩
  rw [hl] at hj
  obtain ⟨b, off, e, c0, c1⟩ := h.at (k := j) (by omega)
  refine ⟨b, off, e, ?_, ?_⟩
  · rw [c0]; simp only [List.getD]; rw [List.getElem?_take_of_lt hj]
  · rw [c1]; simp only [List.getD]; rw [List.getElem?_take_of_lt hj]
set_option maxRecDepth 100000 in
set_option maxHeartbeats 8000000 in
theorem paplaced_is (A : AirP) (p : AirAt) (f : Bool) (w : World) (hA : AirA w A p) (hn : A.near) (hf : decide A.places = f) : Calls Try.prog 29 #[A.val p] w fun e w' => e = .returned (.bool f) ∧ Below w.heap.size w w' := by
  have HY : Hid (A.places → f = true) := Lib.hid fun h => hf ▸ decide_eq_true h
  have HNO : Hid (¬ A.places → f = false) := Lib.hid fun h => hf ▸ decide_eq_false h
  have hb16 : A.bounds.length ≤ 16 := hn.2.2
  have hcap : A.bounds.length ≤ p.bc := hA.2.2.2
  have ks := fun W => pasize_is A p W hn
  have HA := Lib.hid hA
  clear hA hf hn
  go_enter Try.func29, Try.ntmps29
  go_upto_region 1 with fail
  refine wp_gen (fun W => Below w.heap.size w W ∧ AirC W w.heap.size A p) ⟨(Below.refl _ _).alloc (Nat.le_refl _) _, AirC.new _ _ _ _⟩ ?_
  obtain ⟨g, hg⟩ : ∃ g, w.heap.size = g := ⟨_, rfl⟩
  rintro w1 ⟨hB0, hC0⟩
  rw [hg] at hC0
  simp only [hg]
  have HA1 := Lib.hid (HA.out.keep hB0)
  have HB1 := Lib.hid hB0
  have HC1 := Lib.hid hC0
  clear hB0 hg HA
  obtain ⟨x0, x1, x2, x3, x4⟩ := hC0
  go_upto_region 2 with fail
  clear x0 x1 x2 x3 x4
  go_loopw [8] (PaPlace w1 A) (fun i _ => A.bounds.length - (intOf i).toNat)
  case atStart => exact ⟨0, Nat.zero_le _, rfl, Below.refl _ _, fun j hj => by omega⟩
  case round =>
    obtain ⟨k, hk2, rfl, hB, hpl⟩ := hrel
    have HB := Lib.hid hB; have HPL := Lib.hid hpl
    have HX := Lib.hid (HC1.out.keep hB)
    have HBA := Lib.hid (HA1.out.keep hB).2.2.1
    clear hB hpl
    by_cases hlt : k < A.bounds.length
    · have hltI : (k : Int) < (A.bounds.length : Int) := by omega
      have hk0 : (0 : Int) ≤ (k : Int) := by omega
      obtain ⟨b, off, hpa, c0, c1⟩ := HBA.out.at hlt
      have hbk : A.bounds.getD k (0, 0) = A.bound k := rfl
      rw [hbk] at c0 c1
      have HPA := Lib.hid hpa
      clear hbk
      have HOA : Hid (∀ c r, A.bound k = (c, r) → (¬ (0 ≤ c ∧ c < A.cols ∧ 0 ≤ r ∧ r < A.size) → ¬ A.okAt k)) := Lib.hid fun c r h q hq => q (by have := hq.1; rw [h] at this; exact this)
      have HOB : Hid (∀ c r, A.bound k = (c, r) → (0 ≤ c ∧ c < A.cols ∧ 0 ≤ r ∧ r < A.size) → (∀ i, i < k → A.bound i ≠ A.bound k) → A.okAt k) := Lib.hid fun c r h q hq => ⟨by rw [h]; exact q, hq⟩
      obtain ⟨c, hcc⟩ : ∃ c, (A.bound k).1 = c := ⟨_, rfl⟩
      obtain ⟨rr, hrr⟩ : ∃ r, (A.bound k).2 = r := ⟨_, rfl⟩
      have HCR := Lib.hid (show A.bound k = (c, rr) by rw [← hcc, ← hrr])
      rw [hcc] at c0; rw [hrr] at c1
      clear hcc hrr
      replace HOA := Lib.hid (HOA.out _ _ HCR.out)
      replace HOB := Lib.hid (HOB.out _ _ HCR.out)
      obtain ⟨pba, hpba⟩ : ∃ x, p.ba = x := ⟨_, rfl⟩
      have hpx : p.ba = some ⟨b, off, none⟩ := hpa
      rw [hpa] at hpba
      subst hpba
      clear hpa
      have c0' := c0; have c1' := c1
      go_upto_region 4 with fail
      refine wp_gen (fun W => Below wr.heap.size wr W ∧ W.cell? ⟨wr.heap.size, 0, none⟩ = some (.int .i64 c) ∧ W.cell? ⟨wr.heap.size, 1, none⟩ = some (.int .i64 rr)) ⟨(Below.refl _ _).alloc (Nat.le_refl _) _, by simp [go_sem], by simp [go_sem]⟩ ?_
      obtain ⟨gb, hgb⟩ : ∃ g, wr.heap.size = g := ⟨_, rfl⟩
      rintro w2 ⟨hb2, d0, d1⟩
      rw [hgb] at d0 d1
      simp only [hgb]
      have HB2 := Lib.hid (bthen HB.out hb2)
      have HX2 := Lib.hid (HX.out.keep hb2)
      have HBA2 := Lib.hid (HBA.out.keep hb2)
      clear hb2 hgb c0 c1 c0' c1' HBA HB HX
      obtain ⟨x0, x1, x2, x3, x4⟩ := HX2.out
      obtain ⟨f2, hf2⟩ : ∃ f2, decide (∀ i, i < k → A.bound i ≠ A.bound k) = !f2 := ⟨!decide (∀ i, i < k → A.bound i ≠ A.bound k), by simp⟩
      obtain ⟨hh1, hh2⟩ := AirP.has_take hlt HCR.out hf2
      have hkl : (A.bounds.take k).length = k := by rw [List.length_take]; omega
      have kh : ∀ W, Below w2.heap.size w2 W → Calls Try.prog 44 #[.slice (some ⟨b, off, none⟩) k p.bc, .agg #[.int .i64 c, .int .i64 rr]] W fun e w' => e = .returned (.bool f2) ∧ Below W.heap.size W w' := fun W h => by
        have q := pahas_is (some ⟨b, off, none⟩) p.bc (A.bounds.take k) c rr f2 W ((BoundA.cut (hpx ▸ HBA2.out) k hk2).keep h) hh1 hh2
        rw [hkl] at q
        exact q
      have HF2 := Lib.hid hf2
      rw [hpx] at x4
      have hkc : (k : Int) ≤ (p.bc : Int) := by omega
      obtain ⟨S, hS⟩ : ∃ S, A.size = S := ⟨_, rfl⟩
      rw [hS] at HOA HOB
      simp only [hS, AirP.val, hpx] at ks
      clear hh1 hh2 hkl hf2 hpx HPA hS
      by_cases q1 : c < 0
      · obtain rfl := HNO.out (fun hp => HOA.out (by omega) (hp k hlt))
        clear HY HNO HPL HX2 HOA HOB kh
        replace x0 := fun q : Regrown => cell_regrown x0 q.d q.os
        replace x1 := fun q : Regrown => cell_regrown x1 q.d q.os
        replace x2 := fun q : Regrown => cell_regrown x2 q.d q.os
        replace x3 := fun q : Regrown => cell_regrown x3 q.d q.os
        replace x4 := fun q : Regrown => cell_regrown x4 q.d q.os
        replace d0 := fun q : Regrown => cell_regrown d0 q.d q.os
        replace d1 := fun q : Regrown => cell_regrown d1 q.d q.os
        refine wp_region_quiet_below (by kernel_rfl) (by kernel_rfl) ?_
        repeat (first | go_big_quiet_step ((first
          | (go_at_call 15; with_reducible exact Calls.regrown_of (ks _))
          | (go_at_call 44; with_reducible exact Calls.regrown_of (kh _ (below_regrown w2 _ _))))) | quiet_step (fail))
        refine wpQuiet_nil ?_
        rintro _ ⟨pq, rfl⟩
        have hbq := below_regrown w2 pq.d pq.os
        have HBE := Lib.hid (bthen HB1.out (bthen HB2.out hbq))
        clear x0 x1 x2 x3 x4 d0 d1
        go_wp2_with fail
        go_ret
        exact ⟨rfl, HBE.out⟩
      by_cases q2 : A.cols ≤ c
      · obtain rfl := HNO.out (fun hp => HOA.out (by omega) (hp k hlt))
        clear HY HNO HPL HX2 HOA HOB kh
        replace x0 := fun q : Regrown => cell_regrown x0 q.d q.os
        replace x1 := fun q : Regrown => cell_regrown x1 q.d q.os
        replace x2 := fun q : Regrown => cell_regrown x2 q.d q.os
        replace x3 := fun q : Regrown => cell_regrown x3 q.d q.os
        replace x4 := fun q : Regrown => cell_regrown x4 q.d q.os
        replace d0 := fun q : Regrown => cell_regrown d0 q.d q.os
        replace d1 := fun q : Regrown => cell_regrown d1 q.d q.os
        refine wp_region_quiet_below (by kernel_rfl) (by kernel_rfl) ?_
        repeat (first | go_big_quiet_step ((first
          | (go_at_call 15; with_reducible exact Calls.regrown_of (ks _))
          | (go_at_call 44; with_reducible exact Calls.regrown_of (kh _ (below_regrown w2 _ _))))) | quiet_step (fail))
        refine wpQuiet_nil ?_
        rintro _ ⟨pq, rfl⟩
        have hbq := below_regrown w2 pq.d pq.os
        have HBE := Lib.hid (bthen HB1.out (bthen HB2.out hbq))
        clear x0 x1 x2 x3 x4 d0 d1
        go_wp2_with fail
        go_ret
        exact ⟨rfl, HBE.out⟩
      by_cases q3 : rr < 0
      · obtain rfl := HNO.out (fun hp => HOA.out (by omega) (hp k hlt))
        clear HY HNO HPL HX2 HOA HOB kh
        replace x0 := fun q : Regrown => cell_regrown x0 q.d q.os
        replace x1 := fun q : Regrown => cell_regrown x1 q.d q.os
        replace x2 := fun q : Regrown => cell_regrown x2 q.d q.os
        replace x3 := fun q : Regrown => cell_regrown x3 q.d q.os
        replace x4 := fun q : Regrown => cell_regrown x4 q.d q.os
        replace d0 := fun q : Regrown => cell_regrown d0 q.d q.os
        replace d1 := fun q : Regrown => cell_regrown d1 q.d q.os
        refine wp_region_quiet_below (by kernel_rfl) (by kernel_rfl) ?_
        repeat (first | go_big_quiet_step ((first
          | (go_at_call 15; with_reducible exact Calls.regrown_of (ks _))
          | (go_at_call 44; with_reducible exact Calls.regrown_of (kh _ (below_regrown w2 _ _))))) | quiet_step (fail))
        refine wpQuiet_nil ?_
        rintro _ ⟨pq, rfl⟩
        have hbq := below_regrown w2 pq.d pq.os
        have HBE := Lib.hid (bthen HB1.out (bthen HB2.out hbq))
        clear x0 x1 x2 x3 x4 d0 d1
        go_wp2_with fail
        go_ret
        exact ⟨rfl, HBE.out⟩
      by_cases q4 : S ≤ rr
      · obtain rfl := HNO.out (fun hp => HOA.out (by omega) (hp k hlt))
        clear HY HNO HPL HX2 HOA HOB kh
        replace x0 := fun q : Regrown => cell_regrown x0 q.d q.os
        replace x1 := fun q : Regrown => cell_regrown x1 q.d q.os
        replace x2 := fun q : Regrown => cell_regrown x2 q.d q.os
        replace x3 := fun q : Regrown => cell_regrown x3 q.d q.os
        replace x4 := fun q : Regrown => cell_regrown x4 q.d q.os
        replace d0 := fun q : Regrown => cell_regrown d0 q.d q.os
        replace d1 := fun q : Regrown => cell_regrown d1 q.d q.os
        refine wp_region_quiet_below (by kernel_rfl) (by kernel_rfl) ?_
        repeat (first | go_big_quiet_step ((first
          | (go_at_call 15; with_reducible exact Calls.regrown_of (ks _))
          | (go_at_call 44; with_reducible exact Calls.regrown_of (kh _ (below_regrown w2 _ _))))) | quiet_step (fail))
        refine wpQuiet_nil ?_
        rintro _ ⟨pq, rfl⟩
        have hbq := below_regrown w2 pq.d pq.os
        have HBE := Lib.hid (bthen HB1.out (bthen HB2.out hbq))
        clear x0 x1 x2 x3 x4 d0 d1
        go_wp2_with fail
        go_ret
        exact ⟨rfl, HBE.out⟩
      replace HOB := Lib.hid (HOB.out ⟨by omega, by omega, by omega, by omega⟩)
      clear HOA
      cases f2 with
      | true =>
        obtain rfl := HNO.out (fun hp => by have := (hp k hlt).2; have h2 := HF2.out; rw [decide_eq_true this] at h2; cases h2)
        clear HY HNO HPL HX2 HOB
        replace x0 := fun q : Regrown => cell_regrown x0 q.d q.os
        replace x1 := fun q : Regrown => cell_regrown x1 q.d q.os
        replace x2 := fun q : Regrown => cell_regrown x2 q.d q.os
        replace x3 := fun q : Regrown => cell_regrown x3 q.d q.os
        replace x4 := fun q : Regrown => cell_regrown x4 q.d q.os
        replace d0 := fun q : Regrown => cell_regrown d0 q.d q.os
        replace d1 := fun q : Regrown => cell_regrown d1 q.d q.os
        refine wp_region_quiet_below (by kernel_rfl) (by kernel_rfl) ?_
        repeat (first | go_big_quiet_step ((first
          | (go_at_call 15; with_reducible exact Calls.regrown_of (ks _))
          | (go_at_call 44; with_reducible exact Calls.regrown_of (kh _ (below_regrown w2 _ _))))) | quiet_step (fail))
        refine wpQuiet_nil ?_
        rintro _ ⟨pq, rfl⟩
        have hbq := below_regrown w2 pq.d pq.os
        have HBE := Lib.hid (bthen HB1.out (bthen HB2.out hbq))
        clear x0 x1 x2 x3 x4 d0 d1
        go_wp2_with fail
        go_ret
        exact ⟨rfl, HBE.out⟩
      | false =>
        have HPL2 := Lib.hid (show ∀ i, i < k + 1 → A.okAt i from fun i hi => by
          by_cases e : i = k
          · subst e; exact HOB.out (of_decide_eq_true HF2.out)
          · exact HPL.out i (by omega))
        clear HPL HOB HX2
        replace x0 := fun q : Regrown => cell_regrown x0 q.d q.os
        replace x1 := fun q : Regrown => cell_regrown x1 q.d q.os
        replace x2 := fun q : Regrown => cell_regrown x2 q.d q.os
        replace x3 := fun q : Regrown => cell_regrown x3 q.d q.os
        replace x4 := fun q : Regrown => cell_regrown x4 q.d q.os
        replace d0 := fun q : Regrown => cell_regrown d0 q.d q.os
        replace d1 := fun q : Regrown => cell_regrown d1 q.d q.os
        refine wp_region_quiet_below (by kernel_rfl) (by kernel_rfl) ?_
        repeat (first | go_big_quiet_step ((first
          | (go_at_call 15; with_reducible exact Calls.regrown_of (ks _))
          | (go_at_call 44; with_reducible exact Calls.regrown_of (kh _ (below_regrown w2 _ _))))) | quiet_step (fail))
        refine wpQuiet_nil ?_
        rintro _ ⟨pq, rfl⟩
        have hbq := below_regrown w2 pq.d pq.os
        have HBN := Lib.hid (bthen HB2.out hbq)
        clear x0 x1 x2 x3 x4 d0 d1 hbq
        go_wp2_with fail
        go_roundw
        case rel => exact ⟨k + 1, by omega, by go_num, HBN.out, HPL2.out⟩
        case measure => simp [intOf]; omega
    · obtain rfl : k = A.bounds.length := by omega
      obtain rfl := HY.out (fun j hj => HPL.out j hj)
      have HBE := Lib.hid (bthen HB1.out HB.out)
      clear HY HNO HPL HX
      go_wp2_with fail
      go_ret
      exact ⟨rfl, HBE.out⟩
/-! ### Check -/
theorem pacheck_far (A : AirP) (p : AirAt) (w : World) (hf : FewAir A) (hn : ¬ A.near) : Calls Try.prog 10 #[A.val p] w fun e w' => e = .returned (.int .i64 1) ∧ Below w.heap.size w w' := by
  have hb0 := fun o => (Below.refl w.heap.size w).alloc (Nat.le_refl _) o
  by_cases h1 : A.log < 0
  · clear hn hf
    go_enter Try.func10, Try.ntmps10
    go_wp2
    go_ret
    exact ⟨rfl, hb0 _⟩
  by_cases h2 : 10 < A.log
  · clear hn hf
    go_enter Try.func10, Try.ntmps10
    go_wp2
    go_ret
    exact ⟨rfl, hb0 _⟩
  have h3 : (16 : Int) < (A.bounds.length : Int) := by
    refine Int.not_le.1 fun h => hn ⟨by omega, by omega, by omega⟩
  clear hn hf
  go_enter Try.func10, Try.ntmps10
  go_wp2
  go_ret
  exact ⟨rfl, hb0 _⟩
set_option maxHeartbeats 4000000 in
theorem pacheck_is (A : AirP) (p : AirAt) (r : Int) (w : World) (hA : AirA w A p) (hk : OkAir A) (hf : FewAir A) (hr : A.check = r) : Calls Try.prog 10 #[A.val p] w fun e w' => e = .returned (.int .i64 r) ∧ Below w.heap.size w w' := by
  by_cases hnear : A.near
  case neg =>
    rw [AirP.check_far hnear] at hr
    subst hr
    exact pacheck_far A p w hf hnear
  have HN := Lib.hid hnear; have HR := Lib.hid hr
  obtain ⟨g1, g2, g3⟩ := hnear
  have hg1 : ¬ A.log < 0 := by omega
  have hg2 : ¬ 10 < A.log := by omega
  have hg3 : ¬ (16 : Int) < (A.bounds.length : Int) := by omega
  obtain ⟨ls, e, hall⟩ : ∃ ls e, A.all = (ls, e) := ⟨_, _, rfl⟩
  have HALL := Lib.hid hall
  have kr := fun W (h : AirA W A p) => parules_pub A p ls e W h hk hf hall
  unfold RulesPost at kr
  obtain ⟨f, hpl⟩ : ∃ f, decide A.places = f := ⟨_, rfl⟩
  have kp := fun W (h : AirA W A p) => paplaced_is A p f W h HN.out hpl
  have HPL := Lib.hid hpl
  have HA := Lib.hid hA
  clear hr hA hall hk hf hpl
  go_enter Try.func10, Try.ntmps10
  go_upto_region 1 with fail
  refine wp_gen (fun W => Below w.heap.size w W ∧ AirC W w.heap.size A p) ⟨(Below.refl _ _).alloc (Nat.le_refl _) _, AirC.new _ _ _ _⟩ ?_
  obtain ⟨g, hg⟩ : ∃ g, w.heap.size = g := ⟨_, rfl⟩
  rintro w0 ⟨hB0, hC0⟩
  rw [hg] at hC0
  simp only [hg]
  have HA0 := Lib.hid (HA.out.keep hB0)
  have HB0 := Lib.hid hB0
  have HC0 := Lib.hid hC0
  clear hB0 hg HA
  obtain ⟨x0, x1, x2, x3, x4⟩ := hC0
  go_upto_region 4 with (go_at_call 11; (with_reducible refine (kr _ HA0.out).mono ?_); rintro E w1 ⟨hb, al, cl, rfl, _, _⟩)
  have HB1 := Lib.hid (bthen HB0.out hb)
  have HC1 := Lib.hid (HC0.out.keep hb); have HA1 := Lib.hid (HA0.out.keep hb)
  clear hb x0 x1 x2 x3 x4 kr HC0 HA0 HB0
  obtain ⟨x0, x1, x2, x3, x4⟩ := HC1.out
  by_cases he : e = 0
  · subst he
    have HOK := Lib.hid (show A.all.2 = 0 by rw [HALL.out])
    cases f with
    | true =>
      have hD := (AirP.check_is HN.out HOK.out (of_decide_eq_true HPL.out)).symm.trans HR.out
      subst hD
      clear HR HALL HPL
      go_wp2_with (go_at_call 29; (with_reducible refine (kp _ HA1.out).mono ?_); rintro E w2 ⟨rfl, hb⟩; have HB2 := Lib.hid (bthen HB1.out hb); clear hb)
      go_ret
      exact ⟨rfl, HB2.out⟩
    | false =>
      have hD := (AirP.check_places HN.out HOK.out (of_decide_eq_false HPL.out)).symm.trans HR.out
      subst hD
      clear HR HALL HPL
      go_wp2_with (go_at_call 29; (with_reducible refine (kp _ HA1.out).mono ?_); rintro E w2 ⟨rfl, hb⟩; have HB2 := Lib.hid (bthen HB1.out hb); clear hb)
      go_ret
      exact ⟨rfl, HB2.out⟩
  · have hD := (AirP.check_rules HN.out (show A.all.2 = e by rw [HALL.out]) he).symm.trans HR.out
    subst hD
    clear HR HALL
    go_wp2_with fail
    go_ret
    exact ⟨rfl, HB1.out⟩
end Go.Proofs.Ytckipfcjgmiacaa
namespace Go.Proofs.Ytckipfcjgmiacaa
open Go Go.RowKit
set_option linter.unusedVariables false

variable {α : Type}
theorem BldW.heap {B b g : Nat} {w w' : World} {cs : Array Value} {t : TypeId} {fz : Nat × Nat} (h : BldW B b w w') (ht : t ≠ 5) (hg : g ≠ b) (hc : w.heap[g]? = some (.cells cs t fz)) : w'.heap[g]? = some (.cells cs t fz) :=
  h.2 g _ hc (by intro e; exact hg (Option.some.inj e)) (by intro c f e; simp only [Obj.cells.injEq] at e; exact ht e.2.1)
theorem BldW.own {B b B' s n : Nat} {w w' : World} {t : TypeId} {v : Value} {xs : List Value} (h : BldW B b w w') (ht : t ≠ 5) (hT : t ≠ 66) {z : ByteArray} (hb : Bld B b z w) (ho : w.ownsRow B' t s v n xs) : w'.ownsRow B' t s v n xs := by
  refine ⟨ho.1, ?_⟩
  rcases ho.2 with h0 | ⟨g, cap, cur, rfl, h1, h2, h3⟩
  · exact .inl h0
  · refine .inr ⟨g, cap, cur, rfl, h1, h.heap ht ?_ h2, h3⟩
    rintro rfl
    obtain ⟨p, v, _, hh, _⟩ := hb.some
    rw [h2] at hh
    simp only [Option.some.injEq, Obj.cells.injEq] at hh
    exact hT hh.2.1
theorem BldW.below {b : Nat} {w0 w w' : World} (h : BldW b b w w') (hb : Below b w0 w) : Below b w0 w' := hb.trans h.1
theorem rowB_take {l : List Int} {k : Nat} (h : k < l.length) : rowB (l.take (k + 1)) = rowB (l.take k) ++ eightB (l.getD k 0) := by
  rw [take_snoc l 0 k h, ← rowB_append, rowB_one]
theorem nil_app (s : ByteArray) : (⟨#[]⟩ : ByteArray) ++ s = s := by
  rw [show (⟨#[]⟩ : ByteArray) = ByteArray.empty from rfl, ByteArray.empty_append]
theorem rowB_zero (s : ByteArray) (zs : List Int) : s ++ rowB (zs.take 0) = s := by
  rw [show rowB (zs.take 0) = ByteArray.empty by simp [rowB, cat]; rfl, ByteArray.append_empty]
def PaPut (B b : Nat) (s : ByteArray) (zs : List Int) (w : World) (i : Value) (W : World) : Prop := ∃ k : Nat, k ≤ zs.length ∧ i = .int .i64 k ∧ Bld B b (s ++ rowB (zs.take k)) W ∧ BldW B b w W
set_option maxHeartbeats 4000000 in
theorem paput_is (B b g cap : Nat) (zs : List Int) (s : ByteArray) (w : World) (hB : Bld B b s w) (hr : w.heap[g]? = some (.cells (zs.map (Value.int .i64)).toArray 3 (0, 0))) (hgb : g ≠ b) (hz : ∀ z ∈ zs, 0 ≤ z ∧ z ≤ 1000000000) (hl : zs.length ≤ 1000) (hs : s.size ≤ 1000000000) :
    Calls Try.prog 34 #[.pointer (some ⟨b, 0, none⟩), .slice (some ⟨g, 0, none⟩) zs.length cap] w fun e w' => e = .returned (.tuple #[]) ∧ Bld B b (s ++ rowB zs) w' ∧ BldW B b w w' := by
  have HR : Hid (∀ W, BldW B b w W → ∀ k, k < zs.length → W.cell? ⟨g, k, none⟩ = some (.int .i64 (zs.getD k 0))) := Lib.hid fun W h k hk => by
    rw [Lib.cell_of_heap (h.heap (by decide) hgb hr)]
    simp [List.getD, hk]
  have HZ : Hid (∀ k, k < zs.length → 0 ≤ zs.getD k 0 ∧ zs.getD k 0 ≤ 1000000000) := Lib.hid fun k hk => hz _ (by simp [List.getD, hk])
  have HB := Lib.hid hB
  clear hB hr hgb hz
  go_enter Try.func34, Try.ntmps34
  go_upto_region 1 with fail
  go_loopw [8] (PaPut B b s zs w) (fun i _ => zs.length - (intOf i).toNat)
  case atStart => exact ⟨0, Nat.zero_le _, rfl, by rw [rowB_zero]; exact HB.out, BldW.refl _ _ _⟩
  case round =>
    clear HB
    obtain ⟨k, hk, rfl, hB, hW⟩ := hrel
    have HB := Lib.hid hB; have HW := Lib.hid hW
    clear hB hW
    by_cases hlt : k < zs.length
    · have hltI : (k : Int) < (zs.length : Int) := by omega
      have hk0 : (0 : Int) ≤ (k : Int) := by omega
      have c := HR.out wr HW.out k hlt
      obtain ⟨z0, z1⟩ := HZ.out k hlt
      have HT := Lib.hid (rowB_take hlt)
      generalize zs.getD k 0 = z at *
      have hu : IntKind.u64.wrap z = z := by rw [IntKind.wrap_u64]; omega
      have k8 := fun W => oeight_is z (by unfold U; omega) W
      have hsz : (s ++ rowB (zs.take k)).size ≤ 2000000000 := by rw [ByteArray.size_append, rowB_size, List.length_take]; omega
      obtain ⟨S, hS⟩ : ∃ S, s ++ rowB (zs.take k) = S := ⟨_, rfl⟩
      have HE : Hid (s ++ rowB (zs.take (k + 1)) = S ++ eightB z) := Lib.hid (by rw [HT.out, ← ByteArray.append_assoc, hS])
      rw [hS] at HB hsz
      have h8 : (eightB z).size = 8 := eightB_size z
      obtain ⟨E, hE⟩ : ∃ E, eightB z = E := ⟨_, rfl⟩
      rw [hE] at HE h8
      simp only [hE] at k8
      have kw := fun W (h : Bld B b S W) => bwrite_is B b S E W h (by omega)
      clear HT hS hE hsz
      go_wp2_with (first
        | (go_at_call 53; (with_reducible refine (k8 _).mono ?_); rintro e w1 ⟨rfl, hb⟩; have HB1 := Lib.hid (HB.out.keep hb); have HW1 : Hid (BldW B b w w1) := Lib.hid (HW.out.trans ⟨hb.mono (by have := HB.out.le; have := HB.out.lt; omega), fun i o hi _ _ => (hb.block i (Array.getElem?_eq_some_iff.1 hi).1).trans hi⟩); clear hb)
        | (go_at_call 36; (with_reducible refine (kw _ HB1.out).mono ?_); rintro e w2 ⟨rfl, hb, hw⟩; have HB2 := Lib.hid hb; have HW2 := Lib.hid (HW1.out.trans hw); clear hb hw))
      go_roundw
      case rel => exact ⟨k + 1, by omega, by go_num, by rw [HE.out]; exact HB2.out, HW2.out⟩
      case measure => simp [intOf]; omega
    · obtain rfl : k = zs.length := by omega
      have HB2 : Hid (Bld B b (s ++ rowB zs) wr) := Lib.hid (by have := HB.out; rwa [List.take_length] at this)
      clear HB
      go_wp2_with fail
      go_end0
      exact ⟨rfl, HB2.out, HW.out⟩
theorem addB_app (f : α → ByteArray) (s : ByteArray) (l m : List α) : addB f (addB f s l) m = addB f s (l ++ m) := by unfold addB; rw [List.foldl_append]
theorem pos_addB (f : α → ByteArray) (s : ByteArray) (l : List α) (h : 0 < s.size) : 0 < (addB f s l).size := by
  unfold addB
  induction l generalizing s with
  | nil => exact h
  | cons x l ih => exact ih _ (by rw [ByteArray.size_append]; omega)
theorem AirC.low {W W' : World} {B g : Nat} {A : AirP} {p : AirAt} (h : AirC W g A p) (hb : Below B W W') (hg : g < B) : AirC W' g A p :=
  ⟨(hb.cell (p := ⟨g, 0, none⟩) hg).trans h.1, (hb.cell (p := ⟨g, 1, none⟩) hg).trans h.2.1, (hb.cell (p := ⟨g, 2, none⟩) hg).trans h.2.2.1, (hb.cell (p := ⟨g, 3, none⟩) hg).trans h.2.2.2.1, (hb.cell (p := ⟨g, 4, none⟩) hg).trans h.2.2.2.2⟩
def PaTxt (b B' : Nat) (S0 : ByteArray) (ts : List ByteArray) (w0 : World) (v i : Value) (W : World) : Prop := ∃ k : Nat, k ≤ ts.length ∧ i = .int .i64 k ∧ Below b w0 W ∧ Bld b b (addB textB S0 (ts.take k)) W ∧ W.ownsRow B' 9 1 v ts.length (ts.map Value.string)
def PaBnd (b : Nat) (S2 : ByteArray) (bs : List (Int × Int)) (w0 : World) (i : Value) (W : World) : Prop := ∃ k : Nat, k ≤ bs.length ∧ i = .int .i64 k ∧ Below b w0 W ∧ Bld b b (addB placeB S2 (bs.take k)) W
theorem lit_heap (W : World) (cs : Array Value) (t : TypeId) : (W.alloc (.cells cs t)).heap[W.heap.size]? = some (.cells cs t (0, 0)) := by have := heap_alloc_new W (.cells cs t); exact this
theorem map_str_at {ts : List ByteArray} {k : Nat} (h : k < ts.length) : (ts.map Value.string).getD k undef = .string (ts.getD k noText) := by simp [List.getD, h]
theorem paput_lit (b n : Nat) (zs : List Int) (s : ByteArray) (W : World) (cs : Array Value) (hcs : (zs.map (Value.int .i64)).toArray = cs) (hn : zs.length = n) (hB : Bld b b s W) (hz : ∀ z ∈ zs, 0 ≤ z ∧ z ≤ 1000000000) (hl : n ≤ 1000) (hs : s.size ≤ 1000000000) :
    Calls Try.prog 34 #[.pointer (some ⟨b, 0, none⟩), .slice (some ⟨W.heap.size, 0, none⟩) n n] (W.alloc (.cells cs 3)) fun e w' => e = .returned (.tuple #[]) ∧ Bld b b (s ++ rowB zs) w' ∧ BldW b b W w' := by
  subst hcs hn
  have hal : Below W.heap.size W (W.alloc (.cells (zs.map (Value.int .i64)).toArray 3)) := (Below.refl _ _).alloc (Nat.le_refl _) _
  have hlt := hB.lt
  refine (paput_is b b W.heap.size zs.length zs s _ (hB.keep hal) (lit_heap _ _ _) (by omega) hz hl hs).mono ?_
  rintro e w' ⟨rfl, h1, h2⟩
  exact ⟨rfl, h1, BldW.trans ⟨hal.mono (by omega), (Lib.OthersKept.refl _ _ W).alloc _⟩ h2⟩
theorem paconcat_is (A : AirP) (p : AirAt) (ts : List ByteArray) (W : World) (hA : AirA W A p) (hts : A.steps ++ A.rules = ts) (hl : ts.length ≤ 80) : Calls Try.prog 35 #[.slice (some ⟨W.heap.size, 0, none⟩) 2 2] (W.alloc (.cells #[.slice p.sa A.steps.length p.sc, .slice p.ra A.rules.length p.rc] 22)) fun e w' => Below W.heap.size W w' ∧ ∃ v, e = .returned v ∧ w'.ownsRow W.heap.size 9 1 v ts.length (ts.map Value.string) := by
  subst hts
  have s0 := srcA_str hA.1 p.sc
  have s1 := srcA_str hA.2.1 p.rc
  have hrow : SrcRow (W.alloc (.cells #[.slice p.sa A.steps.length p.sc, .slice p.ra A.rules.length p.rc] 22)) 1 W.heap.size [⟨p.sa, A.steps.length, p.sc, A.steps.map Value.string⟩, ⟨p.ra, A.rules.length, p.rc, A.rules.map Value.string⟩] := by
    refine SrcRow.lit (fun j hj => ?_) rfl
    match j, hj with
    | 0, _ => exact s0
    | 1, _ => exact s1
  refine (ctsconcat_is W.heap.size 2 _ _ hrow (by simp) (by simp [sumSrc]; rw [List.length_append] at hl; omega)).mono ?_
  rintro e w' ⟨hb, v, he, ho⟩
  have hal : Below W.heap.size W (W.alloc (.cells #[.slice p.sa A.steps.length p.sc, .slice p.ra A.rules.length p.rc] 22)) := (Below.refl _ _).alloc (Nat.le_refl _) _
  refine ⟨bthen hal hb, v, he, ?_⟩
  have ho2 := own_mono' ho hal.size
  have l1 : sumSrc [⟨p.sa, A.steps.length, p.sc, A.steps.map Value.string⟩, ⟨p.ra, A.rules.length, p.rc, A.rules.map Value.string⟩] = (A.steps ++ A.rules).length := by simp [sumSrc]
  have l2 : catSrc [⟨p.sa, A.steps.length, p.sc, A.steps.map Value.string⟩, ⟨p.ra, A.rules.length, p.rc, A.rules.map Value.string⟩] = (A.steps ++ A.rules).map Value.string := by simp [catSrc]
  rw [l1, l2] at ho2
  exact ho2
set_option maxRecDepth 100000 in
set_option maxHeartbeats 8000000 in
theorem paprint_is (A : AirP) (p : AirAt) (w : World) (hA : AirA w A p) (hr : A.check = 0) : Calls Try.prog 24 #[A.val p] w fun e w' => e = .returned (.string A.print) ∧ Below w.heap.size w w' := by
  obtain ⟨n1, n2, n3, n4, n5⟩ := AirP.check_ok hr
  have hall : A.all.2 = 0 := by rw [n3]; exact n4
  obtain ⟨t1, t2⟩ := AirP.text_size hall
  have HPL := Lib.hid (AirP.place_bd hr)
  obtain ⟨l0, l1, l2⟩ := n1
  obtain ⟨c0, c1, c2, c3⟩ := n2
  have hsl : A.steps.length ≤ 8 := by omega
  have hrl : A.rules.length ≤ 16 := c3
  have hbl : A.bounds.length ≤ 16 := l2
  obtain ⟨ts, hts⟩ : ∃ ts, A.steps ++ A.rules = ts := ⟨_, rfl⟩
  have HTS : Hid (∀ t ∈ ts, t.size ≤ 2304) := Lib.hid fun t ht => by
    rw [← hts] at ht
    rcases List.mem_append.1 ht with h | h
    · exact t1 t h
    · exact t2 t h
  have HTL : Hid (ts.length = A.count) := Lib.hid (by rw [← hts, List.length_append]; rfl)
  have hcnt : A.count ≤ 24 := by unfold AirP.count; omega
  have htl24 : ts.length ≤ 24 := by have := HTL.out; omega
  obtain ⟨S0, hS0⟩ : ∃ S, rowB A.head = S := ⟨_, rfl⟩
  have hS0s : S0.size = 40 := by rw [← hS0, rowB_size]; rfl
  obtain ⟨S2, hS2⟩ : ∃ S, addB textB S0 ts = S := ⟨_, rfl⟩
  have HPR := Lib.hid (show A.print = addB placeB S2 A.bounds by unfold AirP.print; rw [hS0, addB_app, hts, hS2])
  have HSZ : Hid (∀ k, (addB textB S0 (ts.take k)).size ≤ 100000) := Lib.hid fun k => by
    have := addB_size textB 2312 S0 (ts.take k) (fun x hx => by rw [textB_size]; have := HTS.out x (List.mem_of_mem_take hx); omega)
    have h2 := HTL.out
    rw [List.length_take] at this
    omega
  have HSZ2 : Hid (∀ k, (addB placeB S2 (A.bounds.take k)).size ≤ 200000) := Lib.hid fun k => by
    have := addB_size placeB 16 S2 (A.bounds.take k) (fun x hx => by rw [placeB_size]; exact Nat.le_refl _)
    have h2 := HSZ.out ts.length
    rw [List.take_length, hS2] at h2
    rw [List.length_take] at this
    omega
  have HPOS : Hid (0 < A.print.size) := Lib.hid (by rw [show A.print = addB placeB (addB textB S0 ts) A.bounds by rw [HPR.out, hS2]]; exact pos_addB _ _ _ (pos_addB _ _ _ (by omega)))
  have HHEAD : Hid (A.head = [A.cols, A.log, (A.steps.length : Int), (A.rules.length : Int), (A.bounds.length : Int)]) := Lib.hid rfl
  have HHB : Hid (∀ z ∈ A.head, 0 ≤ z ∧ z ≤ 1000000000) := Lib.hid (by rw [HHEAD.out]; intro n hn; simp at hn; omega)
  have HS0 := Lib.hid hS0; have HS2 := Lib.hid hS2
  have HA := Lib.hid hA
  have HTSE := Lib.hid hts
  clear hA hr n3 n4 n5 hall t1 t2 c2 hS0 hS2 hts
  go_enter Try.func24, Try.ntmps24
  go_upto_region 1 with fail
  refine wp_gen (fun W => Below w.heap.size w W ∧ AirC W w.heap.size A p ∧ w.heap.size < W.heap.size) ⟨(Below.refl _ _).alloc (Nat.le_refl _) _, AirC.new _ _ _ _, by simp⟩ ?_
  obtain ⟨g, hg⟩ : ∃ g, w.heap.size = g := ⟨_, rfl⟩
  rintro w0 ⟨hB0, hC0, hl0⟩
  rw [hg] at hC0 hl0
  simp only [hg]
  have HB0 := Lib.hid hB0; have HC0 := Lib.hid hC0
  have HWG : Hid (w.heap.size = g) := Lib.hid hg
  clear hB0 hC0 hg
  go_upto_region 2 with fail
  refine wp_gen (fun W => Below w0.heap.size w0 W ∧ Bld w0.heap.size w0.heap.size ⟨#[]⟩ W) ⟨(Below.refl _ _).alloc (Nat.le_refl _) _, Bld.new _⟩ ?_
  obtain ⟨b, hb⟩ : ∃ b, w0.heap.size = b := ⟨_, rfl⟩
  rw [hb] at hl0
  rw [hb]
  rintro w1 ⟨hB1, hD1⟩
  have HLOW : Hid (∀ W, Below b w0 W → AirC W g A p ∧ AirA W A p) := Lib.hid fun W h => ⟨HC0.out.low h hl0, HA.out.keep (HB0.out.trans (h.mono (by have := HWG.out; omega)))⟩
  have HFIN : Hid (∀ W, Below b w0 W → Below w.heap.size w W) := Lib.hid fun W h => HB0.out.trans (h.mono (by have := HWG.out; omega))
  have HB1 := Lib.hid hB1; have HD1 := Lib.hid hD1
  clear hB1 hD1 HB0 HC0 HA HWG
  have hbl0 := HD1.out.lt
  obtain ⟨x0, x1, x2, x3, x4⟩ := (HLOW.out w1 HB1.out).1
  have kp := paput_lit b 5 A.head ⟨#[]⟩ w1 #[.int .i64 A.cols, .int .i64 A.log, .int .i64 (A.steps.length : Int), .int .i64 (A.rules.length : Int), .int .i64 (A.bounds.length : Int)] (by rw [HHEAD.out]; rfl) rfl HD1.out HHB.out (by omega) (by decide)
  rw [nil_app, HS0.out] at kp
  go_upto_region 3 with (go_at_call 34; (with_reducible refine kp.mono ?_); rintro e w2 ⟨rfl, hd, hw⟩)
  have HB2 := Lib.hid (hw.below HB1.out); have HD2 := Lib.hid hd
  clear kp hd hw x0 x1 x2 x3 x4 HB1 HD1 hbl0 HHB
  obtain ⟨x0, x1, x2, x3, x4⟩ := (HLOW.out w2 HB2.out).1
  have kc := paconcat_is A p ts w2 (HLOW.out w2 HB2.out).2 HTSE.out (by have := HTL.out; omega)
  have hbl2 := HD2.out.lt
  go_upto_region 4 with (go_at_call 35; (with_reducible refine kc.mono ?_); rintro e w3 ⟨hb, vT, rfl, ho⟩; obtain ⟨aT, cT, rfl⟩ := own_form ho)
  have HB3 := Lib.hid (HB2.out.trans (hb.mono (by omega))); have HD3 := Lib.hid (HD2.out.keep hb); have HO3 := Lib.hid ho
  clear kc hb ho x0 x1 x2 x3 x4 HB2 HD2 hbl2
  obtain ⟨B', hB'⟩ : ∃ B', w2.heap.size = B' := ⟨_, rfl⟩
  rw [hB'] at HO3
  clear hB'
  go_loopw [30] (PaTxt b B' S0 ts w0 (.slice aT ts.length cT)) (fun i _ => ts.length - (intOf i).toNat)
  case atStart => exact ⟨0, Nat.zero_le _, rfl, HB3.out, HD3.out, HO3.out⟩
  case round =>
    clear HB3 HD3 HO3
    obtain ⟨k, hk, rfl, hB, hD, hO⟩ := hrel
    have HB := Lib.hid hB; have HD := Lib.hid hD; have HO := Lib.hid hO
    clear hB hD hO
    by_cases hlt : k < ts.length
    · have hltI : (k : Int) < (ts.length : Int) := by omega
      have hk0 : (0 : Int) ≤ (k : Int) := by omega
      obtain ⟨gT, cT2, hT, _, _, _, hARR⟩ := own_arr HO.out (by omega)
      cases hT
      have cs := (hARR k (by omega)).1
      dsimp only at cs
      rw [map_str_at hlt] at cs
      have hTs := HTS.out (ts.getD k noText) (by simp [List.getD, hlt])
      have HT := Lib.hid (addB_take textB S0 ts k noText hlt)
      have hSs := HSZ.out k
      generalize ts.getD k noText = T at *
      generalize addB textB S0 (ts.take k) = S at *
      clear hARR
      have kp := paput_lit b 1 [(T.size : Int)] S wr #[.int .i64 (T.size : Int)] rfl rfl HD.out (by intro z hz; simp at hz; omega) (by omega) (by omega)
      have kw := fun W (h : Bld b b (S ++ rowB [(T.size : Int)]) W) => bwrite_is b b _ T W h (by rw [ByteArray.size_append, rowB_size]; simp; omega)
      have HE : Hid (S ++ rowB [(T.size : Int)] ++ T = addB textB S0 (ts.take (k + 1))) := Lib.hid (by rw [HT.out, rowB_one, ByteArray.append_assoc]; rfl)
      clear HT hTs hSs
      obtain ⟨S', hS'⟩ : ∃ S', S ++ rowB [(T.size : Int)] = S' := ⟨_, rfl⟩
      rw [hS'] at HE kp kw
      clear hS'
      go_wp2_with (first
        | (go_at_call 34; (with_reducible refine kp.mono ?_); rintro e w4 ⟨rfl, hd, hw⟩; have HB4 := Lib.hid (hw.below HB.out); have HO4 := Lib.hid (hw.own (by decide) (by decide) HD.out HO.out); have HD4 := Lib.hid hd; clear hd hw)
        | (go_at_call 36; (with_reducible refine (kw _ HD4.out).mono ?_); rintro e w5 ⟨rfl, hd, hw⟩; have HB5 := Lib.hid (hw.below HB4.out); have HO5 := Lib.hid (hw.own (by decide) (by decide) HD4.out HO4.out); have HD5 := Lib.hid hd; clear hd hw))
      go_roundw
      case rel => exact ⟨k + 1, by omega, by go_num, HB5.out, HE.out ▸ HD5.out, HO5.out⟩
      case measure => simp [intOf]; omega
    · obtain rfl : k = ts.length := by omega
      have HD2 : Hid (Bld b b S2 wr) := Lib.hid (by have := HD.out; rw [List.take_length, HS2.out] at this; exact this)
      clear HD HO hlt hk
      obtain ⟨x0, x1, x2, x3, x4⟩ := (HLOW.out wr HB.out).1
      go_upto_region 10 with fail
      clear x0 x1 x2 x3 x4
      go_loopw [44] (PaBnd b S2 A.bounds w0) (fun i _ => A.bounds.length - (intOf i).toNat)
      case atStart => exact ⟨0, Nat.zero_le _, rfl, HB.out, HD2.out⟩
      case round =>
        clear HB HD2
        obtain ⟨k, hk, rfl, hB, hD⟩ := hrel
        have HB := Lib.hid hB; have HD := Lib.hid hD
        clear hB hD
        by_cases hlt : k < A.bounds.length
        · have hltI : (k : Int) < (A.bounds.length : Int) := by omega
          have hk0 : (0 : Int) ≤ (k : Int) := by omega
          obtain ⟨bb, off, hpa, c0, c1⟩ := (HLOW.out wr HB.out).2.2.2.1.2.2 k hlt
          have hmem := HPL.out (A.bounds.getD k (0, 0)) (by simp [List.getD, hlt])
          have HT := Lib.hid (addB_take placeB S2 A.bounds k (0, 0) hlt)
          have hSs := HSZ2.out k
          generalize A.bounds.getD k (0, 0) = T at *
          obtain ⟨c, r⟩ := T
          dsimp only at c0 c1 hmem
          generalize addB placeB S2 (A.bounds.take k) = S at *
          obtain ⟨pba, hpba⟩ : ∃ x, p.ba = x := ⟨_, rfl⟩
          have c0' := c0; have c1' := c1
          simp only [hpa]
          go_upto_region 12 with fail
          refine wp_gen (fun W => Below wr.heap.size wr W ∧ W.cell? ⟨wr.heap.size, 0, none⟩ = some (.int .i64 c) ∧ W.cell? ⟨wr.heap.size, 1, none⟩ = some (.int .i64 r)) ⟨(Below.refl _ _).alloc (Nat.le_refl _) _, by simp [go_sem], by simp [go_sem]⟩ ?_
          obtain ⟨gb, hgb⟩ : ∃ g, wr.heap.size = g := ⟨_, rfl⟩
          have hlw := HD.out.lt
          rintro w4 ⟨hb4, d0, d1⟩
          rw [hgb] at d0 d1
          simp only [hgb]
          have HB4 := Lib.hid (HB.out.trans (hb4.mono (by omega)))
          have HD4 := Lib.hid (HD.out.keep hb4)
          clear hb4 hgb c0 c1 c0' c1' hpba HB HD hlw
          have kp := paput_lit b 2 [c, r] S w4 #[.int .i64 c, .int .i64 r] rfl rfl HD4.out (by intro z hz; simp at hz; omega) (by omega) (by omega)
          have HE : Hid (S ++ rowB [c, r] = addB placeB S2 (A.bounds.take (k + 1))) := Lib.hid (by rw [HT.out]; rfl)
          obtain ⟨S', hS'⟩ : ∃ S', S ++ rowB [c, r] = S' := ⟨_, rfl⟩
          rw [hS'] at HE kp
          clear hS' HT hSs hmem hpa
          go_wp2_with (go_at_call 34; (with_reducible refine kp.mono ?_); rintro e w5 ⟨rfl, hd, hw⟩; have HB5 := Lib.hid (hw.below HB4.out); have HD5 := Lib.hid hd; clear hd hw)
          go_roundw
          case rel => exact ⟨k + 1, by omega, by go_num, HB5.out, HE.out ▸ HD5.out⟩
          case measure => simp [intOf]; omega
        · obtain rfl : k = A.bounds.length := by omega
          have hD : Bld b b A.print wr := by have := HD.out; rw [List.take_length, ← HPR.out] at this; exact this
          have ks := bstring_is b b A.print wr hD HPOS.out
          obtain ⟨Q, hQ⟩ : ∃ Q, A.print = Q := ⟨_, rfl⟩
          rw [hQ] at ks
          have HQ := Lib.hid hQ
          clear hD HD HPR HPOS hQ
          go_wp2_with (go_at_call 37; (with_reducible refine ks.mono ?_); rintro e w5 ⟨rfl, hb⟩; have HB5 := Lib.hid (HB.out.trans hb); clear hb)
          go_ret
          exact ⟨by rw [HQ.out]; rfl, HFIN.out _ HB5.out⟩
end Go.Proofs.Ytckipfcjgmiacaa
namespace Go.Proofs.Ytckipfcjgmiacaa
open Go Go.RowKit
set_option linter.unusedVariables false

def pnum (m : Int) (r : Rest) : Int × Rest := if r.1.size < 8 ∨ m < numB r.1 0 then (0, (r.1, true)) else (numB r.1 0, (r.1.extract 8 r.1.size, r.2))
def ptext (r : Rest) : ByteArray × Rest := if ((pnum 4096 r).2.1.size : Int) < (pnum 4096 r).1 then (noText, ((pnum 4096 r).2.1, true)) else ((pnum 4096 r).2.1.extract 0 (pnum 4096 r).1.toNat, ((pnum 4096 r).2.1.extract (pnum 4096 r).1.toNat (pnum 4096 r).2.1.size, (pnum 4096 r).2.2))
def pplace (r : Rest) : (Int × Int) × Rest := (((pnum 8 r).1, (pnum 1024 (pnum 8 r).2).1), (pnum 1024 (pnum 8 r).2).2)
def phead (r : Rest) : Heads × Rest :=
  (⟨(pnum 8 r).1, (pnum 10 (pnum 8 r).2).1, (pnum 8 (pnum 10 (pnum 8 r).2).2).1, (pnum 16 (pnum 8 (pnum 10 (pnum 8 r).2).2).2).1, (pnum 16 (pnum 16 (pnum 8 (pnum 10 (pnum 8 r).2).2).2).2).1⟩, (pnum 16 (pnum 16 (pnum 8 (pnum 10 (pnum 8 r).2).2).2).2).2)
def pread (r : Rest) : AirP × Rest :=
  (⟨(phead r).1.c, (phead r).1.l, (manyR ptext (phead r).2 (phead r).1.s.toNat).1, (manyR ptext (manyR ptext (phead r).2 (phead r).1.s.toNat).2 (phead r).1.r.toNat).1,
     (manyR pplace (manyR ptext (manyR ptext (phead r).2 (phead r).1.s.toNat).2 (phead r).1.r.toNat).2 (phead r).1.b.toNat).1⟩,
   (manyR pplace (manyR ptext (manyR ptext (phead r).2 (phead r).1.s.toNat).2 (phead r).1.r.toNat).2 (phead r).1.b.toNat).2)
/-- The program's reader is bad where the document's is; where it isn't they are the same. -/
def SimR (r q : Rest) : Prop := q.2 = r.2 ∧ (r.2 = false → q = r)
section
variable {α : Type}
structure SimF (f g : Rest → α × Rest) : Prop where
  sim : ∀ r q, SimR r q → SimR (f r).2 (g q).2
  val : ∀ r q, SimR r q → (f r).2.2 = false → (f r).1 = (g q).1
  bad : ∀ r, r.2 = true → (f r).2.2 = true
  badg : ∀ r, r.2 = true → (g r).2.2 = true
theorem SimF.good {f g : Rest → α × Rest} (h : SimF f g) {r : Rest} (hr : (f r).2.2 = false) : r.2 = false := by
  cases e : r.2 with
  | false => rfl
  | true => rw [h.bad r e] at hr; cases hr
theorem SimF.many {f g : Rest → α × Rest} (h : SimF f g) (k : Nat) : SimF (fun r => manyR f r k) (fun r => manyR g r k) := by
  induction k with
  | zero => exact ⟨fun r q hs => hs, fun r q _ _ => rfl, fun r hr => hr, fun r hr => hr⟩
  | succ k ih =>
    refine ⟨fun r q hs => h.sim _ _ (ih.sim r q hs), fun r q hs hr => ?_, fun r hr => h.bad _ (ih.bad r hr), fun r hr => h.badg _ (ih.badg r hr)⟩
    have e1 := h.val _ _ (ih.sim r q hs) hr
    have e2 := ih.val r q hs (h.good hr)
    show (manyR f r k).1 ++ [_] = (manyR g q k).1 ++ [_]
    rw [show (manyR f r k).1 = (manyR g q k).1 from e2]
    rw [show (f (manyR f r k).2).1 = (g (manyR g q k).2).1 from e1]
end
theorem simN (m : Int) : SimF (numR m) (pnum m) := by
  refine ⟨fun r q ⟨h1, h2⟩ => ?_, fun r q ⟨h1, h2⟩ hr => ?_, fun r hr => ?_, fun r hr => ?_⟩
  · cases e : r.2 with
    | false =>
      obtain rfl := h2 e
      unfold numR pnum
      rw [e]
      by_cases c : q.1.size < 8 ∨ m < numB q.1 0
      · rw [if_pos (.inr c), if_pos c]; exact ⟨rfl, fun _ => rfl⟩
      · rw [if_neg (by simpa using c), if_neg c]; exact ⟨rfl, fun _ => rfl⟩
    | true =>
      have q1 : (numR m r).2.2 = true := by unfold numR; rw [if_pos (.inl e)]
      have q2 : (pnum m q).2.2 = true := by unfold pnum; split <;> simp [h1, e]
      exact ⟨by rw [q1, q2], fun h => by rw [q1] at h; cases h⟩
  · cases e : r.2 with
    | false =>
      obtain rfl := h2 e
      unfold numR pnum
      rw [e]
      by_cases c : q.1.size < 8 ∨ m < numB q.1 0
      · rw [if_pos (.inr c), if_pos c]
      · rw [if_neg (by simpa using c), if_neg c]
    | true => have q1 : (numR m r).2.2 = true := by unfold numR; rw [if_pos (.inl e)]
              rw [q1] at hr; cases hr
  · unfold numR; rw [if_pos (.inl hr)]
  · unfold pnum; split <;> simp [hr]
theorem simT : SimF (textR 4096) ptext := by
  have hb : ∀ r, r.2 = true → (textR 4096 r).2.2 = true := fun r hr => by unfold textR; rw [if_pos (.inl ((simN 4096).bad r hr))]
  have hp : ∀ r : Rest, r.2 = true → (ptext r).2.2 = true := fun r hr => by unfold ptext; split <;> simp [(simN 4096).badg r hr]
  have key : ∀ r q, SimR r q → (numR 4096 r).2.2 = false → textR 4096 r = ptext q := fun r q h hr => by
    have e := ((simN 4096).sim r q h).2 hr
    have e2 := (simN 4096).val r q h hr
    unfold textR ptext
    rw [e, ← e2, hr]
    simp
  have kb : ∀ r q, SimR r q → (numR 4096 r).2.2 = true → (textR 4096 r).2.2 = true ∧ (ptext q).2.2 = true := fun r q h hr => by
    have e := ((simN 4096).sim r q h).1
    rw [hr] at e
    exact ⟨by unfold textR; rw [if_pos (.inl hr)], by unfold ptext; split <;> simp [e]⟩
  refine ⟨fun r q h => ?_, fun r q h hr => ?_, hb, hp⟩
  · cases e : (numR 4096 r).2.2 with
    | false => rw [key r q h e]; exact ⟨rfl, fun _ => rfl⟩
    | true => obtain ⟨q1, q2⟩ := kb r q h e; exact ⟨by rw [q1, q2], fun h => by rw [q1] at h; cases h⟩
  · cases e : (numR 4096 r).2.2 with
    | false => rw [key r q h e]
    | true => rw [(kb r q h e).1] at hr; cases hr
theorem simP : SimF placeR pplace := by
  refine ⟨fun r q h => (simN 1024).sim _ _ ((simN 8).sim r q h), fun r q h hr => ?_, fun r hr => (simN 1024).bad _ ((simN 8).bad r hr), fun r hr => (simN 1024).badg _ ((simN 8).badg r hr)⟩
  have e1 := (simN 1024).val _ _ ((simN 8).sim r q h) hr
  have e2 := (simN 8).val r q h ((simN 1024).good hr)
  unfold placeR pplace
  rw [e1, e2]
theorem simH : SimF headR phead := by
  have s1 := (simN 8).sim; have s2 := (simN 10).sim; have s3 := (simN 8).sim; have s4 := (simN 16).sim
  have b1 := (simN 8).bad; have b2 := (simN 10).bad; have b4 := (simN 16).bad
  have d1 := (simN 8).badg; have d2 := (simN 10).badg; have d4 := (simN 16).badg
  have v1 := (simN 8).val; have v2 := (simN 10).val; have v4 := (simN 16).val
  have g1 := fun r h => (simN 8).good (r := r) h; have g2 := fun r h => (simN 10).good (r := r) h; have g4 := fun r h => (simN 16).good (r := r) h
  constructor
  all_goals try unfold headR
  all_goals try unfold phead
  all_goals dsimp only
  all_goals generalize numR 8 = n8 at *
  all_goals generalize pnum 8 = p8 at *
  all_goals generalize numR 10 = n10 at *
  all_goals generalize pnum 10 = p10 at *
  all_goals generalize numR 16 = n16 at *
  all_goals generalize pnum 16 = p16 at *
  · exact fun r q h => s4 _ _ (s4 _ _ (s3 _ _ (s2 _ _ (s1 r q h))))
  · intro r q h hr
    have k5 := hr
    have k4 := g4 _ k5
    have k3 := g4 _ k4
    have k2 := g1 _ k3
    have k1 := g2 _ k2
    rw [v1 r q h k1, v2 _ _ (s1 r q h) k2, v1 _ _ (s2 _ _ (s1 r q h)) k3, v4 _ _ (s3 _ _ (s2 _ _ (s1 r q h))) k4, v4 _ _ (s4 _ _ (s3 _ _ (s2 _ _ (s1 r q h)))) k5]
  · exact fun r hr => b4 _ (b4 _ (b1 _ (b2 _ (b1 r hr))))
  · exact fun r hr => d4 _ (d4 _ (d1 _ (d2 _ (d1 r hr))))
def rdA (t : Rest → ByteArray × Rest) (l : Rest → (Int × Int) × Rest) (a : Heads × Rest) : AirP × Rest :=
  (⟨a.1.c, a.1.l, (manyR t a.2 a.1.s.toNat).1, (manyR t (manyR t a.2 a.1.s.toNat).2 a.1.r.toNat).1, (manyR l (manyR t (manyR t a.2 a.1.s.toNat).2 a.1.r.toNat).2 a.1.b.toNat).1⟩, (manyR l (manyR t (manyR t a.2 a.1.s.toNat).2 a.1.r.toNat).2 a.1.b.toNat).2)
theorem rdA_sim {t t' : Rest → ByteArray × Rest} {l l' : Rest → (Int × Int) × Rest} (ST : SimF t t') (SP : SimF l l') {a b : Heads × Rest} (h : SimR a.2 b.2) (hv : a.2.2 = false → a.1 = b.1) : (rdA t' l' b).2.2 = (rdA t l a).2.2 ∧ ((rdA t l a).2.2 = false → rdA t' l' b = rdA t l a) := by
  obtain ⟨H, r⟩ := a
  obtain ⟨K, q⟩ := b
  dsimp only at h hv
  cases e : r.2 with
  | true =>
    have e' : q.2 = true := by rw [h.1, e]
    have q1 : (rdA t l (H, r)).2.2 = true := (SP.many _).bad _ ((ST.many _).bad _ ((ST.many _).bad _ e))
    have q2 : (rdA t' l' (K, q)).2.2 = true := (SP.many _).badg _ ((ST.many _).badg _ ((ST.many _).badg _ e'))
    exact ⟨by rw [q1, q2], fun h => by rw [q1] at h; cases h⟩
  | false =>
    obtain rfl := hv e
    obtain rfl := h.2 e
    unfold rdA
    dsimp only
    have a1 := (ST.many H.s.toNat).sim _ _ h
    have a2 := (ST.many H.r.toNat).sim _ _ a1
    have a3 := (SP.many H.b.toNat).sim _ _ a2
    refine ⟨a3.1, fun g3 => ?_⟩
    have g2 := (SP.many H.b.toNat).good g3
    have g1 := (ST.many H.r.toNat).good g2
    have v1 := (ST.many H.s.toNat).val _ _ h g1
    have v2 := (ST.many H.r.toNat).val _ _ a1 g2
    have v3 := (SP.many H.b.toNat).val _ _ a2 g3

    rw [← v1, ← v2, ← v3, a3.2 g3]
theorem pread_sim (s : ByteArray) : (pread (s, false)).2.2 = (readA s).2.2 ∧ ((readA s).2.2 = false → pread (s, false) = readA s) := by
  have h0 : SimR (s, false) (s, false) := ⟨rfl, fun _ => rfl⟩
  have hh := simH.sim _ _ h0
  have hv := simH.val _ _ h0
  have e1 : readA s = rdA (textR 4096) placeR (headR (s, false)) := by unfold readA rdA; rfl
  have e2 : pread (s, false) = rdA ptext pplace (phead (s, false)) := by unfold pread rdA; rfl
  rw [e1, e2]
  exact rdA_sim simT simP hh hv
theorem pread_parse (s : ByteArray) : parseA s = if (pread (s, false)).2.2 = true ∨ (pread (s, false)).2.1.size ≠ 0 then (airZ, 2) else if (pread (s, false)).1.check ≠ 0 then (airZ, (pread (s, false)).1.check) else ((pread (s, false)).1, 0) := by
  obtain ⟨h1, h2⟩ := pread_sim s
  unfold parseA
  cases e : (readA s).2.2 with
  | true => rw [if_pos (.inl rfl), if_pos (.inl (by rw [h1, e]))]
  | false => rw [h2 e, e]
end Go.Proofs.Ytckipfcjgmiacaa
namespace Go.Proofs.Ytckipfcjgmiacaa
open Go Go.RowKit
set_option linter.unusedVariables false

theorem pnum_bd {m : Int} (hm : 0 ≤ m) (r : Rest) : 0 ≤ (pnum m r).1 ∧ (pnum m r).1 ≤ m ∧ (pnum m r).2.1.size ≤ r.1.size := by
  unfold pnum
  split
  · exact ⟨Int.le_refl _, hm, Nat.le_refl _⟩
  · next c => exact ⟨(numB_U r.1 0).1, by omega, by simp only [ByteArray.size_extract]; omega⟩
theorem ptext_bd (r : Rest) : (ptext r).1.size ≤ 4096 ∧ (ptext r).2.1.size ≤ r.1.size := by
  obtain ⟨h1, h2, h3⟩ := pnum_bd (m := 4096) (by decide) r
  unfold ptext
  split
  · exact ⟨by show 0 ≤ 4096; omega, h3⟩
  · exact ⟨by simp only [ByteArray.size_extract]; omega, by simp only [ByteArray.size_extract]; omega⟩
theorem pplace_bd (r : Rest) : ((0 ≤ (pplace r).1.1 ∧ (pplace r).1.1 ≤ 8) ∧ 0 ≤ (pplace r).1.2 ∧ (pplace r).1.2 ≤ 1024) ∧ (pplace r).2.1.size ≤ r.1.size := by
  obtain ⟨h1, h2, h3⟩ := pnum_bd (m := 8) (by decide) r
  obtain ⟨k1, k2, k3⟩ := pnum_bd (m := 1024) (by decide) (pnum 8 r).2
  exact ⟨⟨⟨h1, h2⟩, k1, k2⟩, Nat.le_trans k3 h3⟩
theorem many_bd {α : Type} {f : Rest → α × Rest} {P : α → Prop} (h : ∀ r, P (f r).1 ∧ (f r).2.1.size ≤ r.1.size) (r : Rest) : ∀ k, (∀ x ∈ (manyR f r k).1, P x) ∧ (manyR f r k).2.1.size ≤ r.1.size
  | 0 => ⟨(by intro x hx; cases hx), Nat.le_refl _⟩
  | k + 1 => by
    obtain ⟨h1, h2⟩ := many_bd h r k
    obtain ⟨h3, h4⟩ := h (manyR f r k).2
    refine ⟨fun x hx => ?_, Nat.le_trans h4 h2⟩
    rw [manyR] at hx
    rcases List.mem_append.1 hx with hx | hx
    · exact h1 x hx
    · simp at hx; subst hx; exact h3
theorem Duo.set0 {W : World} {g : Nat} {u v : Value} (h : Duo W g u v) (u' : Value) : Duo (W.setCell ⟨g, 0, none⟩ u') g u' v := by
  obtain ⟨c0, c1, f0, f1⟩ := h
  simp [Duo, go_sem, c0, c1, f0, f1]
theorem Duo.set1 {W : World} {g : Nat} {u v : Value} (h : Duo W g u v) (v' : Value) : Duo (W.setCell ⟨g, 1, none⟩ v') g u v' := by
  obtain ⟨c0, c1, f0, f1⟩ := h
  simp [Duo, go_sem, c0, c1, f0, f1]
/-- What lies in blocks of its own doesn't matter. -/
theorem grown_over {w W W' : World} {g : Nat} {row : Option Nat} (h : w.grownBy W (some g)) (h' : W.grownBy W' row) (hr : ∀ k, row = some k → w.heap.size ≤ k) : w.grownBy W' (some g) :=
  ⟨h'.os.trans h.os, h'.tape.trans h.tape, h'.output.trans h.output, Nat.le_trans h.size h'.size, fun k hk hne => (h'.block k (Nat.lt_of_lt_of_le hk h.size) (fun e => by have := hr k e.symm; omega)).trans (h.block k hk hne)⟩
set_option maxHeartbeats 4000000 in
theorem panum_is (g : Nat) (q : Rest) (m : Int) (w : World) (hD : Duo w g (.string q.1) (.bool q.2)) (hm : 0 ≤ m ∧ m ≤ 100000) :
    Calls Try.prog 48 #[.pointer (some ⟨g, 0, none⟩), .int .i64 m] w (ReadPost18 g w (.int .i64 (pnum m q).1) (pnum m q).2.1 (pnum m q).2.2) := by
  obtain ⟨s, bad⟩ := q
  have HD := Lib.hid hD
  obtain ⟨c0, c1, f0, f1⟩ := hD
  have hu : IntKind.u64.wrap m = m := by rw [IntKind.wrap_u64]; omega
  unfold pnum
  dsimp only
  by_cases c : s.size < 8 ∨ m < numB s 0
  · rw [if_pos c]
    by_cases h8 : s.size < 8
    · have kn := fun W => onum_is s 0 false (if_neg (by omega)) (decide_eq_false (by omega)) W
      clear c
      go_enter Try.func48, Try.ntmps48
      go_wp2_with (go_at_call 61; (with_reducible refine (kn _).mono ?_); rintro e w2 ⟨rfl, hb⟩; have HB := Lib.hid hb; have HD2 := Lib.hid (HD.out.keep hb); obtain ⟨y0, y1, y2, y3⟩ := HD.out.keep hb; clear hb)
      go_ret
      exact ⟨rfl, HD2.out.set1 _, grown_trans (grown_of_below HB.out) (grown_set _ g 1 _)⟩
    · have hgt : m < numB s 0 := c.resolve_left h8
      have kn := fun W => onum_is s (numB s 0) true (if_pos (by omega)) (decide_eq_true (by omega)) W
      clear c
      generalize numB s 0 = x at *
      go_enter Try.func48, Try.ntmps48
      go_wp2_with (go_at_call 61; (with_reducible refine (kn _).mono ?_); rintro e w2 ⟨rfl, hb⟩; have HB := Lib.hid hb; have HD2 := Lib.hid (HD.out.keep hb); obtain ⟨y0, y1, y2, y3⟩ := HD.out.keep hb; clear hb)
      go_ret
      exact ⟨rfl, HD2.out.set1 _, grown_trans (grown_of_below HB.out) (grown_set _ g 1 _)⟩
  · rw [if_neg c]
    obtain ⟨h8, hle⟩ := not_or.1 c
    have kn := fun W => onum_is s (numB s 0) true (if_pos (by omega)) (decide_eq_true (by omega)) W
    have hx := numB_U s 0
    have hw : IntKind.i64.wrap (numB s 0) = numB s 0 := IntWalk.i64_in _ (by have := hx.1; omega)
    have h8I : (8 : Int) ≤ (s.size : Int) := by omega
    clear c hx
    generalize numB s 0 = x at *
    go_enter Try.func48, Try.ntmps48
    go_wp2_with (go_at_call 61; (with_reducible refine (kn _).mono ?_); rintro e w2 ⟨rfl, hb⟩; have HB := Lib.hid hb; have HD2 := Lib.hid (HD.out.keep hb); obtain ⟨y0, y1, y2, y3⟩ := HD.out.keep hb; clear hb)
    go_ret
    exact ⟨rfl, HD2.out.set0 _, grown_trans (grown_of_below HB.out) (grown_set _ g 0 _)⟩
set_option maxHeartbeats 4000000 in
theorem patext_is (g : Nat) (q : Rest) (w : World) (hD : Duo w g (.string q.1) (.bool q.2)) (hs : q.1.size ≤ 1000000) :
    Calls Try.prog 50 #[.pointer (some ⟨g, 0, none⟩)] w (ReadPost18 g w (.string (ptext q).1) (ptext q).2.1 (ptext q).2.2) := by
  have kn := panum_is g q 4096 w hD (by decide)
  obtain ⟨hn0, hn1, hsz⟩ := pnum_bd (m := 4096) (by decide) q
  unfold ptext
  unfold ReadPost18 at kn
  obtain ⟨⟨n, s1, b1⟩, hq⟩ : ∃ x, pnum 4096 q = x := ⟨_, rfl⟩
  rw [hq] at kn hn0 hn1 hsz ⊢
  dsimp only at kn hn0 hn1 hsz ⊢
  clear hq hD
  obtain ⟨k, rfl⟩ := Int.eq_ofNat_of_zero_le hn0
  rw [Int.toNat_natCast]
  have hs1 : s1.size ≤ 1000000 := by omega
  by_cases c : (s1.size : Int) < (k : Int)
  · rw [if_pos c]
    go_enter Try.func50, Try.ntmps50
    go_wp2_with (go_at_call 48; (with_reducible refine kn.mono ?_); rintro e w2 ⟨rfl, hD2, hg⟩; have HG := Lib.hid hg; have HD2 := Lib.hid hD2; obtain ⟨y0, y1, y2, y3⟩ := hD2; clear hg)
    go_ret
    exact ⟨rfl, HD2.out.set1 _, grown_trans HG.out (grown_set _ g 1 _)⟩
  · rw [if_neg c]
    have hle3 : (k : Int) ≤ (s1.size : Int) := by omega
    have hk0 : (0 : Int) ≤ (k : Int) := by omega
    go_enter Try.func50, Try.ntmps50
    go_wp2_with (go_at_call 48; (with_reducible refine kn.mono ?_); rintro e w2 ⟨rfl, hD2, hg⟩; have HG := Lib.hid hg; have HD2 := Lib.hid hD2; obtain ⟨y0, y1, y2, y3⟩ := hD2; clear hg)
    go_ret
    exact ⟨rfl, HD2.out.set0 _, grown_trans HG.out (grown_set _ g 0 _)⟩
set_option maxHeartbeats 4000000 in
theorem pabound_is (g : Nat) (q : Rest) (w : World) (hD : Duo w g (.string q.1) (.bool q.2)) :
    Calls Try.prog 52 #[.pointer (some ⟨g, 0, none⟩)] w (ReadPost18 g w (.agg #[.int .i64 (pplace q).1.1, .int .i64 (pplace q).1.2]) (pplace q).2.1 (pplace q).2.2) := by
  have k1 := fun W h => panum_is g q 8 W h (by decide)
  have k2 := fun W h => panum_is g (pnum 8 q).2 1024 W h (by decide)
  unfold pplace
  unfold ReadPost18 at k1 k2 ⊢
  dsimp only
  obtain ⟨⟨x, q1⟩, hq⟩ : ∃ x, pnum 8 q = x := ⟨_, rfl⟩
  rw [hq] at k1 k2 ⊢
  dsimp only at k1 k2 ⊢
  obtain ⟨⟨y, q2⟩, hq2⟩ : ∃ x, pnum 1024 q1 = x := ⟨_, rfl⟩
  rw [hq2] at k2 ⊢
  dsimp only at k2 ⊢
  clear hq hq2
  have hgl := hD.lt
  have HD := Lib.hid (hD.keep ((Below.refl w.heap.size w).alloc (Nat.le_refl _) (.cells #[.int .i64 0, .int .i64 0] 48)))
  have HN := Lib.hid (Duo.new w (.int .i64 0) (.int .i64 0) 48)
  have HG0 : Hid (w.grownBy (w.alloc (.cells #[.int .i64 0, .int .i64 0] 48)) (some g)) := Lib.hid (World.grownBy_alloc _ _ _)
  have HNG := Lib.hid (show w.heap.size ≠ g by omega)
  clear hD
  go_enter Try.func52, Try.ntmps52
  go_upto_region 2 with (go_at_call 48; (with_reducible refine (k1 _ HD.out).mono ?_); rintro e w2 ⟨rfl, hD2, hg⟩; have HG2 := Lib.hid (grown_trans HG0.out hg); have HD2 := Lib.hid hD2; have HN2 := Lib.hid (HN.out.grown hg (fun k hk e => by cases hk; exact HNG.out e.symm)); clear hg hD2)
  go_upto_region 3 with (go_at_call 48; (with_reducible refine (k2 _ HD2.out).mono ?_); rintro e w3 ⟨rfl, hD2, hg⟩; have HG3 := Lib.hid (grown_trans HG2.out hg); have HD3 := Lib.hid hD2; have HN3 := Lib.hid (HN2.out.grown hg (fun k hk e => by cases hk; exact HNG.out e.symm)); clear hg hD2)
  obtain ⟨y0, y1, y2, y3⟩ := HN3.out
  go_wp2
  exact bodyPost_ret (v := .agg #[.int .i64 x, .int .i64 y]) (by simp [results, Try.results52, go_sem, y0, y1]) rfl ⟨rfl, (HD3.out.far HNG.out 0 _).far HNG.out 1 _, grown_over (grown_over HG3.out (grown_set _ _ 0 _) (by intro k hk; cases hk; omega)) (grown_set _ _ 1 _) (by intro k hk; cases hk; omega)⟩
end Go.Proofs.Ytckipfcjgmiacaa
namespace Go.Proofs.Ytckipfcjgmiacaa
open Go Go.RowKit
set_option linter.unusedVariables false

theorem infoBound18 : (Try.prog.info? 48).map (fun i => (i.zero, i.size, i.bytes)) = some (some (.agg #[.int .i64 0, .int .i64 0]), 2, 16) := by kernel_rfl
def PaSevS (g : Nat) (q : Rest) (n : Nat) (w : World) (v i : Value) (W : World) : Prop :=
  ∃ k : Nat, k ≤ n ∧ i = .int .i64 k ∧ W.ownsRow w.heap.size 9 1 v k (strsV (manyR ptext q k).1) ∧ Duo W g (.string (manyR ptext q k).2.1) (.bool (manyR ptext q k).2.2) ∧ w.grownBy W (some g)
set_option maxHeartbeats 4000000 in
theorem pasevs_is (g n : Nat) (q : Rest) (w : World) (hD : Duo w g (.string q.1) (.bool q.2)) (hn : n ≤ 100) (hs : q.1.size ≤ 1000000) :
    Calls Try.prog 49 #[.int .i64 n, .func (.func 50) #[.pointer (some ⟨g, 0, none⟩)] #[]] w fun e w' => ∃ v, e = .returned v ∧ w'.ownsRow w.heap.size 9 1 v n (strsV (manyR ptext q n).1) ∧ Duo w' g (.string (manyR ptext q n).2.1) (.bool (manyR ptext q n).2.2) ∧ w.grownBy w' (some g) := by
  obtain ⟨i0, hi, hz0, hz1, hz2⟩ := info_parts ctsinfo
  have hgl := hD.lt
  have HD := Lib.hid hD
  clear hD
  go_enter Try.func49, Try.ntmps49
  go_upto_region 3 with fail
  go_loopw [5, 7] (PaSevS g q n w) (fun _ i _ => n - (intOf i).toNat)
  case atStart => exact ⟨0, Nat.zero_le _, rfl, World.ownsRow_nil _ _ _ _, HD.out, World.grownBy.refl _ _⟩
  case round =>
    clear HD
    obtain ⟨k, hk, rfl, hO, hD, hG⟩ := hrel
    obtain ⟨av, cv, rfl⟩ := own_form hO
    have HO := Lib.hid hO; have HD := Lib.hid hD; have HG := Lib.hid hG
    have hsz := hG.size
    clear hO hD hG
    by_cases hlt : k < n
    · have hltI : (k : Int) < (n : Int) := by omega
      have hk0 : (0 : Int) ≤ (k : Int) := by omega
      have hq1 : (manyR ptext q k).2.1.size ≤ 1000000 := by have := (many_bd (P := fun _ => True) (fun r => ⟨trivial, (ptext_bd r).2⟩) q k).2; omega
      have HM1 : Hid ((manyR ptext q (k + 1)).1 = (manyR ptext q k).1 ++ [(ptext (manyR ptext q k).2).1]) := Lib.hid rfl
      have HM2 : Hid ((manyR ptext q (k + 1)).2 = (ptext (manyR ptext q k).2).2) := Lib.hid rfl
      generalize (manyR ptext q k).1 = L at *
      generalize (manyR ptext q k).2 = r at *
      have kt := fun W (h : Duo W g (.string r.1) (.bool r.2)) => patext_is g r W h hq1
      unfold ReadPost18 at kt
      obtain ⟨⟨t, r2⟩, ht⟩ : ∃ x, ptext r = x := ⟨_, rfl⟩
      rw [ht] at kt HM1 HM2
      dsimp only at kt HM1 HM2
      clear ht hq1
      skip
      have HNE : Hid (∀ (W : World) (h : W.ownsRow w.heap.size 9 1 (.slice av k cv) k (strsV L)), (Value.slice av k cv).ownBlock = none ∨ (Value.slice av k cv).ownBlock ≠ some g) := Lib.hid fun W h => own_ne_or h hgl
      go_wp2_with (first
        | (go_at_call 50; (with_reducible refine (kt _ HD.out).mono ?_); rintro e w2 ⟨rfl, hD2, hg2⟩; have HD2 := Lib.hid hD2; have HG2 := Lib.hid (grown_trans HG.out hg2); have HO2 := Lib.hid (HO.out.kept hg2 (HNE.out _ HO.out)); have hsz2 := HG2.out.size; clear hD2 hg2)
        | (at_builtin; refine wpList_append_own_at rfl _ _ 22 rfl w.heap.size 9 i0 (.string ⟨#[]⟩) 1 16 Try.underlying22 hi hz0 hz1 hz2 rfl (by decide) _ _ _ rfl (HO2.out.alloc _) ⟨w2.heap.size, 0, none⟩ 1 1 [.string t] rfl rfl (one_src (by simp [go_sem])) (by intro u hu; simp at hu; subst hu; rfl) (by unfold maxLen; omega) (by omega) (by simp; omega) ?_; intro v3 w3 q1 q2 q3; obtain ⟨a3, c3, rfl⟩ := own_form q1; have HO3 := Lib.hid q1; have HG3 := Lib.hid (grown_over (grown_over HG2.out (World.grownBy_alloc _ _ none) (fun k h => by cases h)) q2 (fun j hj => own_ge HO2.out j hj)); have HD3 := Lib.hid ((HD2.out.keep ((Below.refl _ _).alloc (Nat.le_refl _) (.cells #[.string t] 9))).grown q2 (fun j hj e => by have := own_ge HO2.out j hj; omega)); clear q1 q2 q3))
      go_roundw
      case rel => exact ⟨k + 1, by omega, by go_num, by rw [HM1.out]; rw [show strsV (L ++ [t]) = strsV L ++ [.string t] by simp [strsV]]; exact HO3.out, by rw [HM2.out]; exact HD3.out, HG3.out⟩
      case measure => simp [intOf]; omega
    · obtain rfl : k = n := by omega
      go_wp2_with fail
      go_ret
      exact ⟨_, rfl, HO.out, HD.out, HG.out⟩
def PaSevB (g : Nat) (q : Rest) (n : Nat) (w : World) (v i : Value) (W : World) : Prop :=
  ∃ k : Nat, k ≤ n ∧ i = .int .i64 k ∧ W.ownsRow w.heap.size 48 2 v k (flatI (manyR pplace q k).1) ∧ Duo W g (.string (manyR pplace q k).2.1) (.bool (manyR pplace q k).2.2) ∧ w.grownBy W (some g)
set_option maxHeartbeats 4000000 in
theorem pasevb_is (g n : Nat) (q : Rest) (w : World) (hD : Duo w g (.string q.1) (.bool q.2)) (hn : n ≤ 100) (hs : q.1.size ≤ 1000000) :
    Calls Try.prog 51 #[.int .i64 n, .func (.func 52) #[.pointer (some ⟨g, 0, none⟩)] #[]] w fun e w' => ∃ v, e = .returned v ∧ w'.ownsRow w.heap.size 48 2 v n (flatI (manyR pplace q n).1) ∧ Duo w' g (.string (manyR pplace q n).2.1) (.bool (manyR pplace q n).2.2) ∧ w.grownBy w' (some g) := by
  obtain ⟨i0, hi, hz0, hz1, hz2⟩ := info_parts infoBound18
  have hgl := hD.lt
  have HD := Lib.hid hD
  clear hD
  go_enter Try.func51, Try.ntmps51
  go_upto_region 3 with fail
  go_loopw [5, 7] (PaSevB g q n w) (fun _ i _ => n - (intOf i).toNat)
  case atStart => exact ⟨0, Nat.zero_le _, rfl, World.ownsRow_nil _ _ _ _, HD.out, World.grownBy.refl _ _⟩
  case round =>
    clear HD
    obtain ⟨k, hk, rfl, hO, hD, hG⟩ := hrel
    obtain ⟨av, cv, rfl⟩ := own_form hO
    have HO := Lib.hid hO; have HD := Lib.hid hD; have HG := Lib.hid hG
    have hsz := hG.size
    clear hO hD hG
    by_cases hlt : k < n
    · have hltI : (k : Int) < (n : Int) := by omega
      have hk0 : (0 : Int) ≤ (k : Int) := by omega
      have hq1 : (manyR pplace q k).2.1.size ≤ 1000000 := by have := (many_bd (P := fun _ => True) (fun r => ⟨trivial, (pplace_bd r).2⟩) q k).2; omega
      have HM1 : Hid ((manyR pplace q (k + 1)).1 = (manyR pplace q k).1 ++ [(pplace (manyR pplace q k).2).1]) := Lib.hid rfl
      have HM2 : Hid ((manyR pplace q (k + 1)).2 = (pplace (manyR pplace q k).2).2) := Lib.hid rfl
      generalize (manyR pplace q k).1 = L at *
      generalize (manyR pplace q k).2 = r at *
      have kt := fun W (h : Duo W g (.string r.1) (.bool r.2)) => pabound_is g r W h
      unfold ReadPost18 at kt
      obtain ⟨⟨t, r2⟩, ht⟩ : ∃ x, pplace r = x := ⟨_, rfl⟩
      rw [ht] at kt HM1 HM2
      dsimp only at kt HM1 HM2
      clear ht hq1
      obtain ⟨tc, tr⟩ := t
      have HNE : Hid (∀ (W : World) (h : W.ownsRow w.heap.size 48 2 (.slice av k cv) k (flatI L)), (Value.slice av k cv).ownBlock = none ∨ (Value.slice av k cv).ownBlock ≠ some g) := Lib.hid fun W h => own_ne_or h hgl
      go_wp2_with (first
        | (go_at_call 52; (with_reducible refine (kt _ HD.out).mono ?_); rintro e w2 ⟨rfl, hD2, hg2⟩; have HD2 := Lib.hid hD2; have HG2 := Lib.hid (grown_trans HG.out hg2); have HO2 := Lib.hid (HO.out.kept hg2 (HNE.out _ HO.out)); have hsz2 := HG2.out.size; clear hD2 hg2)
        | (at_builtin; refine wpList_append_own_at rfl _ _ 23 rfl w.heap.size 48 i0 (.agg #[.int .i64 0, .int .i64 0]) 2 16 Try.underlying23 hi hz0 hz1 hz2 rfl (by decide) _ _ _ rfl (HO2.out.alloc _) ⟨w2.heap.size, 0, none⟩ 1 1 [.int .i64 tc, .int .i64 tr] rfl rfl (two_src (by simp [go_sem]) (by simp [go_sem])) (by intro u hu; simp at hu; rcases hu with rfl | rfl <;> rfl) (by unfold maxLen; omega) (by omega) (by simp; omega) ?_; intro v3 w3 q1 q2 q3; obtain ⟨a3, c3, rfl⟩ := own_form q1; have HO3 := Lib.hid q1; have HG3 := Lib.hid (grown_over (grown_over HG2.out (World.grownBy_alloc _ _ none) (fun k h => by cases h)) q2 (fun j hj => own_ge HO2.out j hj)); have HD3 := Lib.hid ((HD2.out.keep ((Below.refl _ _).alloc (Nat.le_refl _) (.cells #[.int .i64 tc, .int .i64 tr] 48))).grown q2 (fun j hj e => by have := own_ge HO2.out j hj; omega)); clear q1 q2 q3))
      go_roundw
      case rel => exact ⟨k + 1, by omega, by go_num, by rw [HM1.out]; rw [show flatI (L ++ [(tc, tr)]) = flatI L ++ [.int .i64 tc, .int .i64 tr] by simp [flatI]]; exact HO3.out, by rw [HM2.out]; exact HD3.out, HG3.out⟩
      case measure => simp [intOf]; omega
    · obtain rfl : k = n := by omega
      go_wp2_with fail
      go_ret
      exact ⟨_, rfl, HO.out, HD.out, HG.out⟩
theorem size0_nil {s : ByteArray} (h : s.size = 0) : s = noText := by
  obtain ⟨d⟩ := s
  have : d.size = 0 := h
  simp [Array.size_eq_zero_iff.1 this]
theorem Five.set0 {W : World} {g : Nat} {v0 v1 v2 v3 v4 : Value} (h : Five W g v0 v1 v2 v3 v4) (x : Value) : Five (W.setCell ⟨g, 0, none⟩ x) g x v1 v2 v3 v4 := by
  obtain ⟨⟨c0, c1, c2, c3, c4⟩, f0, f1, f2, f3, f4⟩ := h
  simp [Five, go_sem, c0, c1, c2, c3, c4, f0, f1, f2, f3, f4]
/-- One that is read: the reader, the variable, the result's variable. -/
structure PaUp (w : World) (g gR gA : Nat) (q : Rest) (v0 v1 v2 v3 v4 : Value) (W : World) : Prop where
  gr : w.grownBy W (some g)
  rd : Duo W g (.string q.1) (.bool q.2)
  a : Five W gA v0 v1 v2 v3 v4
  r : Five W gR (.int .i64 0) (.int .i64 0) (.slice none 0 0) (.slice none 0 0) (.slice none 0 0)
structure PaB (w : World) (g gR gA : Nat) : Prop where
  b0 : g < w.heap.size
  b1 : w.heap.size ≤ gR
  b2 : gR < gA
section
variable {w W W' : World} {g gR gA : Nat} {q q' : Rest} {v0 v1 v2 v3 v4 : Value}
theorem PaUp.read (h : PaUp w g gR gA q v0 v1 v2 v3 v4 W) (hB : PaB w g gR gA) (hD : Duo W' g (.string q'.1) (.bool q'.2)) (hg : W.grownBy W' (some g)) : PaUp w g gR gA q' v0 v1 v2 v3 v4 W' := by
  obtain ⟨b0, b1, b2⟩ := hB
  exact ⟨grown_trans h.gr hg, hD, h.a.grown hg (fun k hk => by cases hk; omega), h.r.grown hg (fun k hk => by cases hk; omega)⟩
theorem PaUp.lt (h : PaUp w g gR gA q v0 v1 v2 v3 v4 W) : gA < W.heap.size := h.a.lt
theorem PaUp.set0 (h : PaUp w g gR gA q v0 v1 v2 v3 v4 W) (hB : PaB w g gR gA) (x : Value) : PaUp w g gR gA q x v1 v2 v3 v4 (W.setCell ⟨gA, 0, none⟩ x) := by
  obtain ⟨b0, b1, b2⟩ := hB
  exact ⟨grown_over h.gr (grown_set _ gA 0 _) (fun k hk => by cases hk; omega), h.rd.far (by omega) 0 _, h.a.set0 x, h.r.far (by omega) 0 x⟩
theorem PaUp.set1 (h : PaUp w g gR gA q v0 v1 v2 v3 v4 W) (hB : PaB w g gR gA) (x : Value) : PaUp w g gR gA q v0 x v2 v3 v4 (W.setCell ⟨gA, 1, none⟩ x) := by
  obtain ⟨b0, b1, b2⟩ := hB
  exact ⟨grown_over h.gr (grown_set _ gA 1 _) (fun k hk => by cases hk; omega), h.rd.far (by omega) 1 _, h.a.set1 x, h.r.far (by omega) 1 x⟩
theorem PaUp.set2 (h : PaUp w g gR gA q v0 v1 v2 v3 v4 W) (hB : PaB w g gR gA) (x : Value) : PaUp w g gR gA q v0 v1 x v3 v4 (W.setCell ⟨gA, 2, none⟩ x) := by
  obtain ⟨b0, b1, b2⟩ := hB
  exact ⟨grown_over h.gr (grown_set _ gA 2 _) (fun k hk => by cases hk; omega), h.rd.far (by omega) 2 _, h.a.set2 x, h.r.far (by omega) 2 x⟩
theorem PaUp.set3 (h : PaUp w g gR gA q v0 v1 v2 v3 v4 W) (hB : PaB w g gR gA) (x : Value) : PaUp w g gR gA q v0 v1 v2 x v4 (W.setCell ⟨gA, 3, none⟩ x) := by
  obtain ⟨b0, b1, b2⟩ := hB
  exact ⟨grown_over h.gr (grown_set _ gA 3 _) (fun k hk => by cases hk; omega), h.rd.far (by omega) 3 _, h.a.set3 x, h.r.far (by omega) 3 x⟩
theorem PaUp.set4 (h : PaUp w g gR gA q v0 v1 v2 v3 v4 W) (hB : PaB w g gR gA) (x : Value) : PaUp w g gR gA q v0 v1 v2 v3 x (W.setCell ⟨gA, 4, none⟩ x) := by
  obtain ⟨b0, b1, b2⟩ := hB
  exact ⟨grown_over h.gr (grown_set _ gA 4 _) (fun k hk => by cases hk; omega), h.rd.far (by omega) 4 _, h.a.set4 x, h.r.far (by omega) 4 x⟩
end
theorem AirP.val_is {c l : Int} {xs ys : List ByteArray} {zs : List (Int × Int)} {sa ra ba : Option Addr} {sc rc bc : Nat} : (⟨c, l, xs, ys, zs⟩ : AirP).val ⟨sa, sc, ra, rc, ba, bc⟩ = .agg #[.int .i64 c, .int .i64 l, .slice sa xs.length sc, .slice ra ys.length rc, .slice ba zs.length bc] := rfl
/-- Its lists lie in blocks from B on. -/
def FarP (B : Nat) (p : AirAt) : Prop := (∀ x, p.sa = some x → B ≤ x.block) ∧ (∀ x, p.ra = some x → B ≤ x.block) ∧ ∀ x, p.ba = some x → B ≤ x.block
theorem own_far {W : World} {B B' : Nat} {e : TypeId} {s n c : Nat} {a : Option Addr} {xs : List Value} (h : W.ownsRow B' e s (.slice a n c) n xs) (hB : B ≤ B') : ∀ x, a = some x → B ≤ x.block := fun x hx => by
  subst hx
  have := own_ge h x.block (by rcases h.2 with ⟨e, _⟩ | ⟨g, cap, cur, e, _⟩; (· cases e); (· simp only [Value.slice.injEq, Option.some.injEq] at e; obtain ⟨rfl, _⟩ := e; rfl))
  omega
theorem farP_own {W : World} {B B' : Nat} {xs ys zs : List Value} {sa ra ba : Option Addr} {n1 n2 n3 sc rc bc : Nat} {e1 e2 e3 : TypeId} {s1 s2 s3 : Nat} (h1 : W.ownsRow B' e1 s1 (.slice sa n1 sc) n1 xs) (h2 : W.ownsRow B' e2 s2 (.slice ra n2 rc) n2 ys) (h3 : W.ownsRow B' e3 s3 (.slice ba n3 bc) n3 zs) (hB : B ≤ B') : FarP B ⟨sa, sc, ra, rc, ba, bc⟩ :=
  ⟨own_far h1 hB, own_far h2 hB, own_far h3 hB⟩
theorem FarP.ne {B g : Nat} {p : AirAt} (h : FarP B p) (hg : g < B) : (∀ x, p.sa = some x → g ≠ x.block) ∧ (∀ x, p.ra = some x → g ≠ x.block) ∧ ∀ x, p.ba = some x → g ≠ x.block :=
  ⟨fun x hx => by have := h.1 x hx; omega, fun x hx => by have := h.2.1 x hx; omega, fun x hx => by have := h.2.2 x hx; omega⟩
set_option maxRecDepth 100000 in
set_option maxHeartbeats 8000000 in
theorem paair_is (g : Nat) (q : Rest) (w : World) (hD : Duo w g (.string q.1) (.bool q.2)) (hs : q.1.size ≤ 1000000) :
    Calls Try.prog 31 #[.pointer (some ⟨g, 0, none⟩)] w fun e w' => ∃ p, e = .returned ((pread q).1.val p) ∧ (AirA w' (pread q).1 p ∧ FarP w.heap.size p) ∧ Duo w' g (.string (pread q).2.1) (.bool (pread q).2.2) ∧ w.grownBy w' (some g) := by
  obtain ⟨n0, q0, h0⟩ : ∃ n r, pnum 8 q = (n, r) := ⟨_, _, rfl⟩
  have k0 := fun W h => panum_is g q 8 W h (by decide)
  have z0 := pnum_bd (m := 8) (by decide) q
  unfold ReadPost18 at k0
  rw [h0] at k0 z0
  dsimp only at k0 z0
  obtain ⟨n1, q1, h1⟩ : ∃ n r, pnum 10 q0 = (n, r) := ⟨_, _, rfl⟩
  have k1 := fun W h => panum_is g q0 10 W h (by decide)
  have z1 := pnum_bd (m := 10) (by decide) q0
  unfold ReadPost18 at k1
  rw [h1] at k1 z1
  dsimp only at k1 z1
  obtain ⟨n2, q2, h2⟩ : ∃ n r, pnum 8 q1 = (n, r) := ⟨_, _, rfl⟩
  have k2 := fun W h => panum_is g q1 8 W h (by decide)
  have z2 := pnum_bd (m := 8) (by decide) q1
  unfold ReadPost18 at k2
  rw [h2] at k2 z2
  dsimp only at k2 z2
  obtain ⟨n3, q3, h3⟩ : ∃ n r, pnum 16 q2 = (n, r) := ⟨_, _, rfl⟩
  have k3 := fun W h => panum_is g q2 16 W h (by decide)
  have z3 := pnum_bd (m := 16) (by decide) q2
  unfold ReadPost18 at k3
  rw [h3] at k3 z3
  dsimp only at k3 z3
  obtain ⟨n4, q4, h4⟩ : ∃ n r, pnum 16 q3 = (n, r) := ⟨_, _, rfl⟩
  have k4 := fun W h => panum_is g q3 16 W h (by decide)
  have z4 := pnum_bd (m := 16) (by decide) q3
  unfold ReadPost18 at k4
  rw [h4] at k4 z4
  dsimp only at k4 z4
  have HH : Hid (phead q = (⟨n0, n1, n2, n3, n4⟩, q4)) := Lib.hid (by unfold phead; rw [h0]; dsimp only; rw [h1]; dsimp only; rw [h2]; dsimp only; rw [h3]; dsimp only; rw [h4])
  have hs4 : q4.1.size ≤ 1000000 := by omega
  obtain ⟨m2, rfl⟩ := Int.eq_ofNat_of_zero_le z2.1
  obtain ⟨m3, rfl⟩ := Int.eq_ofNat_of_zero_le z3.1
  obtain ⟨m4, rfl⟩ := Int.eq_ofNat_of_zero_le z4.1
  have y2 : m2 ≤ 8 := by omega
  have y3 : m3 ≤ 16 := by omega
  have y4 : m4 ≤ 16 := by omega
  clear h0 h1 h2 h3 h4 z0 z1 z2 z3 z4
  obtain ⟨xs, q5, h5⟩ : ∃ n r, manyR ptext q4 m2 = (n, r) := ⟨_, _, rfl⟩
  have k5 := fun W h => pasevs_is g m2 q4 W h (by omega) hs4
  have z5 := many_bd (P := fun _ => True) (fun r => ⟨trivial, (ptext_bd r).2⟩) q4 m2
  have e5 := manyR_len ptext q4 m2
  rw [h5] at k5 z5 e5
  dsimp only at k5 z5 e5
  obtain ⟨ys, q6, h6⟩ : ∃ n r, manyR ptext q5 m3 = (n, r) := ⟨_, _, rfl⟩
  have k6 := fun W h => pasevs_is g m3 q5 W h (by omega) (by omega)
  have z6 := many_bd (P := fun _ => True) (fun r => ⟨trivial, (ptext_bd r).2⟩) q5 m3
  have e6 := manyR_len ptext q5 m3
  rw [h6] at k6 z6 e6
  dsimp only at k6 z6 e6
  obtain ⟨zs, q7, h7⟩ : ∃ n r, manyR pplace q6 m4 = (n, r) := ⟨_, _, rfl⟩
  have k7 := fun W h => pasevb_is g m4 q6 W h (by omega) (by omega)
  have e7 := manyR_len pplace q6 m4
  rw [h7] at k7 e7
  dsimp only at k7 e7
  have HP : Hid (pread q = (⟨n0, n1, xs, ys, zs⟩, q7)) := Lib.hid (by unfold pread; rw [HH.out]; dsimp only [Int.toNat_natCast]; rw [h5]; dsimp only; rw [h6]; dsimp only; rw [h7])
  clear h5 h6 h7 z5 z6 HH hs4
  subst e5 e6 e7
  have HB0 : Hid (PaB w g w.heap.size (w.heap.size + 1)) := Lib.hid ⟨hD.lt, Nat.le_refl _, by omega⟩
  have HU0 : Hid (PaUp w g w.heap.size (w.heap.size + 1) q (.int .i64 0) (.int .i64 0) (.slice none 0 0) (.slice none 0 0) (.slice none 0 0) ((w.alloc (.cells #[.int .i64 0, .int .i64 0, .slice none 0 0, .slice none 0 0, .slice none 0 0] 25)).alloc (.cells #[.int .i64 0, .int .i64 0, .slice none 0 0, .slice none 0 0, .slice none 0 0] 25))) := Lib.hid
    ⟨grown_over (World.grownBy_alloc _ _ _) (World.grownBy_alloc _ _ none) (fun k h => by cases h), (hD.keep ((Below.refl _ _).alloc (Nat.le_refl _) _)).keep ((Below.refl _ _).alloc (Nat.le_refl _) _), by have := Five.new (v0 := .int .i64 0) (v1 := .int .i64 0) (v2 := .slice none 0 0) (v3 := .slice none 0 0) (v4 := .slice none 0 0) (w.alloc (.cells #[.int .i64 0, .int .i64 0, .slice none 0 0, .slice none 0 0, .slice none 0 0] 25)) 25; simpa using this, (Five.new w _).keep ((Below.refl _ _).alloc (Nat.le_refl _) _)⟩
  clear hD hs
  go_enter Try.func31, Try.ntmps31
  go_upto_region 2 with fail
  refine wp_gen (fun W => PaUp w g w.heap.size (w.heap.size + 1) q (.int .i64 0) (.int .i64 0) (.slice none 0 0) (.slice none 0 0) (.slice none 0 0) W) HU0.out ?_
  obtain ⟨gR, hgR⟩ : ∃ x, w.heap.size = x := ⟨_, rfl⟩
  obtain ⟨gA, hgA⟩ : ∃ x, gR + 1 = x := ⟨_, rfl⟩
  have HX := Lib.hid hgR
  rw [hgR, hgA] at HB0
  simp only [hgR, hgA]
  clear HU0 hgA hgR
  intro W0 hU0
  have HU0 := Lib.hid hU0
  clear hU0
  go_upto_region 3 with (go_at_call 48; (with_reducible refine (k0 _ HU0.out.rd).mono ?_); rintro e w2 ⟨rfl, hD2, hg⟩; have HV := Lib.hid (HU0.out.read (q' := q0) HB0.out hD2 hg); obtain ⟨⟨a0, a1, a2, a3, a4⟩, b0, b1, b2, b3, b4⟩ := HV.out.a; clear hD2 hg)
  refine wp_gen (fun W => PaUp w g gR gA q0 (.int .i64 n0) (.int .i64 0) (.slice none 0 0) (.slice none 0 0) (.slice none 0 0) W) (HV.out.set0 HB0.out _) ?_
  clear a0 a1 a2 a3 a4 b0 b1 b2 b3 b4 HV HU0 k0
  intro W1 hU1
  have HU1 := Lib.hid hU1
  clear hU1
  go_upto_region 4 with (go_at_call 48; (with_reducible refine (k1 _ HU1.out.rd).mono ?_); rintro e w2 ⟨rfl, hD2, hg⟩; have HV := Lib.hid (HU1.out.read (q' := q1) HB0.out hD2 hg); obtain ⟨⟨a0, a1, a2, a3, a4⟩, b0, b1, b2, b3, b4⟩ := HV.out.a; clear hD2 hg)
  refine wp_gen (fun W => PaUp w g gR gA q1 (.int .i64 n0) (.int .i64 n1) (.slice none 0 0) (.slice none 0 0) (.slice none 0 0) W) (HV.out.set1 HB0.out _) ?_
  clear a0 a1 a2 a3 a4 b0 b1 b2 b3 b4 HV HU1 k1
  intro W2 hU2
  have HU2 := Lib.hid hU2
  clear hU2
  go_upto_region 5 with (go_at_call 48; (with_reducible refine (k2 _ HU2.out.rd).mono ?_); rintro e w2 ⟨rfl, hD2, hg⟩; have HV := Lib.hid (HU2.out.read (q' := q2) HB0.out hD2 hg); obtain ⟨⟨a0, a1, a2, a3, a4⟩, b0, b1, b2, b3, b4⟩ := HV.out.a; clear hD2 hg)
  refine wp_gen (fun W => PaUp w g gR gA q2 (.int .i64 n0) (.int .i64 n1) (.slice none 0 0) (.slice none 0 0) (.slice none 0 0) W) HV.out ?_
  clear a0 a1 a2 a3 a4 b0 b1 b2 b3 b4 HV HU2 k2
  intro W3 hU3
  have HU3 := Lib.hid hU3
  clear hU3
  go_upto_region 6 with (go_at_call 48; (with_reducible refine (k3 _ HU3.out.rd).mono ?_); rintro e w2 ⟨rfl, hD2, hg⟩; have HV := Lib.hid (HU3.out.read (q' := q3) HB0.out hD2 hg); obtain ⟨⟨a0, a1, a2, a3, a4⟩, b0, b1, b2, b3, b4⟩ := HV.out.a; clear hD2 hg)
  refine wp_gen (fun W => PaUp w g gR gA q3 (.int .i64 n0) (.int .i64 n1) (.slice none 0 0) (.slice none 0 0) (.slice none 0 0) W) HV.out ?_
  clear a0 a1 a2 a3 a4 b0 b1 b2 b3 b4 HV HU3 k3
  intro W4 hU4
  have HU4 := Lib.hid hU4
  clear hU4
  go_upto_region 7 with (go_at_call 48; (with_reducible refine (k4 _ HU4.out.rd).mono ?_); rintro e w2 ⟨rfl, hD2, hg⟩; have HV := Lib.hid (HU4.out.read (q' := q4) HB0.out hD2 hg); obtain ⟨⟨a0, a1, a2, a3, a4⟩, b0, b1, b2, b3, b4⟩ := HV.out.a; clear hD2 hg)
  refine wp_gen (fun W => PaUp w g gR gA q4 (.int .i64 n0) (.int .i64 n1) (.slice none 0 0) (.slice none 0 0) (.slice none 0 0) W) HV.out ?_
  clear a0 a1 a2 a3 a4 b0 b1 b2 b3 b4 HV HU4 k4
  intro W5 hU5
  have HU5 := Lib.hid hU5
  clear hU5
  go_upto_region 8 with (go_at_call 49; (with_reducible refine (k5 _ HU5.out.rd).mono ?_); rintro e w2 ⟨v, rfl, ho, hD2, hg⟩; obtain ⟨sa, sc, rfl⟩ := own_form ho; have HV := Lib.hid (HU5.out.read (q' := q5) HB0.out hD2 hg); obtain ⟨⟨a0, a1, a2, a3, a4⟩, b0, b1, b2, b3, b4⟩ := HV.out.a; have HN := Lib.hid (own_mono' (B := gA + 1) ho (by have := HU5.out.lt; omega)); clear hD2 hg ho)
  refine wp_gen (fun W => PaUp w g gR gA q5 (.int .i64 n0) (.int .i64 n1) (.slice sa xs.length sc) (.slice none 0 0) (.slice none 0 0) W ∧ W.ownsRow (gA + 1) 9 1 (.slice sa xs.length sc) xs.length (strsV xs)) ⟨HV.out.set2 HB0.out _, own_set HN.out (by omega)⟩ ?_
  clear a0 a1 a2 a3 a4 b0 b1 b2 b3 b4 HV HN HU5 k5
  rintro W6 ⟨hU, r0⟩
  have HU6 := Lib.hid hU
  have HR0 := Lib.hid r0
  clear hU r0
  go_upto_region 9 with (go_at_call 49; (with_reducible refine (k6 _ HU6.out.rd).mono ?_); rintro e w2 ⟨v, rfl, ho, hD2, hg⟩; obtain ⟨ra, rc, rfl⟩ := own_form ho; have HV := Lib.hid (HU6.out.read (q' := q6) HB0.out hD2 hg); obtain ⟨⟨a0, a1, a2, a3, a4⟩, b0, b1, b2, b3, b4⟩ := HV.out.a; have HN := Lib.hid (own_mono' (B := gA + 1) ho (by have := HU6.out.lt; omega)); have HR0' := Lib.hid (HR0.out.kept hg (own_ne_or HR0.out (by have := HB0.out.b0; have := HB0.out.b1; have := HB0.out.b2; omega))); clear hD2 hg ho)
  refine wp_gen (fun W => PaUp w g gR gA q6 (.int .i64 n0) (.int .i64 n1) (.slice sa xs.length sc) (.slice ra ys.length rc) (.slice none 0 0) W ∧ W.ownsRow (gA + 1) 9 1 (.slice sa xs.length sc) xs.length (strsV xs) ∧ W.ownsRow (gA + 1) 9 1 (.slice ra ys.length rc) ys.length (strsV ys)) ⟨HV.out.set3 HB0.out _, own_set HR0'.out (by omega), own_set HN.out (by omega)⟩ ?_
  clear a0 a1 a2 a3 a4 b0 b1 b2 b3 b4 HV HN HU6 k6 HR0 HR0'
  rintro W7 ⟨hU, r0, r1⟩
  have HU7 := Lib.hid hU
  have HR0 := Lib.hid r0
  have HR1 := Lib.hid r1
  clear hU r0 r1
  go_upto_region 10 with (go_at_call 51; (with_reducible refine (k7 _ HU7.out.rd).mono ?_); rintro e w2 ⟨v, rfl, ho, hD2, hg⟩; obtain ⟨ba, bc, rfl⟩ := own_form ho; have HV := Lib.hid (HU7.out.read (q' := q7) HB0.out hD2 hg); obtain ⟨⟨a0, a1, a2, a3, a4⟩, b0, b1, b2, b3, b4⟩ := HV.out.a; have HN := Lib.hid (own_mono' (B := gA + 1) ho (by have := HU7.out.lt; omega)); have HR0' := Lib.hid (HR0.out.kept hg (own_ne_or HR0.out (by have := HB0.out.b0; have := HB0.out.b1; have := HB0.out.b2; omega))); have HR1' := Lib.hid (HR1.out.kept hg (own_ne_or HR1.out (by have := HB0.out.b0; have := HB0.out.b1; have := HB0.out.b2; omega))); clear hD2 hg ho)
  refine wp_gen (fun W => PaUp w g gR gA q7 (.int .i64 n0) (.int .i64 n1) (.slice sa xs.length sc) (.slice ra ys.length rc) (.slice ba zs.length bc) W ∧ W.ownsRow (gA + 1) 9 1 (.slice sa xs.length sc) xs.length (strsV xs) ∧ W.ownsRow (gA + 1) 9 1 (.slice ra ys.length rc) ys.length (strsV ys) ∧ W.ownsRow (gA + 1) 48 2 (.slice ba zs.length bc) zs.length (flatI zs)) ⟨HV.out.set4 HB0.out _, own_set HR0'.out (by omega), own_set HR1'.out (by omega), own_set HN.out (by omega)⟩ ?_
  clear a0 a1 a2 a3 a4 b0 b1 b2 b3 b4 HV HN HU7 k7 HR0 HR0' HR1 HR1'
  rintro W8 ⟨hU, r0, r1, r2⟩
  have HU8 := Lib.hid hU
  have HR0 := Lib.hid r0
  have HR1 := Lib.hid r1
  have HR2 := Lib.hid r2
  clear hU r0 r1 r2
  obtain ⟨⟨a0, a1, a2, a3, a4⟩, b0, b1, b2, b3, b4⟩ := HU8.out.a
  obtain ⟨⟨c0, c1, c2, c3, c4⟩, d0, d1, d2, d3, d4⟩ := HU8.out.r
  have HG : Hid (gR < gA + 1) := Lib.hid (by have := HB0.out.b2; omega)
  have HNG : Hid (gR ≠ g) := Lib.hid (by have := HB0.out.b0; have := HB0.out.b1; omega)
  have HWR : Hid (w.heap.size ≤ gR) := Lib.hid HB0.out.b1
  go_wp2_with fail
  refine bodyPost_ret (v := .agg #[.int .i64 n0, .int .i64 n1, .slice sa xs.length sc, .slice ra ys.length rc, .slice ba zs.length bc]) (by simp [results, Try.results31, go_sem, c0, c1, c2, c3, c4]) rfl ⟨⟨sa, sc, ra, rc, ba, bc⟩, by rw [HP.out], ?_, ?_, ?_⟩
  · rw [HP.out]; exact ⟨airA_own (own_set5 HR0.out HG.out) (own_set5 HR1.out HG.out) (own_set5 HR2.out HG.out), farP_own HR0.out HR1.out HR2.out (by have := HB0.out.b1; have := HB0.out.b2; omega)⟩
  · rw [HP.out]; exact ((((HU8.out.rd.far HNG.out 0 _).far HNG.out 1 _).far HNG.out 2 _).far HNG.out 3 _).far HNG.out 4 _
  · have s := fun (V : World) (o : Nat) (x : Value) (h : w.grownBy V (some g)) => grown_over h (grown_set V gR o x) (fun k hk => by cases hk; exact HWR.out)
    exact s _ 4 _ (s _ 3 _ (s _ 2 _ (s _ 1 _ (s _ 0 _ HU8.out.gr))))
/-! ### Parse -/
theorem pread_ok (q : Rest) : OkAir (pread q).1 ∧ FewAir (pread q).1 := by
  have b1 := pnum_bd (m := 8) (by decide) q
  obtain ⟨⟨n0, q0⟩, h0⟩ : ∃ x, pnum 8 q = x := ⟨_, rfl⟩
  have b2 := pnum_bd (m := 10) (by decide) q0
  obtain ⟨⟨n1, q1⟩, h1⟩ : ∃ x, pnum 10 q0 = x := ⟨_, rfl⟩
  have b3 := pnum_bd (m := 8) (by decide) q1
  obtain ⟨⟨n2, q2⟩, h2⟩ : ∃ x, pnum 8 q1 = x := ⟨_, rfl⟩
  have b4 := pnum_bd (m := 16) (by decide) q2
  obtain ⟨⟨n3, q3⟩, h3⟩ : ∃ x, pnum 16 q2 = x := ⟨_, rfl⟩
  have b5 := pnum_bd (m := 16) (by decide) q3
  obtain ⟨⟨n4, q4⟩, h4⟩ : ∃ x, pnum 16 q3 = x := ⟨_, rfl⟩
  have HH : phead q = (⟨n0, n1, n2, n3, n4⟩, q4) := by unfold phead; rw [h0]; dsimp only; rw [h1]; dsimp only; rw [h2]; dsimp only; rw [h3]; dsimp only; rw [h4]
  rw [h0] at b1; rw [h1] at b2; rw [h2] at b3; rw [h3] at b4; rw [h4] at b5
  dsimp only at b1 b2 b3 b4 b5
  have t1 := many_bd (f := ptext) (P := fun t => t.size ≤ 4096) ptext_bd q4 n2.toNat
  have t2 := many_bd (f := ptext) (P := fun t => t.size ≤ 4096) ptext_bd (manyR ptext q4 n2.toNat).2 n3.toNat
  have t3 := many_bd (f := pplace) (P := fun b => (0 ≤ b.1 ∧ b.1 ≤ 8) ∧ 0 ≤ b.2 ∧ b.2 ≤ 1024) pplace_bd (manyR ptext (manyR ptext q4 n2.toNat).2 n3.toNat).2 n4.toNat
  have l1 := manyR_len ptext q4 n2.toNat
  have l2 := manyR_len ptext (manyR ptext q4 n2.toNat).2 n3.toNat
  have l3 := manyR_len pplace (manyR ptext (manyR ptext q4 n2.toNat).2 n3.toNat).2 n4.toNat
  have HP : (pread q).1 = ⟨n0, n1, (manyR ptext q4 n2.toNat).1, (manyR ptext (manyR ptext q4 n2.toNat).2 n3.toNat).1, (manyR pplace (manyR ptext (manyR ptext q4 n2.toNat).2 n3.toNat).2 n4.toNat).1⟩ := by unfold pread; rw [HH]
  rw [HP]
  refine ⟨⟨by show _ ≤ n0 ∧ n0 ≤ _; omega, by show _ ≤ n1 ∧ n1 ≤ _; omega, fun t ht => ?_, fun t ht => ?_, fun b hb => ?_⟩, ?_, ?_, ?_⟩
  · have := t1.1 t ht; omega
  · have := t2.1 t ht; omega
  · have := t3.1 b hb; omega
  · show (manyR ptext q4 n2.toNat).1.length ≤ 40; omega
  · show (manyR ptext (manyR ptext q4 n2.toNat).2 n3.toNat).1.length ≤ 40; omega
  · show (manyR pplace (manyR ptext (manyR ptext q4 n2.toNat).2 n3.toNat).2 n4.toNat).1.length ≤ 40; omega
set_option maxRecDepth 100000 in
set_option maxHeartbeats 8000000 in
theorem paparse_is (s : ByteArray) (A : AirP) (r : Int) (w : World) (hs : s.size ≤ 100000) (hr : parseA s = (A, r)) : Calls Try.prog 21 #[.string s] w (AirPost w A r) := by
  rw [pread_parse] at hr
  have ka := fun g W h => paair_is g (s, false) W h (by show s.size ≤ 1000000; omega)
  obtain ⟨hok, hfew⟩ := pread_ok (s, false)
  obtain ⟨ck, hck⟩ : ∃ c, (pread (s, false)).1.check = c := ⟨_, rfl⟩
  have kc := fun p W h => pacheck_is (pread (s, false)).1 p ck W h hok hfew hck
  have HR := Lib.hid hr
  rw [hck] at HR
  obtain ⟨⟨Z, rest, bad⟩, hp⟩ : ∃ x, pread (s, false) = x := ⟨_, rfl⟩
  rw [hp] at HR ka kc
  dsimp only at HR ka kc
  clear hr hck hok hfew hp
  go_enter Try.func21, Try.ntmps21
  go_upto_region 2 with fail
  refine wp_gen (fun W => Below w.heap.size w W ∧ Five W w.heap.size (.int .i64 0) (.int .i64 0) (.slice none 0 0) (.slice none 0 0) (.slice none 0 0) ∧ Duo W (w.heap.size + 1) (.string s) (.bool false)) ⟨by first | exact ((Below.refl _ _).alloc (Nat.le_refl _) _).alloc (by simp) _ | exact (((Below.refl _ _).alloc (Nat.le_refl _) _).alloc (by simp) _).setCell (by simp) _ | exact ((((Below.refl _ _).alloc (Nat.le_refl _) _).alloc (by simp) _).setCell (by simp) _).setCell (by simp) _, by simp [Five, go_sem], by simp [Duo, go_sem]⟩ ?_
  obtain ⟨gr, hgr⟩ : ∃ x, w.heap.size = x := ⟨_, rfl⟩
  obtain ⟨gd, hgd⟩ : ∃ x, gr + 1 = x := ⟨_, rfl⟩
  have HGR : Hid (w.heap.size ≤ gr) := Lib.hid (by omega)
  have HGD : Hid (gr < gd) := Lib.hid (by omega)
  simp only [hgr, hgd]
  clear hgd
  rintro W1 ⟨hB, hF, hD⟩
  rw [← hgr] at hB
  have HB1 := Lib.hid hB; have HF1 := Lib.hid hF; have HD1 := Lib.hid hD
  clear hB hF hD hgr
  go_upto_region 3 with (go_at_call 31; (with_reducible refine (ka _ _ HD1.out).mono ?_); rintro E w2 ⟨p, rfl, ⟨hA, hfar⟩, hD, hg⟩; have HFR := Lib.hid (hfar.ne (show gr < W1.heap.size from HF1.out.lt)); have HA2 := Lib.hid hA; clear hfar; have HD2 := Lib.hid hD; have HF2 := Lib.hid (HF1.out.grown hg (fun k hk => by cases hk; have := HGD.out; omega)); have HB2 := Lib.hid (HB1.out.grown hg HB1.out.size (fun k hk => by cases hk; have := HGR.out; have := HGD.out; omega)); clear hA hD hg)
  have HLT2 := Lib.hid HF2.out.lt
  refine wp_gen (fun W => Below w.heap.size w W ∧ Five W gr (.int .i64 0) (.int .i64 0) (.slice none 0 0) (.slice none 0 0) (.slice none 0 0) ∧ Duo W gd (.string rest) (.bool bad) ∧ AirC W w2.heap.size Z p ∧ AirA W Z p) ⟨by first | exact HB2.out.alloc HB2.out.size _ | exact (((((HB2.out.alloc HB2.out.size _).setCell HB2.out.size _).setCell HB2.out.size _).setCell HB2.out.size _).setCell HB2.out.size _).setCell HB2.out.size _, by first | exact HF2.out.keep ((Below.refl _ _).alloc (Nat.le_refl _) _) | exact HF2.out.keep ((((((Below.refl _ _).alloc (Nat.le_refl _) _).setCell (Nat.le_refl _) _).setCell (Nat.le_refl _) _).setCell (Nat.le_refl _) _).setCell (Nat.le_refl _) _), by first | exact HD2.out.keep ((Below.refl _ _).alloc (Nat.le_refl _) _) | exact HD2.out.keep ((((((Below.refl _ _).alloc (Nat.le_refl _) _).setCell (Nat.le_refl _) _).setCell (Nat.le_refl _) _).setCell (Nat.le_refl _) _).setCell (Nat.le_refl _) _), by simp [AirC, go_sem], by first | exact HA2.out.keep ((Below.refl _ _).alloc (Nat.le_refl _) _) | exact HA2.out.keep ((((((Below.refl _ _).alloc (Nat.le_refl _) _).setCell (Nat.le_refl _) _).setCell (Nat.le_refl _) _).setCell (Nat.le_refl _) _).setCell (Nat.le_refl _) _)⟩ ?_
  obtain ⟨g5, hg5⟩ : ∃ x, w2.heap.size = x := ⟨_, rfl⟩
  simp only [hg5]
  rintro W3 ⟨hB, hF, hD, hC, hA⟩
  have HB3 := Lib.hid hB; have HF3 := Lib.hid hF; have HD3 := Lib.hid hD; have HC3 := Lib.hid hC; have HA3 := Lib.hid hA
  clear hB hF hD hC hA hg5 HB1 HF1 HD1 HA2 HD2 HF2 HB2 HLT2 ka
  obtain ⟨⟨c0, c1, c2, c3, c4⟩, d0, d1, d2, d3, d4⟩ := HF3.out
  obtain ⟨e0, e1, _, _⟩ := HD3.out
  have FIN : Hid (∀ (V : World) (x0 x1 x2 x3 x4 : Value), Below w.heap.size w V → Below w.heap.size w (((((V.setCell ⟨gr, 0, none⟩ x0).setCell ⟨gr, 1, none⟩ x1).setCell ⟨gr, 2, none⟩ x2).setCell ⟨gr, 3, none⟩ x3).setCell ⟨gr, 4, none⟩ x4)) := Lib.hid fun V x0 x1 x2 x3 x4 h => ((((h.setCell HGR.out _).setCell HGR.out _).setCell HGR.out _).setCell HGR.out _).setCell HGR.out _
  by_cases hz : bad = true ∨ rest.size ≠ 0
  · obtain ⟨rfl, rfl⟩ := Prod.mk.inj ((if_pos hz).symm.trans HR.out)
    have HERR : Hid (∀ V : World, AirPost w airZ 2 (.returned (.tuple #[.agg #[.int .i64 0, .int .i64 0, .slice none 0 0, .slice none 0 0, .slice none 0 0], .int .i64 2])) V ↔ Below w.heap.size w V) := Lib.hid fun V => ⟨fun h => h.1, fun h => ⟨h, ⟨none, 0, none, 0, none, 0⟩, rfl, airA_nil _⟩⟩
    clear HR kc
    cases bad with
    | true =>
      clear hz
      go_wp2_with fail
      exact bodyPost_ret (v := .tuple #[.agg #[.int .i64 0, .int .i64 0, .slice none 0 0, .slice none 0 0, .slice none 0 0], .int .i64 2]) (by simp [results, Try.results21, go_sem, c0, c1, c2, c3, c4]) rfl ((HERR.out _).2 (FIN.out _ _ _ _ _ _ HB3.out))
    | false =>
      have hie := some_text (hz.resolve_left (by decide))
      clear hz
      go_wp2_with fail
      exact bodyPost_ret (v := .tuple #[.agg #[.int .i64 0, .int .i64 0, .slice none 0 0, .slice none 0 0, .slice none 0 0], .int .i64 2]) (by simp [results, Try.results21, go_sem, c0, c1, c2, c3, c4]) rfl ((HERR.out _).2 (FIN.out _ _ _ _ _ _ HB3.out))
  · have HR2 := Lib.hid ((if_neg hz).symm.trans HR.out)
    obtain ⟨hb, h0⟩ := not_or.1 hz
    obtain rfl : bad = false := by simpa using hb
    obtain rfl : rest = noText := size0_nil (by omega)
    clear hz hb h0 HR
    obtain ⟨x0, x1, x2, x3, x4⟩ := HC3.out
    have hie := empty_text
    go_upto_region 6 with (go_at_call 10; (with_reducible refine (kc p _ HA3.out).mono ?_); rintro E w4 ⟨rfl, hb⟩; have HB4 := Lib.hid (bthen HB3.out hb); have HF4 := Lib.hid (HF3.out.keep hb); have HC4 := Lib.hid (HC3.out.keep hb); have HA4 := Lib.hid (HA3.out.keep hb); clear hb)
    have hlt4 := HF4.out.lt
    clear c0 c1 c2 c3 c4 d0 d1 d2 d3 d4 e0 e1 x0 x1 x2 x3 x4 HF3 HC3 HA3 HB3 kc
    obtain ⟨⟨c0, c1, c2, c3, c4⟩, d0, d1, d2, d3, d4⟩ := HF4.out
    obtain ⟨x0, x1, x2, x3, x4⟩ := HC4.out
    by_cases hc0 : ck = 0
    · subst hc0
      obtain ⟨rfl, rfl⟩ := Prod.mk.inj ((if_neg (by decide)).symm.trans HR2.out)
      have HFIN : Hid (∀ x0 x1 x2 x3 x4 : Value, AirA (((((w4.setCell ⟨gr, 0, none⟩ x0).setCell ⟨gr, 1, none⟩ x1).setCell ⟨gr, 2, none⟩ x2).setCell ⟨gr, 3, none⟩ x3).setCell ⟨gr, 4, none⟩ x4) Z p) := Lib.hid fun x0 x1 x2 x3 x4 => by
        obtain ⟨f0, f1, f2⟩ := HFR.out
        exact ((((HA4.out.far f0 f1 f2).far f0 f1 f2).far f0 f1 f2).far f0 f1 f2).far f0 f1 f2
      clear HR2
      go_wp2_with fail
      exact bodyPost_ret (v := .tuple #[Z.val p, .int .i64 0]) (by simp [results, Try.results21, go_sem, c0, c1, c2, c3, c4]) rfl ⟨FIN.out _ _ _ _ _ _ HB4.out, p, rfl, HFIN.out _ _ _ _ _⟩
    · obtain ⟨rfl, rfl⟩ := Prod.mk.inj ((if_pos hc0).symm.trans HR2.out)
      clear HR2
      go_wp2_with fail
      exact bodyPost_ret (v := .tuple #[.agg #[.int .i64 0, .int .i64 0, .slice none 0 0, .slice none 0 0, .slice none 0 0], .int .i64 ck]) (by simp [results, Try.results21, go_sem, c0, c1, c2, c3, c4]) rfl ⟨FIN.out _ _ _ _ _ _ HB4.out, ⟨none, 0, none, 0, none, 0⟩, rfl, airA_nil _⟩
end Go.Proofs.Ytckipfcjgmiacaa
namespace Go.Proofs.Ytckipfcjgmiacaa
open Go Go.RowKit
set_option linter.unusedVariables false

theorem ask18 : AskAir (fun _ => True) where
  keep := fun _ _ => trivial
  size := fun A p W _ _ hn _ => pasize_is A p W hn
  rules := fun A p ls r W hA hk hf hr _ => parules_pub A p ls r W hA hk hf hr
  check := fun A p r W hA hk hf hr _ => pacheck_is A p r W hA hk hf hr
  degree := fun A p W hA hk hf hc _ => padegree_is A p W hA hk hf hc
  parts := fun A p W hA hk hf hc _ => paparts_is A p W hA hk hf hc
  print := fun A p W hA _ _ hc _ => paprint_is A p W hA hc
  parse := fun s A r W hs hr _ => paparse_is s A r W hs hr
end Go.Proofs.Ytckipfcjgmiacaa
