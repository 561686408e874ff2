/-
  The body of CountHonest, where the program's calls do what is asked of them. (Written by gen_clhonest.py.)
-/
import Derived.Test.YthfkfgjhgicfeaaDoorCountW
import Derived.Test.YthfkfgjhgicfeaaDoorCountAw
import Derived.Test.YthfkfgjhgicfeaaDoorCNDown
import Derived.Test.YthfkfgjhgicfeaaDoorGChain
import Derived.BigQuiet
namespace Go.Proofs.YthfkfgjhgicfeaaDoor
open Go Go.RowKit Go.Sort Go.BigFrame
set_option linter.unusedVariables false

/-- What a polynomial's word tells. -/
structure HonC (z ys : QL) (k BL : Nat) : Prop where
  acc : acceptsV (k : Int) (BL : Int) (ys.length : Int) ys (wordsV (forthQ z (shiftF 0) (k + BL)) ys) (nrmQ (chZ z ys k ys.length)) = 2 ^ (k + BL - 1)
  agr : agreeV (forthQ z (shiftF 0) (k + BL)) 0 (z.map toQ) false = 2 ^ (k + BL)
  bst : bestV (forthQ z (shiftF 0) (k + BL)) 0 ((2 ^ k : Nat) : Int) true = 2 ^ (k + BL - 1)
  len : (wordsV (forthQ z (shiftF 0) (k + BL)) ys).length ≤ 1000
  usr : UsT (wordsV (forthQ z (shiftF 0) (k + BL)) ys)
  lenr : ∀ r ∈ wordsV (forthQ z (shiftF 0) (k + BL)) ys, r.length ≤ 4294967296
theorem honC_all (z ys : QL) (k BL : Nat) (hz : z.length = 2 ^ k) (hk : k ≤ 2) (hb1 : 1 ≤ BL) (hb : BL ≤ 2) (hy : ys.length ≤ k) : HonC z ys k BL := by
  have hD := chain_down z ys k (k + BL) hz (by omega) (by omega)
  have hW : wordsV (forthQ z (shiftF 0) (k + BL)) ys = (chRows (forthQ z (shiftF 0) (k + BL)) ys ys.length).take (max 1 ys.length) := wordsV_yes ((hD _ hy).2)
  have hl : (wordsV (forthQ z (shiftF 0) (k + BL)) ys).length = max 1 ys.length := by rw [hW, List.length_take, chRows_len]; omega
  have hat : ∀ r ∈ wordsV (forthQ z (shiftF 0) (k + BL)) ys, UsR r ∧ r.length ≤ 4294967296 := fun r hr => by
    obtain ⟨j, hj, rfl⟩ := List.mem_iff_getElem.1 hr
    rw [hl] at hj
    have e : (wordsV (forthQ z (shiftF 0) (k + BL)) ys)[j] = chW (forthQ z (shiftF 0) (k + BL)) ys j := by
      rw [show (wordsV (forthQ z (shiftF 0) (k + BL)) ys)[j] = (wordsV (forthQ z (shiftF 0) (k + BL)) ys).getD j [] by simp [List.getD, hl, hj], hW, show ((chRows (forthQ z (shiftF 0) (k + BL)) ys ys.length).take (max 1 ys.length)).getD j [] = (chRows (forthQ z (shiftF 0) (k + BL)) ys ys.length).getD j [] by simp only [List.getD, List.getElem?_take_of_lt hj], chRows_at _ _ (by omega)]
    rw [e, (hD j (by omega)).1]
    refine ⟨joinL_U _ _, ?_⟩
    rw [forthQ_len]
    exact Nat.le_trans (Nat.pow_le_pow_right (by decide) (show k + BL - j ≤ 4 by omega)) (by decide)
  exact ⟨honest_accepts z ys k BL hz (by omega) hb1 (by omega) hy, honest_agree z (k + BL) (by omega), honest_best z (k + BL) k (by omega) (by omega) hz (by omega), by rw [hl]; omega, fun r hr => (hat r hr).1, fun r hr => (hat r hr).2⟩
structure HcN (k BL M : Nat) : Prop where
  a : IntKind.i64.wrap ((k : Int) + (BL : Int)) = (M : Int)
  b : wrap64 ((k : Int) + (BL : Int)) = (M : Int)
  u1 : IntKind.u64.wrap (k : Int) = (k : Int)
  u2 : IntKind.u64.wrap (M : Int) = (M : Int)
  p1 : wrap64 ((2 : Int) ^ k) = ((2 ^ k : Nat) : Int)
  p2 : wrap64 ((2 : Int) ^ M) = ((2 ^ M : Nat) : Int)
  h : ((2 ^ M : Nat) : Int).tdiv 2 = ((2 ^ (M - 1) : Nat) : Int)
  m16 : 2 ^ M ≤ 16
  mh : 2 ^ (M - 1) ≤ 16
  k4 : 2 ^ k ≤ 4
theorem hc_all {k BL M : Nat} (h1 : k < 3) (h2 : BL ≤ 2) (h3 : k + BL = M) (h5 : 1 ≤ BL) : HcN k BL M := by
  refine ⟨by rw [IntWalk.i64_in _ (by omega)]; omega, by rw [IntWalk.wrap64_in _ (by omega)]; omega, (cn_id k (by omega)).2.2, (cn_id M (by omega)).2.2, cn_pow k (by omega), cn_pow M (by omega), ?_, ?_, ?_, ?_⟩
  · obtain ⟨m, rfl⟩ : ∃ m, M = m + 1 := ⟨M - 1, by omega⟩
    rw [Nat.pow_succ, Nat.add_sub_cancel, Int.tdiv_eq_ediv_of_nonneg (by omega)]
    generalize 2 ^ m = x
    omega
  · exact Nat.le_trans (Nat.pow_le_pow_right (by decide) (show M ≤ 4 by omega)) (by decide)
  · exact Nat.le_trans (Nat.pow_le_pow_right (by decide) (show M - 1 ≤ 4 by omega)) (by decide)
  · exact Nat.le_trans (Nat.pow_le_pow_right (by decide) (show k ≤ 2 by omega)) (by decide)
theorem hc_pow (M : Nat) (h : M ≤ 6) : IntKind.i64.wrap ((2 : Int) ^ M) = ((2 ^ M : Nat) : Int) := by
  have : M = 0 ∨ M = 1 ∨ M = 2 ∨ M = 3 ∨ M = 4 ∨ M = 5 ∨ M = 6 := by omega
  rcases this with rfl | rfl | rfl | rfl | rfl | rfl | rfl <;> decide +kernel
theorem hc_bl {mo : Nat} (h : mo < 2) : IntKind.i64.wrap (1 + (mo : Int)) = ((1 + mo : Nat) : Int) ∧ wrap64 (1 + (mo : Int)) = ((1 + mo : Nat) : Int) :=
  ⟨by rw [IntWalk.i64_in _ (by omega)]; omega, by rw [IntWalk.wrap64_in _ (by omega)]; omega⟩
theorem hc_i64 {k BL n2 : Nat} (h1 : k < 3) (h2 : BL ≤ 2) (h3 : n2 ≤ k) (h4 : 1 ≤ BL) : (0 ≤ (k : Int) ∧ (k : Int) ≤ 10) ∧ (1 ≤ (BL : Int) ∧ (BL : Int) ≤ 4) ∧ I64 (n2 : Int) ∧ n2 ≤ 1000 := by unfold I64; omega
def Cho5 (a1 : Option Addr) (n1 cp1 k K M BL KM gp : Nat) (WD : QL) (sl : Nat) (v : Value) (W : World) : Prop :=
  match sl with
  | 42 => v = .slice a1 n1 cp1
  | 43 => v = .int .i64 (k : Int)
  | 44 => v = .int .u64 (k : Int)
  | 45 => v = .int .i64 (K : Int)
  | 46 => v = .slice a1 K cp1
  | 47 => v = .int .i64 (k : Int)
  | 48 => v = .pointer (some ⟨gp, 0, none⟩)
  | 49 => v = .int .i64 (BL : Int)
  | 50 => v = .int .i64 (M : Int)
  | 51 => ∃ (qa : Option Addr) (qc : Nat), v = .tuple #[.slice qa KM qc, .int .i64 0] ∧ QRow W (.slice qa KM qc) WD
  | 41 => ∃ (qa : Option Addr) (qc : Nat), v = .tuple #[.slice qa KM qc, .int .i64 0] ∧ QRow W (.slice qa KM qc) WD
  | 52 => ∃ (qa : Option Addr) (qc : Nat), v = .slice qa KM qc ∧ QRow W (.slice qa KM qc) WD
  | 53 => v = .int .i64 (0 : Int)
  | 9 => ∃ (qa : Option Addr) (qc : Nat), v = .slice qa KM qc ∧ QRow W (.slice qa KM qc) WD
  | 10 => v = .int .i64 (0 : Int)
  | _ => v = .bool true
theorem Cho5.keep {a1 : Option Addr} {n1 cp1 k K M BL KM gp : Nat} {WD : QL} {sl : Nat} {v : Value} {W W' : World} (h : Cho5 a1 n1 cp1 k K M BL KM gp WD sl v W) (hb : Below W.heap.size W W') : Cho5 a1 n1 cp1 k K M BL KM gp WD sl v W' := by
  unfold Cho5 at *
  split at h
  all_goals first | exact h | (obtain ⟨qa, qc, e, hq⟩ := h; exact ⟨qa, qc, e, hq.keep hb⟩)
def Cho11 (a1 a2 b1 b3 : Option Addr) (n1 cp1 n2 cp2 k K KM KH BL gp RL D d1 d3 : Nat) (RW : List QL) (sl : Nat) (v : Value) (W : World) : Prop :=
  match sl with
  | 90 => v = .int .i64 (k : Int)
  | 91 => v = .agg #[.int .i64 (BL : Int), .int .i64 (n2 : Int), .int .i64 1, .int .i64 0]
  | 92 => v = .slice a2 n2 cp2
  | 93 => v = .slice b1 KM d1
  | 94 => v = .slice a2 n2 cp2
  | 95 => ∃ (qa : Option Addr) (qc : Nat), v = .slice qa RL qc ∧ TabQ W qa RL RW
  | 96 => v = .slice b3 D d3
  | 97 => v = .int .i64 (KH : Int)
  | 98 => v = .int .i64 (KM : Int)
  | 99 => v = .int .i64 (KH : Int)
  | 103 => v = .slice b1 KM d1
  | 104 => v = .slice a1 n1 cp1
  | 105 => v = .int .i64 (k : Int)
  | 106 => v = .int .u64 (k : Int)
  | 107 => v = .int .i64 (K : Int)
  | 108 => v = .slice a1 K cp1
  | 109 => v = .int .i64 (KM : Int)
  | 110 => v = .int .i64 (KM : Int)
  | 114 => v = .int .i64 (KM : Int)
  | 115 => v = .bool false
  | 116 => v = .bool false
  | 117 => v = .slice b1 KM d1
  | 118 => v = .int .i64 (k : Int)
  | 119 => v = .int .u64 (k : Int)
  | 120 => v = .int .i64 (K : Int)
  | 121 => v = .int .i64 (KH : Int)
  | 122 => v = .int .i64 (KM : Int)
  | 123 => v = .int .i64 (KH : Int)
  | _ => v = .bool true
theorem Cho11.keep {a1 a2 b1 b3 : Option Addr} {n1 cp1 n2 cp2 k K KM KH BL gp RL D d1 d3 : Nat} {RW : List QL} {sl : Nat} {v : Value} {W W' : World} (h : Cho11 a1 a2 b1 b3 n1 cp1 n2 cp2 k K KM KH BL gp RL D d1 d3 RW sl v W) (hb : Below W.heap.size W W') : Cho11 a1 a2 b1 b3 n1 cp1 n2 cp2 k K KM KH BL gp RL D d1 d3 RW sl v W' := by
  unfold Cho11 at *
  split at h
  all_goals first | exact h | (obtain ⟨qa, qc, e, hq⟩ := h; exact ⟨qa, qc, e, hq.keep hb⟩)
def Cho11B (a1 a2 b1 b3 : Option Addr) (n1 cp1 n2 cp2 k K KM KH BL gp RL D d1 d3 : Nat) (RW : List QL) (sl : Nat) (v : Value) (W : World) : Prop :=
  match sl with
  | 90 => v = .int .i64 (k : Int)
  | 91 => v = .agg #[.int .i64 (BL : Int), .int .i64 (n2 : Int), .int .i64 1, .int .i64 0]
  | 92 => v = .slice a2 n2 cp2
  | 93 => v = .slice b1 KM d1
  | 94 => v = .slice a2 n2 cp2
  | 95 => ∃ (qa : Option Addr) (qc : Nat), v = .slice qa RL qc ∧ TabQ W qa RL RW
  | 96 => v = .slice b3 D d3
  | 97 => v = .int .i64 (KH : Int)
  | 98 => v = .int .i64 (KM : Int)
  | 99 => v = .int .i64 (KH : Int)
  | 103 => v = .slice b1 KM d1
  | 104 => v = .slice a1 n1 cp1
  | 105 => v = .int .i64 (k : Int)
  | 106 => v = .int .u64 (k : Int)
  | 107 => v = .int .i64 (K : Int)
  | 108 => v = .slice a1 K cp1
  | 109 => v = .int .i64 (KM : Int)
  | 110 => v = .int .i64 (KM : Int)
  | 114 => v = .int .i64 (KM : Int)
  | 117 => v = undef
  | 118 => v = undef
  | 119 => v = undef
  | 120 => v = undef
  | 121 => v = undef
  | 122 => v = undef
  | 123 => v = undef
  | 124 => v = undef
  | _ => v = .bool true
theorem Cho11B.keep {a1 a2 b1 b3 : Option Addr} {n1 cp1 n2 cp2 k K KM KH BL gp RL D d1 d3 : Nat} {RW : List QL} {sl : Nat} {v : Value} {W W' : World} (h : Cho11B a1 a2 b1 b3 n1 cp1 n2 cp2 k K KM KH BL gp RL D d1 d3 RW sl v W) (hb : Below W.heap.size W W') : Cho11B a1 a2 b1 b3 n1 cp1 n2 cp2 k K KM KH BL gp RL D d1 d3 RW sl v W' := by
  unfold Cho11B at *
  split at h
  all_goals first | exact h | (obtain ⟨qa, qc, e, hq⟩ := h; exact ⟨qa, qc, e, hq.keep hb⟩)
set_option maxRecDepth 100000 in
set_option maxHeartbeats 8000000 in
theorem count_honest (G : World → Prop) (hA : AskCount G) (a1 : Option Addr) (n1 cp1 : Nat) (l : QL) (a2 : Option Addr) (n2 cp2 : Nat) (ys : QL) (t0 t1 : Int) (w : World) (hG : G w) (ha : QRowA w a1 n1 l) (hu : UsR l) (ha2 : QRowA w a2 n2 ys) (hu2 : UsR ys) (hcp : n1 ≤ cp1) (ht0 : 0 ≤ t0 ∧ t0 < 256) (ht1 : 0 ≤ t1 ∧ t1 < 256) :
    Calls Tryd.prog 6 #[.slice a1 n1 cp1, .slice a2 n2 cp2, .agg #[.int .u8 t0, .int .u8 t1]] w fun e w' => e = .returned (.bool true) ∧ Below w.heap.size w w' := by
  have hl1 := ha.1
  have hl2 := ha2.1
  have HA10 := Lib.hid ha; have HA20 := Lib.hid ha2; have HG0 := Lib.hid hG
  have HU2 := Lib.hid hu2; have HU1 := Lib.hid hu
  obtain ⟨k, hk4, e0⟩ := cn_mod ht0.1 3 (by decide)
  obtain ⟨mo, hmo, e1⟩ := cn_mod ht1.1 2 (by decide)
  rw [show ((3 : Nat) : Int) = 3 from rfl] at e0
  rw [show ((2 : Nat) : Int) = 2 from rfl] at e1
  obtain ⟨q5, q6⟩ := hc_bl hmo
  obtain ⟨BL, hBL⟩ : ∃ q, 1 + mo = q := ⟨_, rfl⟩
  rw [hBL] at q5 q6
  obtain ⟨q1, q2, q2'⟩ := cn_id k (by omega)
  obtain ⟨q3, q4, q4'⟩ := cn_id mo (by omega)
  have hp := cn_pow k (by omega)
  have HBL := Lib.hid (show 1 ≤ BL ∧ BL ≤ 2 by omega)
  have HK4 := Lib.hid hk4
  have hk6 : k ≤ 6 := by omega
  clear hG ha ha2 ht0 ht1 hBL hk4 hmo hu2
  go_enter Tryd.func6, Tryd.ntmps6
  go_upto_region 1 with fail
  obtain ⟨g, hg⟩ : ∃ g, w.heap.size = g := ⟨_, rfl⟩
  refine wp_gen (fun W => Below w.heap.size w W ∧ W.cell? ⟨g, 0, none⟩ = some (.int .u8 t0) ∧ W.cell? ⟨g, 1, none⟩ = some (.int .u8 t1)) ⟨(Below.refl _ _).alloc (Nat.le_refl _) _, by subst hg; simp [go_sem], by subst hg; simp [go_sem]⟩ ?_
  rintro w9 ⟨hB0, t0c, t1c⟩
  simp only [hg]
  have HB0 := Lib.hid hB0
  clear hB0 hg
  go_upto_region 3 with fail
  obtain ⟨gp, hgp⟩ : ∃ g, w9.heap.size = g := ⟨_, rfl⟩
  have hsz9 := HB0.out.size
  refine wp_gen (fun W => Below w.heap.size w W ∧ W.cell? ⟨gp, 0, none⟩ = some (.int .i64 (BL : Int)) ∧ W.cell? ⟨gp, 1, none⟩ = some (.int .i64 (n2 : Int)) ∧ W.cell? ⟨gp, 2, none⟩ = some (.int .i64 1) ∧ W.cell? ⟨gp, 3, none⟩ = some (.int .i64 0)) ⟨HB0.out.alloc hsz9 _, by subst hgp; simp [go_sem], by subst hgp; simp [go_sem], by subst hgp; simp [go_sem], by subst hgp; simp [go_sem]⟩ ?_
  clear HB0 t0c t1c hsz9 e0 e1 q2 q3 q4 q4' q5 q6
  rintro w0 ⟨hB0, p0c, p1c, p2c, p3c⟩
  simp only [hgp]
  have HB0 := Lib.hid hB0
  have HA1 := Lib.hid (HA10.out.keep hB0); have HA2 := Lib.hid (HA20.out.keep hB0); have HG := Lib.hid (hA.keep HG0.out hB0)
  have HB : Hid (Below w0.heap.size w0 w0) := Lib.hid (Below.refl _ _)
  have HCELL := Lib.hid (And.intro p0c (And.intro p1c (And.intro p2c p3c)))
  have aw := fun W (h : Below w0.heap.size w0 W) => cntawake G hA W (hA.keep HG.out h)
  clear hB0 hgp HG0 HA10 HA20 p1c p2c p3c
  obtain ⟨K, hKK⟩ : ∃ K, 2 ^ k = K := ⟨_, rfl⟩
  rw [hKK] at hp
  have HKK := Lib.hid hKK
  clear hKK
  by_cases hs : (n1 : Int) < (K : Int)
  · go_wp2_with (go_at_call 8; (with_reducible refine (aw _ HB.out).mono ?_); rintro e w1 ⟨rfl, hb⟩; replace HB := Lib.hid (bthen HB.out hb); clear hb)
    go_ret
    exact ⟨rfl, bthen HB0.out HB.out⟩
  by_cases hs2 : (k : Int) < (n2 : Int)
  · go_wp2_with (go_at_call 8; (with_reducible refine (aw _ HB.out).mono ?_); rintro e w1 ⟨rfl, hb⟩; replace HB := Lib.hid (bthen HB.out hb); clear hb)
    go_ret
    exact ⟨rfl, bthen HB0.out HB.out⟩
  have hn1 : K ≤ n1 := cn_neg hs
  have hn2 : n2 ≤ k := cn_neg hs2
  have hKc : K ≤ cp1 := Nat.le_trans hn1 hcp
  have hKcI : (K : Int) ≤ (cp1 : Int) := Int.ofNat_le.2 hKc
  obtain ⟨M, hM⟩ : ∃ M, k + BL = M := ⟨_, rfl⟩
  obtain ⟨c⟩ := Nonempty.intro (cn_all (M := M) (show k < 5 by have := HK4.out; omega) hn2 (by have := HBL.out; omega) (by have := HBL.out; have := HK4.out; omega))
  have hN := hc_all HK4.out HBL.out.2 hM HBL.out.1
  have hzl : (l.take K).length = 2 ^ k := by rw [HKK.out]; exact cn_len hl1 hn1
  have hzU : UsR (l.take K) := fun n hn => HU1.out n (List.mem_of_mem_take hn)
  have f1 := fun W (h : Below w0.heap.size w0 W) => refforthq_yes a1 K cp1 (l.take K) 7 (by unfold U; decide) (shiftF 0) (by decide +kernel) M c.M20 W ((HA1.out.keep h).cut hn1) hzU (by rw [← HKK.out]; exact c.p1)
  obtain ⟨hd1, hd2⟩ := chain_down (l.take K) ys k M hzl c.kM c.M20 n2 hn2
  have hzr := chZ_len (l.take K) ys k hzl n2
  have hfU : UsR (forthQ (l.take K) (shiftF 0) M) := joinL_U _ _
  have hok : chOk (forthQ (l.take K) (shiftF 0) M) ys ys.length = true := by rw [hl2]; exact hd2
  have k1 := fun W a d (hq : QRowA W a (2 ^ M) (forthQ (l.take K) (shiftF 0) M)) (h : Below w0.heap.size w0 W) => rcwords_is a (2 ^ M) d _ a2 n2 cp2 ys _ true W hq hfU (HA2.out.keep h) HU2.out c.n1000 (chainV_yes hok)
  unfold WordsPost at k1
  have hNr : (chRows (forthQ (l.take K) (shiftF 0) M) ys ys.length).length = n2 + 1 := by rw [chRows_len, hl2]
  rw [hNr] at k1
  have hlast : (chRows (forthQ (l.take K) (shiftF 0) M) ys ys.length).getD n2 [] = forthQ (chZ (l.take K) ys k n2) (shiftF (n2 : Int)) (M - n2) := by rw [chRows_at _ _ (by rw [hl2]; exact Nat.le_refl _), hd1]
  have HLAST := Lib.hid hlast
  have hcc := honC_all (l.take K) ys k BL hzl (by have := HK4.out; omega) HBL.out.1 HBL.out.2 (by rw [hl2]; exact hn2)
  obtain ⟨zr, hzz⟩ : ∃ z, chZ (l.take K) ys k n2 = z := ⟨_, rfl⟩
  rw [hzz] at hzr HLAST
  have hff := fin_forth zr (n2 : Int) (M - n2) c.Md (by rw [hzr]; exact c.p3)
  have hLU : UsR (forthQ zr (shiftF (n2 : Int)) (M - n2)) := joinL_U _ _
  have hLl : (forthQ zr (shiftF (n2 : Int)) (M - n2)).length = 2 ^ (M - n2) := forthQ_len _ _ _
  rw [hzr] at hff
  have k2 := fun W a d (hq : QRowA W a (2 ^ (M - n2)) (forthQ zr (shiftF (n2 : Int)) (M - n2))) => rcfinal_is a (2 ^ (M - n2)) d _ (n2 : Int) ((2 ^ (k - n2) : Nat) : Int) _ true W hq hLU c.p4 c.p5 hff
  unfold WordPost at k2
  have hnl : (nrmQ zr).length = 2 ^ (k - n2) := by rw [nrmQ_len, hzr]
  rw [hnl] at k2
  have HLL : Hid ((forthQ zr (shiftF (n2 : Int)) (M - n2)).length = 2 ^ (M - n2)) := Lib.hid hLl
  have HNU := Lib.hid (nrmQ_U zr)
  -- what is asked of the program's calls
  obtain ⟨WD, hWD⟩ : ∃ q, forthQ (l.take K) (shiftF 0) M = q := ⟨_, rfl⟩
  obtain ⟨ac, ag, bs, le, us, lr⟩ := hcc
  rw [hM, hWD] at ac ag bs us lr le
  rw [hl2] at ac
  rw [hzz] at ac
  rw [hWD] at f1 k1 HLAST hfU
  obtain ⟨rows, hrows⟩ : ∃ r, chRows WD ys ys.length = r := ⟨_, rfl⟩
  rw [hrows] at k1 HLAST
  obtain ⟨RW, hRW⟩ : ∃ r, wordsV WD ys = r := ⟨_, rfl⟩
  rw [hRW] at ac us lr le
  obtain ⟨RL, hRL⟩ : ∃ r, RW.length = r := ⟨_, rfl⟩
  obtain ⟨fz, hfz⟩ : ∃ f, nrmQ zr = f := ⟨_, rfl⟩
  rw [hfz] at k2 HNU ac
  obtain ⟨⟨ik, ik'⟩, ⟨ib, ib'⟩, in2, in2'⟩ := hc_i64 HK4.out HBL.out.2 hn2 HBL.out.1
  have HIN := Lib.hid (And.intro (And.intro ik ik') (And.intro (And.intro ib ib') (And.intro in2 in2')))
  have p6 := cn_sub k n2 hn2 c.k100
  have p8 := cn_pow (k - n2) c.kd6
  have p10 := cn_id (k - n2) c.kd100
  obtain ⟨dd, hdd⟩ : ∃ d, k - n2 = d := ⟨_, rfl⟩
  rw [hdd] at p6 p8 p10 k2
  obtain ⟨D, hDD⟩ : ∃ D, 2 ^ dd = D := ⟨_, rfl⟩
  obtain ⟨MM, hMM⟩ : ∃ D, 2 ^ (M - n2) = D := ⟨_, rfl⟩
  obtain ⟨KM, hKMM⟩ : ∃ D, 2 ^ M = D := ⟨_, rfl⟩
  obtain ⟨KH, hKH⟩ : ∃ D, 2 ^ (M - 1) = D := ⟨_, rfl⟩
  obtain ⟨n5, n6, n7, n8, n9, n10, n11, n12, n13, n14⟩ := hN
  rw [hDD] at p8 k2
  rw [hMM] at k2 HLL
  rw [hKMM] at f1 k1 n10 n11 n12 ag
  rw [hKH] at n11 n13 ac bs
  rw [HKK.out] at n9 n14
  rw [show ((2 ^ k : Nat) : Int) = (K : Int) by rw [HKK.out]] at bs
  have hWDl : WD.length = KM := by rw [← hWD, forthQ_len, hKMM]
  have HKW := Lib.hid (fun W b1 d1 (h : Below w0.heap.size w0 W) (hq : QRow W (.slice b1 KM d1) WD) => hA.words b1 KM d1 WD a2 n2 cp2 ys W hq.at hfU (Nat.le_trans n12 (by decide)) hq.cap (HA2.out.keep h) HU2.out in2' (hA.keep HG.out h))
  have HKC := Lib.hid (fun W ta tc b3 d3 (h : Below w0.heap.size w0 W) (ht : TabQ W ta RL RW) (hf : QRowA W b3 D fz) => hA.accepts (k : Int) (BL : Int) (n2 : Int) 1 0 a2 n2 cp2 ys ta RL tc RW b3 D d3 fz W ⟨ik, ik'⟩ ⟨ib, ib'⟩ in2 (HA2.out.keep h) HU2.out ht us (by rw [← hRL]; exact le) lr hf HNU.out (hA.keep HG.out h))
  have HKG := Lib.hid (fun W b1 d1 (h : Below w0.heap.size w0 W) (hq : QRow W (.slice b1 KM d1) WD) => hA.agree b1 KM d1 WD 0 a1 K cp1 (l.take K) false W hq.at hfU (Nat.le_trans n12 (by decide)) (by decide) ((HA1.out.keep h).cut hn1) hzU (Nat.le_trans n14 (by decide)) (hA.keep HG.out h))
  have HKB := Lib.hid (fun W b1 d1 (h : Below w0.heap.size w0 W) (hq : QRow W (.slice b1 KM d1) WD) => hA.best b1 KM d1 WD 0 (K : Int) true W hq.at hfU n12 (by decide) ⟨Int.natCast_nonneg _, Int.ofNat_le.2 n14⟩ (hA.keep HG.out h))
  rw [hRW] at HKW
  rw [ac] at HKC
  rw [ag] at HKG
  rw [bs] at HKB
  unfold TabPost at HKW
  rw [hRL] at HKW
  unfold IntPost at HKC HKG HKB
  generalize forthQ zr (shiftF (n2 : Int)) (M - n2) = last at *
  obtain ⟨p6a, p6b⟩ := p6
  obtain ⟨p10a, _, p10b⟩ := p10
  have HP := Lib.hid (And.intro p6a (And.intro p6b (And.intro p8 (And.intro p10a p10b))))
  have HPM := Lib.hid (And.intro n5 (And.intro n6 (And.intro n8 (And.intro n10 (And.intro n11 n12)))))
  have HKH : Hid (IntKind.i64.wrap (KH : Int) = (KH : Int)) := Lib.hid (IntWalk.i64_in _ (by omega))
  have hM6 := c.M6
  have HM6 := Lib.hid hM6
  have hd6 : dd ≤ 6 := by have := c.kd6; omega
  clear hu hzl hzU hd1 hd2 hfU hok hNr hlast hzz hzr hff hLU hLl hnl HA1 hl1 hrows hM HU2 hDD hMM hKMM hKH hdd c p6a p6b p8 p10a p10b n8 n10 n11 n12 n13 n14 hn1 hcp hl2 hfz hWD hWDl hRW hRL ac ag bs le us lr ik ik' ib ib' in2 in2' hM6 hn2
  unfold NewOkQ at f1
  go_upto_region 5 with fail
  clear hs hs2
  simp only [hp]
  have hp2 : IntKind.i64.wrap ((2 : Int) ^ k) = (K : Int) := by rw [hc_pow k hk6, HKK.out]
  refine wp_loose [(42, []), (43, []), (44, [43]), (45, [44]), (46, [42, 45]), (47, []), (48, []), (49, [48]), (50, [47, 49]), (51, [46, 50]), (41, [51]), (52, [41]), (53, [41]), (9, [52]), (10, [53])]
    (Cho5 a1 n1 cp1 k K M BL KM gp WD) (fun d => false) (by kernel_rfl) (by kernel_rfl) (fun _ _ _ _ h hb => h.keep hb) ?_ ?_
  · refine opsrun_cons ?_ (opsrun_cons ?_ (opsrun_cons ?_ (opsrun_cons ?_ (opsrun_cons ?_ (opsrun_cons ?_ (opsrun_cons ?_ (opsrun_cons ?_ (opsrun_cons ?_ (opsrun_cons ?_ (opsrun_cons ?_ (opsrun_cons ?_ (opsrun_cons ?_ (opsrun_cons ?_ (opsrun_cons ?_ opsrun_nil))))))))))))))
    all_goals
      refine OpRuns.any ?_
      intro Q0 σ W' K hb hn hK
      simp only [fill, List.map, Act.put, List.setIfInBounds_toArray, List.set_cons_zero, List.set_cons_succ] at hK ⊢
    · clear hn
      go_simp
      exact hK _ _ rfl (Below.refl _ _) (fun h => absurd h (by decide))
    · clear hn
      go_simp
      exact hK _ _ rfl (Below.refl _ _) (fun h => absurd h (by decide))
    · have h43 : σ 43 = _ := hn 43 (by decide)
      clear hn
      simp only [h43] at hK
      go_simp
      exact hK _ _ rfl (Below.refl _ _) (fun h => absurd h (by decide))
    · have h44 : σ 44 = _ := hn 44 (by decide)
      clear hn
      simp only [h44] at hK
      go_simp
      exact hK _ _ rfl (Below.refl _ _) (fun h => absurd h (by decide))
    · have h42 : σ 42 = _ := hn 42 (by decide)
      have h45 : σ 45 = _ := hn 45 (by decide)
      clear hn
      simp only [h42, h45] at hK
      go_simp
      exact hK _ _ rfl (Below.refl _ _) (fun h => absurd h (by decide))
    · clear hn
      go_simp
      exact hK _ _ rfl (Below.refl _ _) (fun h => absurd h (by decide))
    · clear hn
      go_simp
      exact hK _ _ rfl (Below.refl _ _) (fun h => absurd h (by decide))
    · have h48 : σ 48 = _ := hn 48 (by decide)
      clear hn
      simp only [h48] at hK
      have p0c' := bkeep hb p0c
      clear p0c
      go_simp
      exact hK _ _ rfl (Below.refl _ _) (fun h => absurd h (by decide))
    · have h47 : σ 47 = _ := hn 47 (by decide)
      have h49 : σ 49 = _ := hn 49 (by decide)
      clear hn
      simp only [h47, h49] at hK
      go_simp
      exact hK _ _ rfl (Below.refl _ _) (fun h => absurd h (by decide))
    · have h46 : σ 46 = _ := hn 46 (by decide)
      have h50 : σ 50 = _ := hn 50 (by decide)
      clear hn
      simp only [h46, h50] at hK
      go_simp
      go_at_call 14
      refine (f1 _ (bthen HB.out hb)).mono ?_
      rintro e w1 ⟨b1, d1, rfl, hb1, hq⟩
      exact hK _ _ ⟨b1, d1, rfl, hq⟩ hb1 (fun h => absurd h (by decide))
    · have p51 : ∃ (qa : Option Addr) (qc : Nat), (σ 51) = .tuple #[.slice qa KM qc, .int .i64 0] ∧ QRow W' (.slice qa KM qc) WD := hn 51 (by decide)
      clear hn
      obtain ⟨qa, qc, e1, hq⟩ := p51
      simp only [e1] at hK
      go_simp
      exact hK _ _ ⟨qa, qc, rfl, hq⟩ (Below.refl _ _) (fun h => absurd h (by decide))
    · have p41 : ∃ (qa : Option Addr) (qc : Nat), (σ 41) = .tuple #[.slice qa KM qc, .int .i64 0] ∧ QRow W' (.slice qa KM qc) WD := hn 41 (by decide)
      clear hn
      obtain ⟨qa, qc, e1, hq⟩ := p41
      simp only [e1] at hK
      go_simp
      exact hK _ _ ⟨qa, qc, rfl, hq⟩ (Below.refl _ _) (fun h => absurd h (by decide))
    · have p41 : ∃ (qa : Option Addr) (qc : Nat), (σ 41) = .tuple #[.slice qa KM qc, .int .i64 0] ∧ QRow W' (.slice qa KM qc) WD := hn 41 (by decide)
      clear hn
      obtain ⟨qa, qc, e1, hq⟩ := p41
      simp only [e1] at hK
      go_simp
      exact hK _ _ rfl (Below.refl _ _) (fun h => absurd h (by decide))
    · have p52 : ∃ (qa : Option Addr) (qc : Nat), (σ 52) = .slice qa KM qc ∧ QRow W' (.slice qa KM qc) WD := hn 52 (by decide)
      clear hn
      obtain ⟨qa, qc, e1, hq⟩ := p52
      simp only [e1] at hK
      go_simp
      exact hK _ _ ⟨qa, qc, rfl, hq⟩ (Below.refl _ _) (fun h => absurd h (by decide))
    · have h53 : σ 53 = _ := hn 53 (by decide)
      clear hn
      simp only [h53] at hK
      go_simp
      exact hK _ _ rfl (Below.refl _ _) (fun h => absurd h (by decide))
  · intro σ W' hb hR' hF
    obtain ⟨b1, d1, h9, hq⟩ := hR' 9 (by decide)
    have h10 : σ 10 = .int .i64 (0 : Int) := hR' 10 (by decide)
    replace HB := Lib.hid (bthen HB.out hb)
    have HQ1 := Lib.hid hq
    clear hR' hF hb hq f1
    simp only [fill, List.map, Act.put, List.setIfInBounds_toArray, List.set_cons_zero, List.set_cons_succ, List.length_cons, List.length_nil, List.drop_succ_cons, List.drop_zero, Nat.reduceAdd, h9, h10]
    clear h9 h10 n5 n6 p0c
    have HKc := Lib.hid (And.intro hKc hKcI)
    clear hKc hKcI
    go_upto_region 6 with fail
    go_upto_region 7 with (go_at_call 15; (with_reducible refine (k1 _ _ _ HQ1.out.at HB.out).mono ?_); rintro e w2 ⟨hb, b2, d2, rfl, ht, hd2⟩; have HT := Lib.hid ht; replace HQ1 := Lib.hid (QRow.keep HQ1.out hb); replace HB := Lib.hid (bthen HB.out hb); clear hb ht hd2)
    clear k1
    obtain ⟨p6a, p6b, p8, p10a, p10b⟩ := HP.out
    clear HP
    obtain ⟨g9, o9, e9, aj, cj, c9, hj9⟩ := HT.out.2.2 n2 (Nat.lt_succ_self n2)
    subst e9
    rw [HLAST.out, HLL.out] at c9 hj9
    have HJ9 := Lib.hid hj9
    have hnn : (n2 : Int) < ((n2 + 1 : Nat) : Int) := Int.ofNat_lt.2 (Nat.lt_succ_self n2)
    have hnz : (0 : Int) ≤ (n2 : Int) := Int.natCast_nonneg n2
    clear hj9 HLAST HLL
    go_upto_region 10 with (go_at_call 16; (with_reducible refine (k2 _ _ _ HJ9.out).mono ?_); rintro e w3 ⟨hb, b3, d3, rfl, hq⟩; have HF := Lib.hid hq; replace HQ1 := Lib.hid (QRow.keep HQ1.out hb); replace HB := Lib.hid (bthen HB.out hb); clear hb hq)
    clear c9 k2 HJ9 hd6 p6a p6b p8 p10a p10b hnn hnz HT
    obtain ⟨n5, n6, n8, n10, n11, n12⟩ := HPM.out
    have HN11 := Lib.hid n11
    have HN12 := Lib.hid n12
    have hM6 := HM6.out
    obtain ⟨p0c, p1c, p2c, p3c⟩ := HCELL.out
    replace p0c := bkeep HB.out p0c
    replace p1c := bkeep HB.out p1c
    replace p2c := bkeep HB.out p2c
    replace p3c := bkeep HB.out p3c
    have HQ2 := Lib.hid (And.intro q2' (And.intro hp2 hk6))
    clear n11 n12 HPM HCELL HM6 n5 hp hp2 n9 q1 q2' n7 hk6
    go_upto_region 11 with fail
    simp only [n10]
    clear n6 n8 n10 hM6
    have nkh := HKH.out
    clear HKH
    obtain ⟨q2', hp2, hk6⟩ := HQ2.out
    clear HQ2
    obtain ⟨hKc, hKcI⟩ := HKc.out
    have n11 := HN11.out
    have kw := fun W (h : Below w3.heap.size w3 W) => HKW.out W b1 d1 (bthen HB.out h) (QRow.keep HQ1.out h)
    have kc := fun W ta tc (h : Below w3.heap.size w3 W) (ht : TabQ W ta RL RW) => HKC.out W ta tc b3 d3 (bthen HB.out h) ht (HF.out.keep h)
    have kg := fun W (h : Below w3.heap.size w3 W) => HKG.out W b1 d1 (bthen HB.out h) (QRow.keep HQ1.out h)
    have kb := fun W (h : Below w3.heap.size w3 W) => HKB.out W b1 d1 (bthen HB.out h) (QRow.keep HQ1.out h)
    clear HKW HKC HKG HKB HF HQ1 HKc HN11 HN12
    by_cases hk8 : (8 : Int) < (KM : Int)
    · refine wp_loose [(85, []), (86, [85]), (87, [86]), (88, [86, 87]), (89, [88]), (90, [89]), (91, [89]), (92, [89]), (93, [89]), (94, [89]), (95, [89, 93, 94]), (96, [89]), (97, [89, 90, 91, 92, 95, 96]), (98, [89]), (99, [89, 98]), (100, [89, 97, 99]), (101, [89, 100]), (102, [101]), (103, [102]), (104, [102]), (105, [102]), (106, [102, 105]), (107, [102, 106]), (108, [102, 104, 107]), (109, [102, 103, 108]), (110, [102]), (111, [102, 109, 110]), (112, [102, 111]), (113, [112]), (114, [113]), (115, [113, 114]), (116, [113, 115]), (117, [116]), (118, [116]), (119, [116, 118]), (120, [116, 119]), (121, [116, 117, 120]), (122, [116]), (123, [116, 122]), (124, [116, 121, 123]), (125, [113, 116, 124]), (126, [113, 125]), (6, [126])]
        (Cho11B a1 a2 b1 b3 n1 cp1 n2 cp2 k K KM KH BL gp RL D d1 d3 RW) (fun d => false) (by kernel_rfl) (by kernel_rfl) (fun _ _ _ _ h hb => h.keep hb) ?_ ?_
      · refine opsrun_cons ?_ (opsrun_cons ?_ (opsrun_cons ?_ (opsrun_cons ?_ (opsrun_cons ?_ (opsrun_cons ?_ (opsrun_cons ?_ (opsrun_cons ?_ (opsrun_cons ?_ (opsrun_cons ?_ (opsrun_cons ?_ (opsrun_cons ?_ (opsrun_cons ?_ (opsrun_cons ?_ (opsrun_cons ?_ (opsrun_cons ?_ (opsrun_cons ?_ (opsrun_cons ?_ (opsrun_cons ?_ (opsrun_cons ?_ (opsrun_cons ?_ (opsrun_cons ?_ (opsrun_cons ?_ (opsrun_cons ?_ (opsrun_cons ?_ (opsrun_cons ?_ (opsrun_cons ?_ (opsrun_cons ?_ (opsrun_cons ?_ (opsrun_cons ?_ (opsrun_cons ?_ (opsrun_cons ?_ (opsrun_cons ?_ (opsrun_cons ?_ (opsrun_cons ?_ (opsrun_cons ?_ (opsrun_cons ?_ (opsrun_cons ?_ (opsrun_cons ?_ (opsrun_cons ?_ (opsrun_cons ?_ (opsrun_cons ?_ (opsrun_cons ?_ opsrun_nil))))))))))))))))))))))))))))))))))))))))))
        all_goals
          refine OpRuns.any ?_
          intro Q0 σ W' K hb hn hK
          simp only [fill, List.map, Act.put, List.setIfInBounds_toArray, List.set_cons_zero, List.set_cons_succ] at hK ⊢
        · clear hn
          go_simp
          go_at_call 8
          refine (aw _ (bthen HB.out hb)).mono ?_
          rintro e w1 ⟨rfl, hb1⟩
          exact hK _ _ rfl hb1 (fun h => absurd h (by decide))
        · have h85 : σ 85 = _ := hn 85 (by decide)
          clear hn
          simp only [h85] at hK
          go_simp
          exact hK _ _ rfl (Below.refl _ _) (fun h => absurd h (by decide))
        · have h86 : σ 86 = _ := hn 86 (by decide)
          clear hn
          simp only [h86] at hK
          go_simp
          exact hK _ _ rfl (Below.refl _ _) (fun h => absurd h (by decide))
        · have h86 : σ 86 = _ := hn 86 (by decide)
          have h87 : σ 87 = _ := hn 87 (by decide)
          clear hn
          simp only [h86, h87] at hK
          go_simp
          exact hK _ _ rfl (Below.refl _ _) (fun h => absurd h (by decide))
        · have h88 : σ 88 = _ := hn 88 (by decide)
          clear hn
          simp only [h88] at hK
          go_simp
          exact hK _ _ rfl (Below.refl _ _) (fun h => absurd h (by decide))
        · have h89 : σ 89 = _ := hn 89 (by decide)
          clear hn
          simp only [h89] at hK
          go_simp
          exact hK _ _ rfl (Below.refl _ _) (fun h => absurd h (by decide))
        · have h89 : σ 89 = _ := hn 89 (by decide)
          clear hn
          simp only [h89] at hK
          have p0c' := bkeep hb p0c
          have p1c' := bkeep hb p1c
          have p2c' := bkeep hb p2c
          have p3c' := bkeep hb p3c
          clear p0c p1c p2c p3c
          go_simp
          exact hK _ _ rfl (Below.refl _ _) (fun h => absurd h (by decide))
        · have h89 : σ 89 = _ := hn 89 (by decide)
          clear hn
          simp only [h89] at hK
          go_simp
          exact hK _ _ rfl (Below.refl _ _) (fun h => absurd h (by decide))
        · have h89 : σ 89 = _ := hn 89 (by decide)
          clear hn
          simp only [h89] at hK
          go_simp
          exact hK _ _ rfl (Below.refl _ _) (fun h => absurd h (by decide))
        · have h89 : σ 89 = _ := hn 89 (by decide)
          clear hn
          simp only [h89] at hK
          go_simp
          exact hK _ _ rfl (Below.refl _ _) (fun h => absurd h (by decide))
        · have h89 : σ 89 = _ := hn 89 (by decide)
          have h93 : σ 93 = _ := hn 93 (by decide)
          have h94 : σ 94 = _ := hn 94 (by decide)
          clear hn
          simp only [h89, h93, h94] at hK
          go_simp
          go_at_call 17
          refine (kw _ hb).mono ?_
          rintro e w1 ⟨hb1, qa, qc, rfl, ht, _⟩
          exact hK _ _ ⟨qa, qc, rfl, ht⟩ hb1 (fun h => absurd h (by decide))
        · have h89 : σ 89 = _ := hn 89 (by decide)
          clear hn
          simp only [h89] at hK
          go_simp
          exact hK _ _ rfl (Below.refl _ _) (fun h => absurd h (by decide))
        · have h89 : σ 89 = _ := hn 89 (by decide)
          have h90 : σ 90 = _ := hn 90 (by decide)
          have h91 : σ 91 = _ := hn 91 (by decide)
          have h92 : σ 92 = _ := hn 92 (by decide)
          have p95 : ∃ (qa : Option Addr) (qc : Nat), (σ 95) = .slice qa RL qc ∧ TabQ W' qa RL RW := hn 95 (by decide)
          have h96 : σ 96 = _ := hn 96 (by decide)
          clear hn
          simp only [h89, h90, h91, h92, h96] at hK
          obtain ⟨qa, qc, e1, ht⟩ := p95
          simp only [e1] at hK
          go_simp
          go_at_call 12
          refine (kc _ _ _ hb ht).mono ?_
          rintro e w1 ⟨rfl, hb1⟩
          exact hK _ _ rfl hb1 (fun h => absurd h (by decide))
        · have h89 : σ 89 = _ := hn 89 (by decide)
          clear hn
          simp only [h89] at hK
          go_simp
          exact hK _ _ rfl (Below.refl _ _) (fun h => absurd h (by decide))
        · have h89 : σ 89 = _ := hn 89 (by decide)
          have h98 : σ 98 = _ := hn 98 (by decide)
          clear hn
          simp only [h89, h98] at hK
          go_simp
          exact hK _ _ rfl (Below.refl _ _) (fun h => absurd h (by decide))
        · have h89 : σ 89 = _ := hn 89 (by decide)
          have h97 : σ 97 = _ := hn 97 (by decide)
          have h99 : σ 99 = _ := hn 99 (by decide)
          clear hn
          simp only [h89, h97, h99] at hK
          go_simp
          exact hK _ _ rfl (Below.refl _ _) (fun h => absurd h (by decide))
        · have h89 : σ 89 = _ := hn 89 (by decide)
          have h100 : σ 100 = _ := hn 100 (by decide)
          clear hn
          simp only [h89, h100] at hK
          go_simp
          exact hK _ _ rfl (Below.refl _ _) (fun h => absurd h (by decide))
        · have h101 : σ 101 = _ := hn 101 (by decide)
          clear hn
          simp only [h101] at hK
          go_simp
          exact hK _ _ rfl (Below.refl _ _) (fun h => absurd h (by decide))
        · have h102 : σ 102 = _ := hn 102 (by decide)
          clear hn
          simp only [h102] at hK
          go_simp
          exact hK _ _ rfl (Below.refl _ _) (fun h => absurd h (by decide))
        · have h102 : σ 102 = _ := hn 102 (by decide)
          clear hn
          simp only [h102] at hK
          go_simp
          exact hK _ _ rfl (Below.refl _ _) (fun h => absurd h (by decide))
        · have h102 : σ 102 = _ := hn 102 (by decide)
          clear hn
          simp only [h102] at hK
          go_simp
          exact hK _ _ rfl (Below.refl _ _) (fun h => absurd h (by decide))
        · have h102 : σ 102 = _ := hn 102 (by decide)
          have h105 : σ 105 = _ := hn 105 (by decide)
          clear hn
          simp only [h102, h105] at hK
          go_simp
          exact hK _ _ rfl (Below.refl _ _) (fun h => absurd h (by decide))
        · have h102 : σ 102 = _ := hn 102 (by decide)
          have h106 : σ 106 = _ := hn 106 (by decide)
          clear hn
          simp only [h102, h106] at hK
          go_simp
          exact hK _ _ rfl (Below.refl _ _) (fun h => absurd h (by decide))
        · have h102 : σ 102 = _ := hn 102 (by decide)
          have h104 : σ 104 = _ := hn 104 (by decide)
          have h107 : σ 107 = _ := hn 107 (by decide)
          clear hn
          simp only [h102, h104, h107] at hK
          go_simp
          exact hK _ _ rfl (Below.refl _ _) (fun h => absurd h (by decide))
        · have h102 : σ 102 = _ := hn 102 (by decide)
          have h103 : σ 103 = _ := hn 103 (by decide)
          have h108 : σ 108 = _ := hn 108 (by decide)
          clear hn
          simp only [h102, h103, h108] at hK
          go_simp
          go_at_call 18
          refine (kg _ hb).mono ?_
          rintro e w1 ⟨rfl, hb1⟩
          exact hK _ _ rfl hb1 (fun h => absurd h (by decide))
        · have h102 : σ 102 = _ := hn 102 (by decide)
          clear hn
          simp only [h102] at hK
          go_simp
          exact hK _ _ rfl (Below.refl _ _) (fun h => absurd h (by decide))
        · have h102 : σ 102 = _ := hn 102 (by decide)
          have h109 : σ 109 = _ := hn 109 (by decide)
          have h110 : σ 110 = _ := hn 110 (by decide)
          clear hn
          simp only [h102, h109, h110] at hK
          go_simp
          exact hK _ _ rfl (Below.refl _ _) (fun h => absurd h (by decide))
        · have h102 : σ 102 = _ := hn 102 (by decide)
          have h111 : σ 111 = _ := hn 111 (by decide)
          clear hn
          simp only [h102, h111] at hK
          go_simp
          exact hK _ _ rfl (Below.refl _ _) (fun h => absurd h (by decide))
        · have h112 : σ 112 = _ := hn 112 (by decide)
          clear hn
          simp only [h112] at hK
          go_simp
          exact hK _ _ rfl (Below.refl _ _) (fun h => absurd h (by decide))
        · have h113 : σ 113 = _ := hn 113 (by decide)
          clear hn
          simp only [h113] at hK
          go_simp
          exact hK _ _ rfl (Below.refl _ _) (fun h => absurd h (by decide))
        · have h113 : σ 113 = _ := hn 113 (by decide)
          have h114 : σ 114 = _ := hn 114 (by decide)
          clear hn
          simp only [h113, h114] at hK
          go_simp
          exact hK _ _ rfl (Below.refl _ _) (fun h => absurd h (by decide))
        · have h113 : σ 113 = _ := hn 113 (by decide)
          have h115 : σ 115 = _ := hn 115 (by decide)
          clear hn
          simp only [h113, h115] at hK
          go_simp
          exact hK _ _ rfl (Below.refl _ _) (fun h => absurd h (by decide))
        · have h116 : σ 116 = _ := hn 116 (by decide)
          clear hn
          simp only [h116] at hK
          go_simp
          exact hK _ _ rfl (Below.refl _ _) (fun h => absurd h (by decide))
        · have h116 : σ 116 = _ := hn 116 (by decide)
          clear hn
          simp only [h116] at hK
          go_simp
          exact hK _ _ rfl (Below.refl _ _) (fun h => absurd h (by decide))
        · have h116 : σ 116 = _ := hn 116 (by decide)
          have h118 : σ 118 = _ := hn 118 (by decide)
          clear hn
          simp only [h116, h118] at hK
          go_simp
          exact hK _ _ rfl (Below.refl _ _) (fun h => absurd h (by decide))
        · have h116 : σ 116 = _ := hn 116 (by decide)
          have h119 : σ 119 = _ := hn 119 (by decide)
          clear hn
          simp only [h116, h119] at hK
          go_simp
          exact hK _ _ rfl (Below.refl _ _) (fun h => absurd h (by decide))
        · have h116 : σ 116 = _ := hn 116 (by decide)
          have h117 : σ 117 = _ := hn 117 (by decide)
          have h120 : σ 120 = _ := hn 120 (by decide)
          clear hn
          simp only [h116, h117, h120] at hK
          go_simp
          exact hK _ _ rfl (Below.refl _ _) (fun h => absurd h (by decide))
        · have h116 : σ 116 = _ := hn 116 (by decide)
          clear hn
          simp only [h116] at hK
          go_simp
          exact hK _ _ rfl (Below.refl _ _) (fun h => absurd h (by decide))
        · have h116 : σ 116 = _ := hn 116 (by decide)
          have h122 : σ 122 = _ := hn 122 (by decide)
          clear hn
          simp only [h116, h122] at hK
          go_simp
          exact hK _ _ rfl (Below.refl _ _) (fun h => absurd h (by decide))
        · have h116 : σ 116 = _ := hn 116 (by decide)
          have h121 : σ 121 = _ := hn 121 (by decide)
          have h123 : σ 123 = _ := hn 123 (by decide)
          clear hn
          simp only [h116, h121, h123] at hK
          go_simp
          exact hK _ _ rfl (Below.refl _ _) (fun h => absurd h (by decide))
        · have h113 : σ 113 = _ := hn 113 (by decide)
          have h116 : σ 116 = _ := hn 116 (by decide)
          have h124 : σ 124 = _ := hn 124 (by decide)
          clear hn
          simp only [h113, h116, h124] at hK
          go_simp
          exact hK _ _ rfl (Below.refl _ _) (fun h => absurd h (by decide))
        · have h113 : σ 113 = _ := hn 113 (by decide)
          have h125 : σ 125 = _ := hn 125 (by decide)
          clear hn
          simp only [h113, h125] at hK
          go_simp
          exact hK _ _ rfl (Below.refl _ _) (fun h => absurd h (by decide))
        · have h126 : σ 126 = _ := hn 126 (by decide)
          clear hn
          simp only [h126] at hK
          go_simp
          exact hK _ _ rfl (Below.refl _ _) (fun h => absurd h (by decide))
      · intro σ2 W2 hb hR' hF
        have h6 : σ2 6 = .bool true := hR' 6 (by decide)
        clear hR' hF p0c p1c p2c p3c hKc hKcI n11 nkh kw kc kg kb aw
        simp only [fill, List.map, Act.put, List.setIfInBounds_toArray, List.set_cons_zero, List.set_cons_succ, List.length_cons, List.length_nil, List.drop_succ_cons, List.drop_zero, Nat.reduceAdd, h6]
        clear h6
        go_wp2_with fail
        go_ret
        exact ⟨rfl, bthen HB0.out (bthen HB.out hb)⟩
    · refine wp_loose [(85, []), (86, [85]), (87, [86]), (88, [86, 87]), (89, [88]), (90, [89]), (91, [89]), (92, [89]), (93, [89]), (94, [89]), (95, [89, 93, 94]), (96, [89]), (97, [89, 90, 91, 92, 95, 96]), (98, [89]), (99, [89, 98]), (100, [89, 97, 99]), (101, [89, 100]), (102, [101]), (103, [102]), (104, [102]), (105, [102]), (106, [102, 105]), (107, [102, 106]), (108, [102, 104, 107]), (109, [102, 103, 108]), (110, [102]), (111, [102, 109, 110]), (112, [102, 111]), (113, [112]), (114, [113]), (115, [113, 114]), (116, [113, 115]), (117, [116]), (118, [116]), (119, [116, 118]), (120, [116, 119]), (121, [116, 117, 120]), (122, [116]), (123, [116, 122]), (124, [116, 121, 123]), (125, [113, 116, 124]), (126, [113, 125]), (6, [126])]
        (Cho11 a1 a2 b1 b3 n1 cp1 n2 cp2 k K KM KH BL gp RL D d1 d3 RW) (fun d => false) (by kernel_rfl) (by kernel_rfl) (fun _ _ _ _ h hb => h.keep hb) ?_ ?_
      · refine opsrun_cons ?_ (opsrun_cons ?_ (opsrun_cons ?_ (opsrun_cons ?_ (opsrun_cons ?_ (opsrun_cons ?_ (opsrun_cons ?_ (opsrun_cons ?_ (opsrun_cons ?_ (opsrun_cons ?_ (opsrun_cons ?_ (opsrun_cons ?_ (opsrun_cons ?_ (opsrun_cons ?_ (opsrun_cons ?_ (opsrun_cons ?_ (opsrun_cons ?_ (opsrun_cons ?_ (opsrun_cons ?_ (opsrun_cons ?_ (opsrun_cons ?_ (opsrun_cons ?_ (opsrun_cons ?_ (opsrun_cons ?_ (opsrun_cons ?_ (opsrun_cons ?_ (opsrun_cons ?_ (opsrun_cons ?_ (opsrun_cons ?_ (opsrun_cons ?_ (opsrun_cons ?_ (opsrun_cons ?_ (opsrun_cons ?_ (opsrun_cons ?_ (opsrun_cons ?_ (opsrun_cons ?_ (opsrun_cons ?_ (opsrun_cons ?_ (opsrun_cons ?_ (opsrun_cons ?_ (opsrun_cons ?_ (opsrun_cons ?_ (opsrun_cons ?_ opsrun_nil))))))))))))))))))))))))))))))))))))))))))
        all_goals
          refine OpRuns.any ?_
          intro Q0 σ W' K hb hn hK
          simp only [fill, List.map, Act.put, List.setIfInBounds_toArray, List.set_cons_zero, List.set_cons_succ] at hK ⊢
        · clear hn
          go_simp
          go_at_call 8
          refine (aw _ (bthen HB.out hb)).mono ?_
          rintro e w1 ⟨rfl, hb1⟩
          exact hK _ _ rfl hb1 (fun h => absurd h (by decide))
        · have h85 : σ 85 = _ := hn 85 (by decide)
          clear hn
          simp only [h85] at hK
          go_simp
          exact hK _ _ rfl (Below.refl _ _) (fun h => absurd h (by decide))
        · have h86 : σ 86 = _ := hn 86 (by decide)
          clear hn
          simp only [h86] at hK
          go_simp
          exact hK _ _ rfl (Below.refl _ _) (fun h => absurd h (by decide))
        · have h86 : σ 86 = _ := hn 86 (by decide)
          have h87 : σ 87 = _ := hn 87 (by decide)
          clear hn
          simp only [h86, h87] at hK
          go_simp
          exact hK _ _ rfl (Below.refl _ _) (fun h => absurd h (by decide))
        · have h88 : σ 88 = _ := hn 88 (by decide)
          clear hn
          simp only [h88] at hK
          go_simp
          exact hK _ _ rfl (Below.refl _ _) (fun h => absurd h (by decide))
        · have h89 : σ 89 = _ := hn 89 (by decide)
          clear hn
          simp only [h89] at hK
          go_simp
          exact hK _ _ rfl (Below.refl _ _) (fun h => absurd h (by decide))
        · have h89 : σ 89 = _ := hn 89 (by decide)
          clear hn
          simp only [h89] at hK
          have p0c' := bkeep hb p0c
          have p1c' := bkeep hb p1c
          have p2c' := bkeep hb p2c
          have p3c' := bkeep hb p3c
          clear p0c p1c p2c p3c
          go_simp
          exact hK _ _ rfl (Below.refl _ _) (fun h => absurd h (by decide))
        · have h89 : σ 89 = _ := hn 89 (by decide)
          clear hn
          simp only [h89] at hK
          go_simp
          exact hK _ _ rfl (Below.refl _ _) (fun h => absurd h (by decide))
        · have h89 : σ 89 = _ := hn 89 (by decide)
          clear hn
          simp only [h89] at hK
          go_simp
          exact hK _ _ rfl (Below.refl _ _) (fun h => absurd h (by decide))
        · have h89 : σ 89 = _ := hn 89 (by decide)
          clear hn
          simp only [h89] at hK
          go_simp
          exact hK _ _ rfl (Below.refl _ _) (fun h => absurd h (by decide))
        · have h89 : σ 89 = _ := hn 89 (by decide)
          have h93 : σ 93 = _ := hn 93 (by decide)
          have h94 : σ 94 = _ := hn 94 (by decide)
          clear hn
          simp only [h89, h93, h94] at hK
          go_simp
          go_at_call 17
          refine (kw _ hb).mono ?_
          rintro e w1 ⟨hb1, qa, qc, rfl, ht, _⟩
          exact hK _ _ ⟨qa, qc, rfl, ht⟩ hb1 (fun h => absurd h (by decide))
        · have h89 : σ 89 = _ := hn 89 (by decide)
          clear hn
          simp only [h89] at hK
          go_simp
          exact hK _ _ rfl (Below.refl _ _) (fun h => absurd h (by decide))
        · have h89 : σ 89 = _ := hn 89 (by decide)
          have h90 : σ 90 = _ := hn 90 (by decide)
          have h91 : σ 91 = _ := hn 91 (by decide)
          have h92 : σ 92 = _ := hn 92 (by decide)
          have p95 : ∃ (qa : Option Addr) (qc : Nat), (σ 95) = .slice qa RL qc ∧ TabQ W' qa RL RW := hn 95 (by decide)
          have h96 : σ 96 = _ := hn 96 (by decide)
          clear hn
          simp only [h89, h90, h91, h92, h96] at hK
          obtain ⟨qa, qc, e1, ht⟩ := p95
          simp only [e1] at hK
          go_simp
          go_at_call 12
          refine (kc _ _ _ hb ht).mono ?_
          rintro e w1 ⟨rfl, hb1⟩
          exact hK _ _ rfl hb1 (fun h => absurd h (by decide))
        · have h89 : σ 89 = _ := hn 89 (by decide)
          clear hn
          simp only [h89] at hK
          go_simp
          exact hK _ _ rfl (Below.refl _ _) (fun h => absurd h (by decide))
        · have h89 : σ 89 = _ := hn 89 (by decide)
          have h98 : σ 98 = _ := hn 98 (by decide)
          clear hn
          simp only [h89, h98] at hK
          go_simp
          exact hK _ _ rfl (Below.refl _ _) (fun h => absurd h (by decide))
        · have h89 : σ 89 = _ := hn 89 (by decide)
          have h97 : σ 97 = _ := hn 97 (by decide)
          have h99 : σ 99 = _ := hn 99 (by decide)
          clear hn
          simp only [h89, h97, h99] at hK
          go_simp
          exact hK _ _ rfl (Below.refl _ _) (fun h => absurd h (by decide))
        · have h89 : σ 89 = _ := hn 89 (by decide)
          have h100 : σ 100 = _ := hn 100 (by decide)
          clear hn
          simp only [h89, h100] at hK
          go_simp
          exact hK _ _ rfl (Below.refl _ _) (fun h => absurd h (by decide))
        · have h101 : σ 101 = _ := hn 101 (by decide)
          clear hn
          simp only [h101] at hK
          go_simp
          exact hK _ _ rfl (Below.refl _ _) (fun h => absurd h (by decide))
        · have h102 : σ 102 = _ := hn 102 (by decide)
          clear hn
          simp only [h102] at hK
          go_simp
          exact hK _ _ rfl (Below.refl _ _) (fun h => absurd h (by decide))
        · have h102 : σ 102 = _ := hn 102 (by decide)
          clear hn
          simp only [h102] at hK
          go_simp
          exact hK _ _ rfl (Below.refl _ _) (fun h => absurd h (by decide))
        · have h102 : σ 102 = _ := hn 102 (by decide)
          clear hn
          simp only [h102] at hK
          go_simp
          exact hK _ _ rfl (Below.refl _ _) (fun h => absurd h (by decide))
        · have h102 : σ 102 = _ := hn 102 (by decide)
          have h105 : σ 105 = _ := hn 105 (by decide)
          clear hn
          simp only [h102, h105] at hK
          go_simp
          exact hK _ _ rfl (Below.refl _ _) (fun h => absurd h (by decide))
        · have h102 : σ 102 = _ := hn 102 (by decide)
          have h106 : σ 106 = _ := hn 106 (by decide)
          clear hn
          simp only [h102, h106] at hK
          go_simp
          exact hK _ _ rfl (Below.refl _ _) (fun h => absurd h (by decide))
        · have h102 : σ 102 = _ := hn 102 (by decide)
          have h104 : σ 104 = _ := hn 104 (by decide)
          have h107 : σ 107 = _ := hn 107 (by decide)
          clear hn
          simp only [h102, h104, h107] at hK
          go_simp
          exact hK _ _ rfl (Below.refl _ _) (fun h => absurd h (by decide))
        · have h102 : σ 102 = _ := hn 102 (by decide)
          have h103 : σ 103 = _ := hn 103 (by decide)
          have h108 : σ 108 = _ := hn 108 (by decide)
          clear hn
          simp only [h102, h103, h108] at hK
          go_simp
          go_at_call 18
          refine (kg _ hb).mono ?_
          rintro e w1 ⟨rfl, hb1⟩
          exact hK _ _ rfl hb1 (fun h => absurd h (by decide))
        · have h102 : σ 102 = _ := hn 102 (by decide)
          clear hn
          simp only [h102] at hK
          go_simp
          exact hK _ _ rfl (Below.refl _ _) (fun h => absurd h (by decide))
        · have h102 : σ 102 = _ := hn 102 (by decide)
          have h109 : σ 109 = _ := hn 109 (by decide)
          have h110 : σ 110 = _ := hn 110 (by decide)
          clear hn
          simp only [h102, h109, h110] at hK
          go_simp
          exact hK _ _ rfl (Below.refl _ _) (fun h => absurd h (by decide))
        · have h102 : σ 102 = _ := hn 102 (by decide)
          have h111 : σ 111 = _ := hn 111 (by decide)
          clear hn
          simp only [h102, h111] at hK
          go_simp
          exact hK _ _ rfl (Below.refl _ _) (fun h => absurd h (by decide))
        · have h112 : σ 112 = _ := hn 112 (by decide)
          clear hn
          simp only [h112] at hK
          go_simp
          exact hK _ _ rfl (Below.refl _ _) (fun h => absurd h (by decide))
        · have h113 : σ 113 = _ := hn 113 (by decide)
          clear hn
          simp only [h113] at hK
          go_simp
          exact hK _ _ rfl (Below.refl _ _) (fun h => absurd h (by decide))
        · have h113 : σ 113 = _ := hn 113 (by decide)
          have h114 : σ 114 = _ := hn 114 (by decide)
          clear hn
          simp only [h113, h114] at hK
          go_simp
          exact hK _ _ rfl (Below.refl _ _) (fun h => absurd h (by decide))
        · have h113 : σ 113 = _ := hn 113 (by decide)
          have h115 : σ 115 = _ := hn 115 (by decide)
          clear hn
          simp only [h113, h115] at hK
          go_simp
          exact hK _ _ rfl (Below.refl _ _) (fun h => absurd h (by decide))
        · have h116 : σ 116 = _ := hn 116 (by decide)
          clear hn
          simp only [h116] at hK
          go_simp
          exact hK _ _ rfl (Below.refl _ _) (fun h => absurd h (by decide))
        · have h116 : σ 116 = _ := hn 116 (by decide)
          clear hn
          simp only [h116] at hK
          go_simp
          exact hK _ _ rfl (Below.refl _ _) (fun h => absurd h (by decide))
        · have h116 : σ 116 = _ := hn 116 (by decide)
          have h118 : σ 118 = _ := hn 118 (by decide)
          clear hn
          simp only [h116, h118] at hK
          go_simp
          exact hK _ _ rfl (Below.refl _ _) (fun h => absurd h (by decide))
        · have h116 : σ 116 = _ := hn 116 (by decide)
          have h119 : σ 119 = _ := hn 119 (by decide)
          clear hn
          simp only [h116, h119] at hK
          go_simp
          exact hK _ _ rfl (Below.refl _ _) (fun h => absurd h (by decide))
        · have h116 : σ 116 = _ := hn 116 (by decide)
          have h117 : σ 117 = _ := hn 117 (by decide)
          have h120 : σ 120 = _ := hn 120 (by decide)
          clear hn
          simp only [h116, h117, h120] at hK
          go_simp
          go_at_call 10
          refine (kb _ hb).mono ?_
          rintro e w1 ⟨rfl, hb1⟩
          exact hK _ _ rfl hb1 (fun h => absurd h (by decide))
        · have h116 : σ 116 = _ := hn 116 (by decide)
          clear hn
          simp only [h116] at hK
          go_simp
          exact hK _ _ rfl (Below.refl _ _) (fun h => absurd h (by decide))
        · have h116 : σ 116 = _ := hn 116 (by decide)
          have h122 : σ 122 = _ := hn 122 (by decide)
          clear hn
          simp only [h116, h122] at hK
          go_simp
          exact hK _ _ rfl (Below.refl _ _) (fun h => absurd h (by decide))
        · have h116 : σ 116 = _ := hn 116 (by decide)
          have h121 : σ 121 = _ := hn 121 (by decide)
          have h123 : σ 123 = _ := hn 123 (by decide)
          clear hn
          simp only [h116, h121, h123] at hK
          go_simp
          exact hK _ _ rfl (Below.refl _ _) (fun h => absurd h (by decide))
        · have h113 : σ 113 = _ := hn 113 (by decide)
          have h116 : σ 116 = _ := hn 116 (by decide)
          have h124 : σ 124 = _ := hn 124 (by decide)
          clear hn
          simp only [h113, h116, h124] at hK
          go_simp
          exact hK _ _ rfl (Below.refl _ _) (fun h => absurd h (by decide))
        · have h113 : σ 113 = _ := hn 113 (by decide)
          have h125 : σ 125 = _ := hn 125 (by decide)
          clear hn
          simp only [h113, h125] at hK
          go_simp
          exact hK _ _ rfl (Below.refl _ _) (fun h => absurd h (by decide))
        · have h126 : σ 126 = _ := hn 126 (by decide)
          clear hn
          simp only [h126] at hK
          go_simp
          exact hK _ _ rfl (Below.refl _ _) (fun h => absurd h (by decide))
      · intro σ2 W2 hb hR' hF
        have h6 : σ2 6 = .bool true := hR' 6 (by decide)
        clear hR' hF p0c p1c p2c p3c hKc hKcI n11 nkh kw kc kg kb aw
        simp only [fill, List.map, Act.put, List.setIfInBounds_toArray, List.set_cons_zero, List.set_cons_succ, List.length_cons, List.length_nil, List.drop_succ_cons, List.drop_zero, Nat.reduceAdd, h6]
        clear h6
        go_wp2_with fail
        go_ret
        exact ⟨rfl, bthen HB0.out (bthen HB.out hb)⟩
end Go.Proofs.YthfkfgjhgicfeaaDoor
