/-
  The walk of JudgeHonest: it answers true, where the program's Judge does what is asked of it.
-/
import Derived.Test.YteghnaocncmiaaaJLSeen
import Derived.Test.YteghnaocncmiaaaCNDown
import Derived.Test.YteghnaocncmiaaaGChain
import Derived.Test.YteghnaocncmiaaaJAwake
namespace Go.Proofs.Yteghnaocncmiaaa
open Go Go.RowKit Go.Sort Go.BigFrame
set_option linter.unusedVariables false

theorem getD_U {l : QL} (h : ∀ n ∈ l, U n.1 ∧ U n.2) (i : Nat) : U (l.getD i (0, 0)).1 ∧ U (l.getD i (0, 0)).2 := by
  by_cases c : i < l.length
  · have e : l.getD i (0, 0) = l[i] := by simp [List.getD, c]
    rw [e]; exact h _ (List.getElem_mem c)
  · have e : l.getD i (0, 0) = (0, 0) := by simp [List.getD, c]
    rw [e]; exact ⟨⟨by decide, by decide⟩, by decide, by decide⟩
theorem twoAt_U {l : QL} (h : ∀ n ∈ l, U n.1 ∧ U n.2) (i H : Nat) : UsQ (twoAt l i H) := ⟨getD_U h i, getD_U h (i + H)⟩
theorem seenL_U {rows : List QL} (h : ∀ r ∈ rows, ∀ n ∈ r, U n.1 ∧ U n.2) (m pl k : Nat) : ∀ q ∈ seenL rows m pl k, UsQ q := by
  intro q hq
  obtain ⟨j, _, rfl⟩ := List.mem_map.1 hq
  by_cases c : j + 1 < rows.length
  · have e : rows.getD (j + 1) [] = rows[j + 1] := by simp [List.getD, c]
    rw [e]; exact twoAt_U (h _ (List.getElem_mem c)) _ _
  · have e : rows.getD (j + 1) [] = [] := by simp [List.getD, c]
    rw [e]; exact twoAt_U (fun n hn => absurd hn List.not_mem_nil) _ _
/-- What is opened of a polynomial's words is taken. -/
structure HonestP (z ys : QL) (k bl pl MX J : Nat) : Prop where
  len : ∀ j, j < MX → (((chRows (forthQ z (shiftF 0) (k + bl)) ys ys.length).take MX).getD j []).length = 2 ^ (k + bl - j)
  usq : UsQ (twoAt (((chRows (forthQ z (shiftF 0) (k + bl)) ys ys.length).take MX).getD 0 []) pl (2 ^ (k + bl - 1)))
  usl : ∀ q ∈ seenL ((chRows (forthQ z (shiftF 0) (k + bl)) ys ys.length).take MX) (k + bl) pl J, UsQ q
  yes : judgeB (k : Int) (bl : Int) (ys.length : Int) ys (pl : Int) (twoAt (((chRows (forthQ z (shiftF 0) (k + bl)) ys ys.length).take MX).getD 0 []) pl (2 ^ (k + bl - 1))) (seenL ((chRows (forthQ z (shiftF 0) (k + bl)) ys ys.length).take MX) (k + bl) pl J) (nrmQ (chZ z ys k ys.length)) = true
theorem honest_all (z ys : QL) (k bl pl MX J : Nat) (hz : z.length = 2 ^ k) (hk : k ≤ 10) (hb1 : 1 ≤ bl) (hb : bl ≤ 4) (hy : ys.length ≤ k) (hpl : pl < 2 ^ (k + bl - 1)) (hM : MX = max 1 ys.length) (hJ : J = ys.length - 1) : HonestP z ys k bl pl MX J := by
  have hD := chain_down z ys k (k + bl) hz (by omega) (by omega)
  have hat : ∀ j, j < MX → ((chRows (forthQ z (shiftF 0) (k + bl)) ys ys.length).take MX).getD j [] = chW (forthQ z (shiftF 0) (k + bl)) ys j := fun j hj => by
    rw [show ((chRows (forthQ z (shiftF 0) (k + bl)) ys ys.length).take MX).getD j [] = (chRows (forthQ z (shiftF 0) (k + bl)) ys ys.length).getD j [] by simp [List.getD, hj], chRows_at _ _ (by omega)]
  have hMX : 1 ≤ MX := by omega
  refine ⟨fun j hj => ?_, ?_, ?_, ?_⟩
  · rw [hat j hj, (hD j (by omega)).1]; exact forthQ_len _ _ _
  · rw [hat 0 (by omega), (hD 0 (by omega)).1]; exact twoAt_U (joinL_U _ _) _ _
  · intro q hq
    obtain ⟨j, hj, rfl⟩ := List.mem_map.1 hq
    have hj := List.mem_range.1 hj
    rw [hat (j + 1) (by omega), (hD (j + 1) (by omega)).1]
    exact twoAt_U (joinL_U _ _) _ _
  · refine judge_honest z ys k bl pl _ _ hz hk hb1 hb hy hpl (by rw [hat 0 (by omega)]) (by rw [seenL_len, hJ]) fun j hj => ?_
    rw [seenL_at _ _ _ (by omega), hat (j + 1) (by omega)]
structure HnN (k BL n2 M MX : Nat) : Prop where
  a : IntKind.i64.wrap ((k : Int) + (BL : Int)) = (M : Int)
  b : wrap64 ((k : Int) + (BL : Int)) = (M : Int)
  c : IntKind.i64.wrap ((M : Int) - 1) = ((M - 1 : Nat) : Int)
  d : wrap64 ((M : Int) - 1) = ((M - 1 : Nat) : Int)
  e : max 1 (n2 : Int) = (MX : Int)
  f : (0 : Int) ≤ (MX : Int)
theorem hn_all {k BL n2 M MX : Nat} (h1 : k < 4) (h2 : BL ≤ 2) (h3 : k + BL = M) (h4 : MX = max 1 n2) (h5 : 1 ≤ BL) : HnN k BL n2 M MX :=
  ⟨by rw [IntWalk.i64_in _ (by omega)]; omega, by rw [IntWalk.wrap64_in _ (by omega)]; omega, by rw [IntWalk.i64_in _ (by omega)]; omega, by rw [IntWalk.wrap64_in _ (by omega)]; omega, by omega, by omega⟩
theorem hn_i64 {k BL n2 PL M1 : Nat} (h1 : k < 4) (h2 : BL ≤ 2) (h3 : n2 ≤ 4) (h4 : PL < 2 ^ M1) (h5 : M1 ≤ 6) : I64 (k : Int) ∧ I64 (BL : Int) ∧ I64 (n2 : Int) ∧ I64 (PL : Int) := by
  have h6 : 2 ^ M1 ≤ 2 ^ 6 := Nat.pow_le_pow_right (by decide) h5
  rw [show (2 : Nat) ^ 6 = 64 by decide] at h6
  generalize 2 ^ M1 = X at *
  unfold I64
  omega
structure PlN (t P PL : Int) : Prop where
  a : t.tmod P = PL
  b : t % P = PL
  c : ¬ P = 0
  d : IntKind.i64.wrap t = t
theorem pl_all {t : Int} (h : 0 ≤ t ∧ t < 256) (P : Nat) (hP : 0 < P) : ∃ PL : Nat, PL < P ∧ PlN t (P : Int) (PL : Int) := by
  obtain ⟨PL, h1, h2⟩ := cn_mod h.1 P hP
  exact ⟨PL, h1, h2, by rw [← h2, Int.tmod_eq_emod_of_nonneg h.1], by omega, IntWalk.i64_in _ (by omega)⟩
theorem bl_all {mo : Nat} (h : mo < 2) : IntKind.i64.wrap (1 + (mo : Int)) = ((1 + mo : Nat) : Int) ∧ wrap64 (1 + (mo : Int)) = ((1 + mo : Nat) : Int) :=
  ⟨by rw [IntWalk.i64_in _ (by omega)]; omega, by rw [IntWalk.wrap64_in _ (by omega)]; omega⟩
set_option maxRecDepth 100000 in
set_option maxHeartbeats 8000000 in
theorem judge_honestB (G : World → Prop) (hA : AskJudge G) (a1 : Option Addr) (n1 cp1 : Nat) (l : QL) (a2 : Option Addr) (n2 cp2 : Nat) (ys : QL) (t0 t1 t2 : Int) (w : World) (hG : G w) (ha : QRowA w a1 n1 l) (hu : ∀ n ∈ l, U n.1 ∧ U n.2) (ha2 : QRowA w a2 n2 ys) (hu2 : ∀ n ∈ ys, U n.1 ∧ U n.2) (hcp : n1 ≤ cp1) (ht0 : 0 ≤ t0 ∧ t0 < 256) (ht1 : 0 ≤ t1 ∧ t1 < 256) (ht2 : 0 ≤ t2 ∧ t2 < 256) :
    Calls Try.prog 4 #[.slice a1 n1 cp1, .slice a2 n2 cp2, .agg #[.int .u8 t0, .int .u8 t1, .int .u8 t2]] w fun e w' => e = .returned (.bool true) ∧ Below w.heap.size w w' := by
  have hl1 := ha.1
  have hl2 := ha2.1
  have HA10 := Lib.hid ha; have HA20 := Lib.hid ha2; have HG0 := Lib.hid hG
  have HU2 := Lib.hid hu2; have HUY := Lib.hid hu2; have HT2 := Lib.hid ht2
  obtain ⟨k, hk4, e0⟩ := cn_mod ht0.1 4 (by decide)
  obtain ⟨mo, hmo, e1⟩ := cn_mod ht1.1 2 (by decide)
  rw [show ((4 : Nat) : Int) = 4 from rfl] at e0
  rw [show ((2 : Nat) : Int) = 2 from rfl] at e1
  obtain ⟨q5, q6⟩ := bl_all hmo
  obtain ⟨BL, hBL⟩ : ∃ q, 1 + mo = q := ⟨_, rfl⟩
  rw [hBL] at q5 q6
  obtain ⟨q1, q2, q2'⟩ := cn_id k (by omega)
  obtain ⟨q3, q4, q4'⟩ := cn_id mo (by omega)
  have hp := cn_pow k (by omega)
  have HBL := Lib.hid (show 1 ≤ BL ∧ BL ≤ 2 by omega)
  have HK4 := Lib.hid hk4
  have hk6 : k ≤ 6 := by omega
  clear hG ha ha2 ht0 ht1 ht2 hBL hk4 hmo hu2
  go_enter Try.func4, Try.ntmps4
  go_upto_region 1 with fail
  obtain ⟨g, hg⟩ : ∃ g, w.heap.size = g := ⟨_, rfl⟩
  refine wp_gen (fun W => Below w.heap.size w W ∧ W.cell? ⟨g, 0, none⟩ = some (.int .u8 t0) ∧ W.cell? ⟨g, 1, none⟩ = some (.int .u8 t1) ∧ W.cell? ⟨g, 2, none⟩ = some (.int .u8 t2)) ⟨(Below.refl _ _).alloc (Nat.le_refl _) _, by subst hg; simp [go_sem], by subst hg; simp [go_sem], by subst hg; simp [go_sem]⟩ ?_
  rintro w9 ⟨hB0, t0c, t1c, t2c⟩
  simp only [hg]
  have HB0 := Lib.hid hB0
  have HT2C := Lib.hid t2c
  clear hB0 hg
  go_upto_region 3 with fail
  obtain ⟨gp, hgp⟩ : ∃ g, w9.heap.size = g := ⟨_, rfl⟩
  have hsz9 := HB0.out.size
  refine wp_gen (fun W => Below w.heap.size w W ∧ W.cell? ⟨g, 2, none⟩ = some (.int .u8 t2) ∧ W.cell? ⟨gp, 0, none⟩ = some (.int .i64 (BL : Int)) ∧ W.cell? ⟨gp, 1, none⟩ = some (.int .i64 (n2 : Int)) ∧ W.cell? ⟨gp, 2, none⟩ = some (.int .i64 1) ∧ W.cell? ⟨gp, 3, none⟩ = some (.int .i64 0)) ⟨HB0.out.alloc hsz9 _, bkeep ((Below.refl _ _).alloc (Nat.le_refl _) _) HT2C.out, by subst hgp; simp [go_sem], by subst hgp; simp [go_sem], by subst hgp; simp [go_sem], by subst hgp; simp [go_sem]⟩ ?_
  clear HB0 HT2C t0c t1c t2c hsz9 e0 e1 q2 q3 q4 q4' q5 q6
  rintro w0 ⟨hB0, t2c, p0c, p1c, p2c, p3c⟩
  simp only [hgp]
  have HB0 := Lib.hid hB0
  have HA1 := Lib.hid (HA10.out.keep hB0); have HA2 := Lib.hid (HA20.out.keep hB0); have HG := Lib.hid (hA.keep HG0.out hB0)
  have HB : Hid (Below w0.heap.size w0 w0) := Lib.hid (Below.refl _ _)
  have HCELL := Lib.hid (And.intro t2c (And.intro p0c (And.intro p1c (And.intro p2c p3c))))
  have aw := fun W (h : Below w0.heap.size w0 W) => jawake G hA W (hA.keep HG.out h)
  clear hB0 hgp HG0 HA10 HA20 t2c p1c p2c p3c
  obtain ⟨K, hKK⟩ : ∃ K, 2 ^ k = K := ⟨_, rfl⟩
  rw [hKK] at hp
  have HKK := Lib.hid hKK
  clear hKK
  by_cases hs : (n1 : Int) < (K : Int)
  · go_wp2_with (go_at_call 8; (with_reducible refine (aw _ HB.out).mono ?_); rintro e w1 ⟨rfl, hb⟩; replace HB := Lib.hid (bthen HB.out hb); clear hb)
    go_ret
    exact ⟨rfl, bthen HB0.out HB.out⟩
  by_cases hs2 : (k : Int) < (n2 : Int)
  · go_wp2_with (go_at_call 8; (with_reducible refine (aw _ HB.out).mono ?_); rintro e w1 ⟨rfl, hb⟩; replace HB := Lib.hid (bthen HB.out hb); clear hb)
    go_ret
    exact ⟨rfl, bthen HB0.out HB.out⟩
  have hn1 : K ≤ n1 := cn_neg hs
  have hn2 : n2 ≤ k := cn_neg hs2
  have hKc : K ≤ cp1 := Nat.le_trans hn1 hcp
  have hKcI : (K : Int) ≤ (cp1 : Int) := Int.ofNat_le.2 hKc
  obtain ⟨M, hM⟩ : ∃ M, k + BL = M := ⟨_, rfl⟩
  obtain ⟨MX, hMX⟩ : ∃ x, max 1 n2 = x := ⟨_, rfl⟩
  have hn := hn_all HK4.out HBL.out.2 hM hMX.symm HBL.out.1
  obtain ⟨c⟩ := Nonempty.intro (cn_all (M := M) (show k < 5 by have := HK4.out; omega) hn2 (by have := HBL.out; omega) (by have := HBL.out; have := HK4.out; omega))
  have hzl : (l.take K).length = 2 ^ k := by rw [HKK.out]; exact cn_len hl1 hn1
  have hzU : ∀ n ∈ l.take K, U n.1 ∧ U n.2 := fun n hn => hu n (List.mem_of_mem_take hn)
  have f1 := fun W (h : Below w0.heap.size w0 W) => refforthq_yes a1 K cp1 (l.take K) 7 (by unfold U; decide) (shiftF 0) (by decide +kernel) M c.M20 W ((HA1.out.keep h).cut hn1) hzU (by rw [← HKK.out]; exact c.p1)
  obtain ⟨hd1, hd2⟩ := chain_down (l.take K) ys k M hzl c.kM c.M20 n2 hn2
  have hzr := chZ_len (l.take K) ys k hzl n2
  have hfU : ∀ n ∈ forthQ (l.take K) (shiftF 0) M, U n.1 ∧ U n.2 := joinL_U _ _
  have hok : chOk (forthQ (l.take K) (shiftF 0) M) ys ys.length = true := by rw [hl2]; exact hd2
  have k1 := fun W a d (hq : QRowA W a (2 ^ M) (forthQ (l.take K) (shiftF 0) M)) (h : Below w0.heap.size w0 W) => rcwords_is a (2 ^ M) d _ a2 n2 cp2 ys _ true W hq hfU (HA2.out.keep h) HU2.out c.n1000 (chainV_yes hok)
  unfold WordsPost at k1
  have hN : (chRows (forthQ (l.take K) (shiftF 0) M) ys ys.length).length = n2 + 1 := by rw [chRows_len, hl2]
  rw [hN] at k1
  have hlast : (chRows (forthQ (l.take K) (shiftF 0) M) ys ys.length).getD n2 [] = forthQ (chZ (l.take K) ys k n2) (shiftF (n2 : Int)) (M - n2) := by rw [chRows_at _ _ (by rw [hl2]; exact Nat.le_refl _), hd1]
  have HLAST := Lib.hid hlast
  obtain ⟨PL, hPL, hpl⟩ := pl_all HT2.out (2 ^ (M - 1)) (Nat.two_pow_pos _)
  have HHON := Lib.hid (honest_all (l.take K) ys k BL PL MX (n2 - 1) hzl (by have := HK4.out; omega) HBL.out.1 (by have := HBL.out; omega) (by rw [hl2]; exact hn2) (by rw [hM]; exact hPL) (by rw [hl2]; exact hMX.symm) (by rw [hl2]))
  have HMJ : Hid (MX = max 1 n2) := Lib.hid hMX.symm
  have HMX : Hid (1 ≤ MX ∧ MX ≤ M ∧ MX ≤ n2 + 1) := Lib.hid (by have := HBL.out; omega)
  obtain ⟨zr, hzz⟩ : ∃ z, chZ (l.take K) ys k n2 = z := ⟨_, rfl⟩
  have HZZ : Hid (chZ (l.take K) ys k ys.length = zr) := Lib.hid (by rw [hl2]; exact hzz)
  rw [hzz] at hzr HLAST
  have hff := fin_forth zr (n2 : Int) (M - n2) c.Md (by rw [hzr]; exact c.p3)
  have hLU : ∀ n ∈ forthQ zr (shiftF (n2 : Int)) (M - n2), U n.1 ∧ U n.2 := joinL_U _ _
  have hLl : (forthQ zr (shiftF (n2 : Int)) (M - n2)).length = 2 ^ (M - n2) := forthQ_len _ _ _
  rw [hzr] at hff
  have k2 := fun W a d (hq : QRowA W a (2 ^ (M - n2)) (forthQ zr (shiftF (n2 : Int)) (M - n2))) => rcfinal_is a (2 ^ (M - n2)) d _ (n2 : Int) ((2 ^ (k - n2) : Nat) : Int) _ true W hq hLU c.p4 c.p5 hff
  unfold WordPost at k2
  have hnl : (nrmQ zr).length = 2 ^ (k - n2) := by rw [nrmQ_len, hzr]
  rw [hnl] at k2
  have HLL : Hid ((forthQ zr (shiftF (n2 : Int)) (M - n2)).length = 2 ^ (M - n2)) := Lib.hid hLl
  have HNU := Lib.hid (nrmQ_U zr)
  obtain ⟨rows, hrows⟩ : ∃ r, chRows (forthQ (l.take K) (shiftF 0) M) ys ys.length = r := ⟨_, rfl⟩
  rw [hrows] at k1 HLAST
  have HH : Hid ((∀ j, j < MX → ((rows.take MX).getD j []).length = 2 ^ (M - j)) ∧ UsQ (twoAt ((rows.take MX).getD 0 []) PL (2 ^ (M - 1))) ∧ (∀ q ∈ seenL (rows.take MX) M PL (n2 - 1), UsQ q) ∧ judgeB (k : Int) (BL : Int) (n2 : Int) ys (PL : Int) (twoAt ((rows.take MX).getD 0 []) PL (2 ^ (M - 1))) (seenL (rows.take MX) M PL (n2 - 1)) (nrmQ zr) = true) := Lib.hid (by
    have h := HHON.out
    obtain ⟨h1, h2, h3, h4⟩ := h
    rw [HZZ.out, hl2] at h4
    rw [hM] at h1 h2 h3 h4
    rw [← hl2, hrows] at h4
    rw [hrows] at h1 h2 h3
    rw [hl2] at h4
    exact ⟨h1, h2, h3, h4⟩)
  -- the numbers
  have p6 := cn_sub k n2 hn2 c.k100
  have p8 := cn_pow (k - n2) c.kd6
  have p10 := cn_id (k - n2) c.kd100
  have p12 := cn_pow (M - 1) (by have := c.M6; omega)
  have p13 := cn_id (M - 1) (by have := c.M6; omega)
  have hm6 : M - 1 ≤ 6 := by have := c.M6; omega
  have HIN : Hid (I64 (k : Int) ∧ I64 (BL : Int) ∧ I64 (n2 : Int) ∧ I64 (PL : Int)) := Lib.hid (hn_i64 HK4.out HBL.out.2 c.n4 hPL hm6)
  clear hu hzl hzU hd1 hd2 hfU hok hN hlast hzz hzr hff hLU hLl hnl HA1 hl1 hrows HHON HZZ hM hMX HU2
  obtain ⟨d, hd⟩ : ∃ d, k - n2 = d := ⟨_, rfl⟩
  have hd6 := c.kd6
  have HC20 := Lib.hid c.M20
  rw [hd] at p6 p8 p10 k2 hd6
  generalize forthQ zr (shiftF (n2 : Int)) (M - n2) = last at *
  obtain ⟨fz, hfz⟩ : ∃ f, nrmQ zr = f := ⟨_, rfl⟩
  rw [hfz] at k2 HNU HH
  obtain ⟨D, hDD⟩ : ∃ D, 2 ^ d = D := ⟨_, rfl⟩
  obtain ⟨MM, hMM⟩ : ∃ D, 2 ^ (M - n2) = D := ⟨_, rfl⟩
  obtain ⟨KM, hKMM⟩ : ∃ D, 2 ^ M = D := ⟨_, rfl⟩
  obtain ⟨M1, hM1⟩ : ∃ D, M - 1 = D := ⟨_, rfl⟩
  obtain ⟨P2, hP2⟩ : ∃ D, 2 ^ M1 = D := ⟨_, rfl⟩
  obtain ⟨n5, n6, n7, n8, n9, n10⟩ := hn
  rw [hDD] at p8 k2
  rw [hMM] at k2 HLL
  rw [hKMM] at f1 k1
  rw [hM1] at p12 p13 n7 n8 hm6 hPL hpl
  rw [hP2] at p12 hPL hpl
  obtain ⟨p6a, p6b⟩ := p6
  obtain ⟨p10a, _, p10b⟩ := p10
  obtain ⟨p13a, _, p13b⟩ := p13
  obtain ⟨y1, y2, y3, y4⟩ := hpl
  have HP := Lib.hid (And.intro p6a (And.intro p6b (And.intro p8 (And.intro p10a p10b))))
  have HP2 := Lib.hid (And.intro n7 (And.intro n8 (And.intro p12 (And.intro p13a (And.intro p13b (And.intro y1 (And.intro y2 (And.intro y3 y4))))))))
  have HP3 := Lib.hid (And.intro n9 n10)
  have HPL : Hid (PL < 2 ^ (M - 1)) := Lib.hid (by rw [hM1, hP2]; exact hPL)
  clear hDD hMM hKMM hd hM1 hP2 c p6a p6b p8 p10a p10b n7 n8 n9 n10 p12 p13a p13b y1 y2 y3 y4 hn1 hn2 hcp hl2 hPL hfz
  unfold NewOkQ at f1
  go_upto_region 6 with fail
  clear n5 n6 p0c
  go_upto_region 7 with (go_at_call 13; (with_reducible refine (f1 _ HB.out).mono ?_); rintro e w1 ⟨b1, d1, rfl, hb, hq⟩; have HQ1 := Lib.hid hq.at; replace HB := Lib.hid (bthen HB.out hb); clear hb hq)
  clear f1 hs hs2 hp hKc hKcI
  go_upto_region 8 with (go_at_call 14; (with_reducible refine (k1 _ _ _ HQ1.out HB.out).mono ?_); rintro e w2 ⟨hb, b2, d2, rfl, ht, hd2⟩; have HT := Lib.hid ht; have HD2 := Lib.hid hd2; replace HB := Lib.hid (bthen HB.out hb); clear hb ht hd2)
  clear k1 HQ1
  obtain ⟨p6a, p6b, p8, p10a, p10b⟩ := HP.out
  clear HP
  obtain ⟨g9, o9, e9, aj, cj, c9, hj9⟩ := HT.out.2.2 n2 (Nat.lt_succ_self n2)
  subst e9
  rw [HLAST.out, HLL.out] at c9 hj9
  have HJ9 := Lib.hid hj9
  have hnn : (n2 : Int) < ((n2 + 1 : Nat) : Int) := Int.ofNat_lt.2 (Nat.lt_succ_self n2)
  have hnz : (0 : Int) ≤ (n2 : Int) := Int.natCast_nonneg n2
  clear hj9 HLAST HLL
  go_upto_region 13 with (go_at_call 15; (with_reducible refine (k2 _ _ _ HJ9.out).mono ?_); rintro e w3 ⟨hb, b3, d3, rfl, hq⟩; have HF := Lib.hid hq; replace HT := Lib.hid (HT.out.keep hb); replace HB := Lib.hid (bthen HB.out hb); clear hb hq)
  clear c9 k2 HJ9 p6a p6b p8 p10a p10b hnn hnz hd6
  obtain ⟨t2c, p0c, p1c, p2c, p3c⟩ := HCELL.out
  replace t2c := bkeep HB.out t2c
  obtain ⟨n7, n8, p12, p13a, p13b, y1, y2, y3, y4⟩ := HP2.out
  clear HP2 p0c p1c p2c p3c
  go_upto_region 14 with fail
  clear n7 n8 p12 p13a p13b y1 y2 y3 y4 t2c hk6 q2' hm6
  obtain ⟨n9, n10⟩ := HP3.out
  have hMc : (MX : Int) ≤ (d2 : Int) := by have := HMX.out.2.2; have := HD2.out; omega
  obtain ⟨q, hqq⟩ : ∃ q, twoAt ((rows.take MX).getD 0 []) PL (2 ^ (M - 1)) = q := ⟨_, rfl⟩
  have ks := fun W c (h : TabQ W (some ⟨g9, o9, none⟩) MX (rows.take MX)) => seen_is _ MX c (rows.take MX) M PL W h HMX.out.1 HMX.out.2.1 HC20.out HPL.out HH.out.1 q hqq (MX - 1) rfl
  obtain ⟨_, hh2, hh3, hh4⟩ := HH.out
  rw [hqq] at hh2 hh4
  have hJJ : MX - 1 = n2 - 1 := by have := HMX.out; have := HMJ.out; omega
  rw [hJJ] at ks
  obtain ⟨J, hJ⟩ : ∃ J, n2 - 1 = J := ⟨_, rfl⟩
  rw [hJ] at ks hh3 hh4
  obtain ⟨⟨q0, q1'⟩, q2, q3⟩ := q
  have HTM := Lib.hid (HT.out.cut HMX.out.2.2)
  have HHH := Lib.hid (And.intro hh2 (And.intro hh3 hh4))
  clear hh2 hh3 hh4 HH HT HMX hJJ hJ hqq HPL HC20 HD2 HP3 HMJ
  go_upto_region 15 with (go_at_call 16; (with_reducible refine (ks _ _ HTM.out).mono ?_); rintro e w4 ⟨hb, la, lc, rfl, hql⟩; have HQL := Lib.hid hql; replace HF := Lib.hid (HF.out.keep hb); replace HB := Lib.hid (bthen HB.out hb); clear hb hql)
  clear ks HTM n9 n10 hMc
  obtain ⟨gf, hgf⟩ : ∃ g, w4.heap.size = g := ⟨_, rfl⟩
  have hs4 := HB.out.size
  have hal : ∀ o, Below w4.heap.size w4 (w4.alloc o) := fun o => (Below.refl _ _).alloc (Nat.le_refl _) _
  refine wp_gen (fun W => Below w0.heap.size w0 W ∧ QuadsA W la J (seenL (rows.take MX) M PL J) ∧ QRowA W b3 D fz ∧ QuadC W gf ((q0, q1'), (q2, q3))) ⟨HB.out.alloc hs4 _, HQL.out.keep (hal _), HF.out.keep (hal _), by subst hgf; simp [QuadC, go_sem]⟩ ?_
  clear HB HQL HF hs4 hal
  rintro w5 ⟨hB, hql, hf, hqc⟩
  simp only [hgf]
  clear hgf
  have HB := Lib.hid hB; have HQL := Lib.hid hql; have HF := Lib.hid hf; have HQC := Lib.hid hqc
  obtain ⟨t2c, p0c, p1c, p2c, p3c⟩ := HCELL.out
  have HPC := Lib.hid (And.intro p0c (And.intro p1c (And.intro p2c p3c)))
  obtain ⟨v0, v1, v2, v3⟩ := hqc
  replace p0c := bkeep hB p0c; replace p1c := bkeep hB p1c; replace p2c := bkeep hB p2c; replace p3c := bkeep hB p3c
  have HKBN := Lib.hid HIN.out
  have kj := fun W (h : Below w5.heap.size w5 W) => hA.judge (k : Int) (BL : Int) (n2 : Int) 1 0 a2 n2 cp2 ys (PL : Int) ((q0, q1'), (q2, q3)) la J lc _ b3 D d3 fz true W HKBN.out.1 HKBN.out.2.1 HKBN.out.2.2.1 HKBN.out.2.2.2 ((HA2.out.keep hB).keep h) HUY.out HHH.out.1 (hql.keep h) HHH.out.2.1 (hf.keep h) HNU.out HHH.out.2.2 (hA.keep (hA.keep HG.out hB) h)
  have HB6 := Lib.hid (Below.refl w5.heap.size w5)
  clear t2c hB hql hf HCELL HQL HF
  go_wp2_with (first
    | (go_at_call 8; (with_reducible refine (aw _ (bthen HB.out HB6.out)).mono ?_); rintro e w8 ⟨rfl, hb⟩; clear p0c p1c p2c p3c v0 v1 v2 v3; obtain ⟨p0c, p1c, p2c, p3c⟩ := HPC.out; obtain ⟨v0, v1, v2, v3⟩ := HQC.out; replace HB6 := Lib.hid (bthen HB6.out hb); replace p0c := bkeep (bthen HB.out HB6.out) p0c; replace p1c := bkeep (bthen HB.out HB6.out) p1c; replace p2c := bkeep (bthen HB.out HB6.out) p2c; replace p3c := bkeep (bthen HB.out HB6.out) p3c; replace v0 := bkeep HB6.out v0; replace v1 := bkeep HB6.out v1; replace v2 := bkeep HB6.out v2; replace v3 := bkeep HB6.out v3; clear hb)
    | (go_at_call 11; (with_reducible refine (kj _ HB6.out).mono ?_); rintro e w9 ⟨rfl, hb⟩; replace HB6 := Lib.hid (bthen HB6.out hb); clear hb))
  go_ret
  exact ⟨rfl, bthen HB0.out (bthen HB.out HB6.out)⟩
end Go.Proofs.Yteghnaocncmiaaa
