/-
  The walk of ChainDown: it answers true, where the program's calls do what is asked of them.
-/
import Derived.Test.YtpckjlfnhfelkaaDoorGChain
import Derived.Test.YtpckjlfnhfelkaaDoorSame
import Derived.Test.YtpckjlfnhfelkaaDoorGRows
import Derived.BigQuiet
namespace Go.Proofs.YtpckjlfnhfelkaaDoor
open Go Go.RowKit Go.Sort Go.BigFrame
set_option linter.unusedVariables false

theorem cn_pow (M : Nat) (h : M ≤ 6) : wrap64 ((2 : Int) ^ M) = ((2 ^ M : Nat) : Int) := by
  have : M = 0 ∨ M = 1 ∨ M = 2 ∨ M = 3 ∨ M = 4 ∨ M = 5 ∨ M = 6 := by omega
  rcases this with rfl | rfl | rfl | rfl | rfl | rfl | rfl <;> decide +kernel
theorem cn_sub (a b : Nat) (h : b ≤ a) (ha : a ≤ 100) : IntKind.i64.wrap ((a : Int) - (b : Int)) = ((a - b : Nat) : Int) ∧ wrap64 ((a : Int) - (b : Int)) = ((a - b : Nat) : Int) :=
  ⟨by rw [IntWalk.i64_in _ (by omega)]; omega, by rw [IntWalk.wrap64_in _ (by omega)]; omega⟩
theorem cn_add (a b : Nat) (ha : a ≤ 100) (hb : b ≤ 100) : IntKind.i64.wrap ((a : Int) + (b : Int)) = ((a + b : Nat) : Int) ∧ wrap64 ((a : Int) + (b : Int)) = ((a + b : Nat) : Int) :=
  ⟨by rw [IntWalk.i64_in _ (by omega)]; omega, by rw [IntWalk.wrap64_in _ (by omega)]; omega⟩
theorem cn_one (a : Nat) (ha : a ≤ 100) : IntKind.i64.wrap ((a : Int) + 1) = ((a + 1 : Nat) : Int) ∧ wrap64 ((a : Int) + 1) = ((a + 1 : Nat) : Int) :=
  ⟨by rw [IntWalk.i64_in _ (by omega)]; omega, by rw [IntWalk.wrap64_in _ (by omega)]; omega⟩
theorem cn_id (a : Nat) (ha : a ≤ 100) : IntKind.i64.wrap (a : Int) = (a : Int) ∧ IntKind.u8.wrap (a : Int) = (a : Int) ∧ IntKind.u64.wrap (a : Int) = (a : Int) :=
  ⟨IntWalk.i64_in _ (by omega), by rw [IntKind.wrap_u8]; omega, by rw [IntKind.wrap_u64]; omega⟩
theorem cn_mod {t : Int} (h : 0 ≤ t) (n : Nat) (hn : 0 < n) : ∃ k : Nat, k < n ∧ t.tmod (n : Int) = (k : Int) := by
  have h1 := Int.emod_nonneg t (show (n : Int) ≠ 0 by omega)
  have h2 := Int.emod_lt_of_pos t (show (0 : Int) < (n : Int) by omega)
  refine ⟨(t % (n : Int)).toNat, by omega, ?_⟩
  rw [Int.tmod_eq_emod_of_nonneg h]
  omega
structure CnN (k n2 M : Nat) : Prop where
  k4 : k ≤ 4
  n4 : n2 ≤ 4
  nk : n2 ≤ k
  kM : k < M
  M6 : M ≤ 6
  M20 : M ≤ 20
  Mn : n2 ≤ M
  Md : M - n2 ≤ 20
  Md6 : M - n2 ≤ 6
  kd6 : k - n2 ≤ 6
  k100 : k ≤ 100
  M100 : M ≤ 100
  n100 : n2 ≤ 100
  kd100 : k - n2 ≤ 100
  Md100 : M - n2 ≤ 100
  n1000 : n2 ≤ 1000
  p1 : 2 ^ k ≤ 2 ^ M
  p2 : 2 ^ M ≤ 4294967296
  p3 : 2 ^ (k - n2) ≤ 2 ^ (M - n2)
  p4 : 2 ^ (M - n2) ≤ 4294967296
  p5 : I64 ((2 ^ (k - n2) : Nat) : Int)
  i64 : I64 (n2 : Int)
theorem cn_all {k n2 M : Nat} (hk : k < 5) (hn : n2 ≤ k) (hkM : k < M) (hM : M ≤ 6) : CnN k n2 M := by
  have h1 : 2 ^ M ≤ 2 ^ 6 := Nat.pow_le_pow_right (by decide) hM
  have h2 : 2 ^ (M - n2) ≤ 2 ^ 6 := Nat.pow_le_pow_right (by decide) (by omega)
  have h3 : 2 ^ (k - n2) ≤ 2 ^ 6 := Nat.pow_le_pow_right (by decide) (by omega)
  have h4 : 2 ^ 6 = 64 := rfl
  rw [h4] at h1 h2 h3
  refine ⟨by omega, by omega, hn, hkM, hM, by omega, by omega, by omega, by omega, by omega, by omega, by omega, by omega, by omega, by omega, by omega, Nat.pow_le_pow_right (by decide) (by omega), Nat.le_trans h1 (by decide), Nat.pow_le_pow_right (by decide) (by omega), Nat.le_trans h2 (by decide), ?_, by unfold I64; omega⟩
  generalize 2 ^ (k - n2) = x at *
  unfold I64
  omega
theorem cn_len {l : QL} {n1 K : Nat} (h : l.length = n1) (hK : K ≤ n1) : (l.take K).length = K := by rw [List.length_take]; omega
theorem cn_step {k mo M : Nat} (h1 : k < 5) (h2 : mo < 2) (h3 : k + 1 + mo = M) : k < M ∧ M ≤ 6 ∧ k ≤ 100 ∧ k + 1 ≤ 100 ∧ mo ≤ 100 ∧ k ≤ 6 := by omega
theorem cn_neg {a b : Nat} (h : ¬ (a : Int) < (b : Int)) : b ≤ a := by omega
theorem cn_K16 {k : Nat} (h : k < 5) : 2 ^ k ≤ 16 := Nat.le_trans (Nat.pow_le_pow_right (by decide) (show k ≤ 4 by omega)) (by decide)
set_option maxRecDepth 100000 in
set_option maxHeartbeats 8000000 in
theorem cndown_body (G : World → Prop) (hAk : AskChain G) (aw : ∀ W, G W → Calls Tryd.prog 8 #[] W fun e w' => e = .returned (.bool true) ∧ Below W.heap.size W w') (a1 : Option Addr) (n1 cp1 : Nat) (l : QL) (a2 : Option Addr) (n2 cp2 : Nat) (ys : QL) (t0 t1 : Int) (w : World) (hG : G w) (ha : QRowA w a1 n1 l) (hu : ∀ n ∈ l, U n.1 ∧ U n.2) (ha2 : QRowA w a2 n2 ys) (hu2 : ∀ n ∈ ys, U n.1 ∧ U n.2) (hcp : n1 ≤ cp1) (ht0 : 0 ≤ t0 ∧ t0 < 256) (ht1 : 0 ≤ t1 ∧ t1 < 256) :
    Calls Tryd.prog 5 #[.slice a1 n1 cp1, .slice a2 n2 cp2, .agg #[.int .u8 t0, .int .u8 t1]] w fun e w' => e = .returned (.bool true) ∧ Below w.heap.size w w' := by
  have HK := Lib.hid (fun (W W' : World) => @AskChain.keep G hAk W W')
  have HG0 := Lib.hid hG
  have hl1 := ha.1
  have hl2 := ha2.1
  have HA10 := Lib.hid ha; have HA20 := Lib.hid ha2
  obtain ⟨k, hk5, e0⟩ := cn_mod ht0.1 5 (by decide)
  obtain ⟨mo, hmo, e1⟩ := cn_mod ht1.1 2 (by decide)
  rw [show ((5 : Nat) : Int) = 5 from rfl] at e0
  rw [show ((2 : Nat) : Int) = 2 from rfl] at e1
  obtain ⟨M, hM⟩ : ∃ M, k + 1 + mo = M := ⟨_, rfl⟩
  obtain ⟨hkM, hM6, h100, h101, h102, hk6⟩ := cn_step hk5 hmo hM
  obtain ⟨q1, q2, q2'⟩ := cn_id k h100
  obtain ⟨q3, q4, q4'⟩ := cn_id mo h102
  have q5 := (cn_one k h100).1
  have q6 := (cn_one k h100).2
  have q7 := (cn_add (k + 1) mo h101 h102).1
  have q8 := (cn_add (k + 1) mo h101 h102).2
  rw [hM] at q7 q8
  obtain ⟨k1, hk1⟩ : ∃ q, k + 1 = q := ⟨_, rfl⟩
  rw [hk1] at q5 q6 q7 q8
  have hp := cn_pow k hk6
  have HKM := Lib.hid (And.intro hkM hM6)
  have HK5 := Lib.hid hk5
  clear hG ha ha2 hM hk1 ht0 ht1 hkM hM6 h100 h101 h102 hk5 hmo
  go_enter Tryd.func5, Tryd.ntmps5
  go_upto_region 1 with fail
  obtain ⟨g, hg⟩ : ∃ g, w.heap.size = g := ⟨_, rfl⟩
  refine wp_gen (fun W => Below w.heap.size w W ∧ Duo W g (.int .u8 t0) (.int .u8 t1)) ⟨(Below.refl _ _).alloc (Nat.le_refl _) _, by subst hg; simp [Duo, go_sem]⟩ ?_
  rintro w0 ⟨hB0, hT⟩
  simp only [hg]
  have HB0 := Lib.hid hB0
  have HA1 := Lib.hid (HA10.out.keep hB0); have HA2 := Lib.hid (HA20.out.keep hB0); have HG := Lib.hid (HK.out _ _ HG0.out hB0)
  have HB : Hid (Below w0.heap.size w0 w0) := Lib.hid (Below.refl _ _)
  obtain ⟨t0c, t1c, _, _⟩ := hT
  clear hB0 hg HG0 HA10 HA20
  have aw := fun W (h : Below w0.heap.size w0 W) => aw W (HK.out _ _ HG.out h)
  go_upto_region 3 with fail
  clear e0 e1 q1 q2 q3 q4 q4' q5 q6 q7 q8 t0c t1c
  obtain ⟨K, hKK⟩ : ∃ K, 2 ^ k = K := ⟨_, rfl⟩
  rw [hKK] at hp
  have HKK := Lib.hid hKK
  clear hKK
  by_cases hs : (n1 : Int) < (K : Int)
  · go_wp2_with (go_at_call 8; (with_reducible refine (aw _ HB.out).mono ?_); rintro e w1 ⟨rfl, hb⟩; replace HB := Lib.hid (bthen HB.out hb); clear hb)
    go_ret
    exact ⟨rfl, bthen HB0.out HB.out⟩
  by_cases hs2 : (k : Int) < (n2 : Int)
  · go_wp2_with (go_at_call 8; (with_reducible refine (aw _ HB.out).mono ?_); rintro e w1 ⟨rfl, hb⟩; replace HB := Lib.hid (bthen HB.out hb); clear hb)
    go_ret
    exact ⟨rfl, bthen HB0.out HB.out⟩
  have hn1 : K ≤ n1 := cn_neg hs
  have hn2 : n2 ≤ k := cn_neg hs2
  have hKc : K ≤ cp1 := Nat.le_trans hn1 hcp
  have hKcI : (K : Int) ≤ (cp1 : Int) := Int.ofNat_le.2 hKc
  obtain ⟨c⟩ := Nonempty.intro (cn_all HK5.out hn2 HKM.out.1 HKM.out.2)
  have hzl : (l.take K).length = 2 ^ k := by rw [HKK.out]; exact cn_len hl1 hn1
  have hzU : ∀ n ∈ l.take K, U n.1 ∧ U n.2 := fun n hn => hu n (List.mem_of_mem_take hn)
  have f1 := fun W (h : Below w0.heap.size w0 W) => refforthq_yes a1 K cp1 (l.take K) 7 (by unfold U; decide) (shiftF 0) (by decide +kernel) M c.M20 W ((HA1.out.keep h).cut hn1) hzU (by rw [← HKK.out]; exact c.p1)
  obtain ⟨hd1, hd2⟩ := chain_down (l.take K) ys k M hzl c.kM c.M20 n2 hn2
  have hzr := chZ_len (l.take K) ys k hzl n2
  have hfl : (forthQ (l.take K) (shiftF 0) M).length = 2 ^ M := forthQ_len _ _ _
  have hfU : ∀ n ∈ forthQ (l.take K) (shiftF 0) M, U n.1 ∧ U n.2 := joinL_U _ _
  have hok : chOk (forthQ (l.take K) (shiftF 0) M) ys ys.length = true := by rw [hl2]; exact hd2
  have k1 := fun W a d (hq : QRowA W a (2 ^ M) (forthQ (l.take K) (shiftF 0) M)) (h : Below w0.heap.size w0 W) => hAk.words a (2 ^ M) d _ a2 n2 cp2 ys _ true W hq hfU (HA2.out.keep h) hu2 c.p2 c.n1000 (chainV_yes hok) (HK.out _ _ HG.out h)
  unfold WordsPost at k1
  have hN : (chRows (forthQ (l.take K) (shiftF 0) M) ys ys.length).length = n2 + 1 := by rw [chRows_len, hl2]
  rw [hN] at k1
  have hlast : (chRows (forthQ (l.take K) (shiftF 0) M) ys ys.length).getD n2 [] = forthQ (chZ (l.take K) ys k n2) (shiftF (n2 : Int)) (M - n2) := by rw [chRows_at _ _ (by rw [hl2]; exact Nat.le_refl _), hd1]
  have HLAST := Lib.hid hlast
  obtain ⟨zr, hzz⟩ : ∃ z, chZ (l.take K) ys k n2 = z := ⟨_, rfl⟩
  rw [hzz] at hzr HLAST
  have hff := fin_forth zr (n2 : Int) (M - n2) c.Md (by rw [hzr]; exact c.p3)
  have hfn := forthQ_nrm zr (shiftF (n2 : Int)) (M - n2)
  have hLU : ∀ n ∈ forthQ zr (shiftF (n2 : Int)) (M - n2), U n.1 ∧ U n.2 := joinL_U _ _
  have hLl : (forthQ zr (shiftF (n2 : Int)) (M - n2)).length = 2 ^ (M - n2) := forthQ_len _ _ _
  rw [hzr] at hff
  have k2 := fun W a d (hq : QRowA W a (2 ^ (M - n2)) (forthQ zr (shiftF (n2 : Int)) (M - n2))) (h : Below w0.heap.size w0 W) => hAk.final a (2 ^ (M - n2)) d _ (n2 : Int) ((2 ^ (k - n2) : Nat) : Int) _ true W hq hLU c.p4 c.i64 c.p5 hff (HK.out _ _ HG.out h)
  unfold WordPost at k2
  have hnl : (nrmQ zr).length = 2 ^ (k - n2) := by rw [nrmQ_len, hzr]
  rw [hnl] at k2
  obtain ⟨sv, hsv⟩ : ∃ s, enc (shiftF (n2 : Int)) = s := ⟨_, rfl⟩
  have s1 := fun W => rfshift_is (n2 : Int) sv hsv W
  have f2 := fun W a d (hq : QRowA W a (2 ^ (k - n2)) (nrmQ zr)) => refforthq_yes a (2 ^ (k - n2)) d (nrmQ zr) sv (by rw [← hsv]; exact enc_U _) (shiftF (n2 : Int)) (by rw [← hsv]; exact toF_enc _) (M - n2) c.Md W hq (nrmQ_U zr) c.p3
  unfold NewOkQ at f1 f2
  rw [hfn] at f2
  have k3 := fun W a1 c1 a2 c2 (p1 : QRowA W a1 (2 ^ (M - n2)) (forthQ zr (shiftF (n2 : Int)) (M - n2))) (p2 : QRowA W a2 (2 ^ (M - n2)) (forthQ zr (shiftF (n2 : Int)) (M - n2))) => sameq_is a1 a2 (2 ^ (M - n2)) (2 ^ (M - n2)) c1 c2 _ _ W p1 p2 rfl
  have HLL : Hid ((forthQ zr (shiftF (n2 : Int)) (M - n2)).length = 2 ^ (M - n2)) := Lib.hid hLl
  -- the numbers
  have p5 := cn_one n2 c.n100
  have p6 := cn_sub k n2 hn2 c.k100
  have p7 := cn_sub M n2 c.Mn c.M100
  have p8 := cn_pow (k - n2) c.kd6
  have p9 := cn_pow (M - n2) c.Md6
  have p10 := cn_id (k - n2) c.kd100
  have p11 := cn_id (M - n2) c.Md100
  clear hu hu2 hzl hzU hd1 hd2 hfl hfU hok hN hlast hzz hzr hff hfn hLU hLl hnl hsv HA1 hl1
  obtain ⟨d, hd⟩ : ∃ d, k - n2 = d := ⟨_, rfl⟩
  obtain ⟨m, hm⟩ : ∃ m, M - n2 = m := ⟨_, rfl⟩
  have hd6 := c.kd6
  have hm6 := c.Md6
  rw [hd] at p6 p8 p10 k2 f2 hd6
  rw [hm] at p7 p9 p11 k2 f2 k3 HLAST HLL hm6
  generalize forthQ zr (shiftF (n2 : Int)) m = last at *
  generalize nrmQ zr = fz at *
  obtain ⟨D, hDD⟩ : ∃ D, 2 ^ d = D := ⟨_, rfl⟩
  obtain ⟨MM, hMM⟩ : ∃ D, 2 ^ m = D := ⟨_, rfl⟩
  obtain ⟨KM, hKMM⟩ : ∃ D, 2 ^ M = D := ⟨_, rfl⟩
  rw [hDD] at p8 k2 f2
  rw [hMM] at p9 k2 f2 k3 HLL
  rw [hKMM] at f1 k1
  obtain ⟨p5a, p5b⟩ := p5
  obtain ⟨p6a, p6b⟩ := p6
  obtain ⟨p7a, p7b⟩ := p7
  obtain ⟨p10a, _, p10b⟩ := p10
  obtain ⟨p11a, _, p11b⟩ := p11
  have HP := Lib.hid (And.intro p5a (And.intro p5b (And.intro p6a (And.intro p6b (And.intro p7a (And.intro p7b (And.intro p8 (And.intro p9 (And.intro p10a (And.intro p10b (And.intro p11a p11b)))))))))))
  clear hDD hMM hKMM hd hm c p5a p5b p6a p6b p7a p7b p8 p9 p10a p10b p11a p11b hn1 hn2 hcp hl2
  go_upto_region 6 with (go_at_call 14; (with_reducible refine (f1 _ HB.out).mono ?_); rintro e w1 ⟨b1, d1, rfl, hb, hq⟩; have HQ1 := Lib.hid hq.at; replace HB := Lib.hid (bthen HB.out hb); clear hb hq)
  clear f1 hs hs2 hp hKc hKcI
  go_upto_region 7 with (go_at_call 9; (with_reducible refine (k1 _ _ _ HQ1.out HB.out).mono ?_); rintro e w2 ⟨hb, b2, d2, rfl, ht, hd2⟩; have HT := Lib.hid ht; replace HB := Lib.hid (bthen HB.out hb); clear hb ht hd2)
  clear k1 HQ1
  obtain ⟨p5a, p5b, p6a, p6b, p7a, p7b, p8, p9, p10a, p10b, p11a, p11b⟩ := HP.out
  clear HP
  obtain ⟨g9, o9, e9, aj, cj, c9, hj9⟩ := HT.out.2.2 n2 (Nat.lt_succ_self n2)
  subst e9
  rw [HLAST.out, HLL.out] at c9 hj9
  have HJ9 := Lib.hid hj9
  have hnn : (n2 : Int) < ((n2 + 1 : Nat) : Int) := Int.ofNat_lt.2 (Nat.lt_succ_self n2)
  have hnz : (0 : Int) ≤ (n2 : Int) := Int.natCast_nonneg n2
  clear hj9 HT HLAST HLL
  go_upto_region 10 with fail
  go_upto_region 11 with (go_at_call 12; (with_reducible refine (k2 _ _ _ HJ9.out HB.out).mono ?_); rintro e w3 ⟨hb, b3, d3, rfl, hq⟩; have HF := Lib.hid hq; replace HJ9 := Lib.hid (HJ9.out.keep hb); replace HB := Lib.hid (bthen HB.out hb); clear hb hq)
  clear c9 k2
  go_upto_region 14 with (first | (go_at_call 15; (with_reducible refine (s1 _).mono ?_); rintro e w4 ⟨rfl, hb⟩; replace HF := Lib.hid (HF.out.keep hb); replace HJ9 := Lib.hid (HJ9.out.keep hb); replace HB := Lib.hid (bthen HB.out hb); clear hb) | (go_at_call 14; (with_reducible refine (f2 _ _ _ HF.out).mono ?_); rintro e w5 ⟨b5, d5, rfl, hb, hq⟩; have HG5 := Lib.hid hq.at; replace HJ9 := Lib.hid (HJ9.out.keep hb); replace HB := Lib.hid (bthen HB.out hb); clear hb hq))
  clear s1 f2 HF
  go_wp2_with (first
    | (go_at_call 8; (with_reducible refine (aw _ HB.out).mono ?_); rintro e w8 ⟨rfl, hb⟩; replace HJ9 := Lib.hid (HJ9.out.keep hb); replace HG5 := Lib.hid (HG5.out.keep hb); replace HB := Lib.hid (bthen HB.out hb); clear hb)
    | (go_at_call 11; (with_reducible refine (k3 _ _ _ _ _ HG5.out HJ9.out).mono ?_); rintro e w9 ⟨rfl, nq, rfl⟩; replace HB := Lib.hid (below_drewN HB.out nq)))
  go_ret
  exact ⟨rfl, bthen HB0.out HB.out⟩
end Go.Proofs.YtpckjlfnhfelkaaDoor
