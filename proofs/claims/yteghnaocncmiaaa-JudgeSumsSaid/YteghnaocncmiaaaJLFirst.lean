/-
  Layer 22's third statement. (Written by gen_jl2.py.)
-/
import Derived.Test.YteghnaocncmiaaaJLTells
import Derived.Test.YteghnaocncmiaaaJudgeH
import Derived.Test.YteghnaocncmiaaaEqB
namespace Go.Proofs.Yteghnaocncmiaaa
open Go Go.RowKit Go.Sort Go.BigFrame
set_option linter.unusedVariables false

theorem jlift_one (k bl pl x0 : Int) (x : F2) (hx0 : enc (pointF (k + bl) 0 pl) = x0) (hx : lift (pointF (k + bl) 0 pl) = x) (W : World) : Calls Try.prog 18 #[.int .u64 x0] W fun e w' => e = .returned (.agg #[.int .u64 (enc x.a), .int .u64 (enc x.b)]) ∧ Below W.heap.size W w' :=
  rlift_q x0 x (by rw [← hx0]; exact enc_U _) (by rw [← hx0, toF_enc]; exact hx) W
theorem jadd_zero (a b x0 x1 : Int) (x y : F2) (hy : Rep a b y) (h0 : enc x.a = x0) (h1 : enc x.b = x1) (h : y + x = 0) (W : World) : Calls Try.prog 20 #[.agg #[.int .u64 a, .int .u64 b], .agg #[.int .u64 x0, .int .u64 x1]] W fun e w' => e = .returned (.agg #[.int .u64 0, .int .u64 0]) ∧ Below W.heap.size W w' := by
  subst h0 h1
  exact radd_q a b _ _ y x 0 hy (rep_enc x) h W
structure JNum (k bl : Int) : Prop where
  a : IntKind.i64.wrap (k + bl) = k + bl
  b : wrap64 (k + bl) = k + bl
theorem jnum_of {k bl : Int} (h1 : 0 ≤ k ∧ k ≤ 10 ∧ 1 ≤ bl ∧ bl ≤ 4) : JNum k bl := ⟨IntWalk.i64_in _ (by omega), IntWalk.wrap64_in _ (by omega)⟩
set_option maxRecDepth 100000 in
set_option maxHeartbeats 8000000 in
theorem judge_firstB (G : World → Prop) (hA : AskJudge G) (k bl fo qu gr : Int) (a : Option Addr) (n c : Nat) (pl : Int) (q : Quad) (la : Option Addr) (ln lc : Nat) (fa : Option Addr) (fn fc : Nat) (o0 o1 : Int) (bys : QL) (layers : List Quad) (fin : QL) (w : World) (hG : G w) (hk : I64 k) (hbl : I64 bl) (hfo : I64 fo) (hpl : I64 pl) (hby : QRowA w a n bys) (hbu : ∀ n ∈ bys, U n.1 ∧ U n.2) (hq : UsQ q) (hly : QuadsA w la ln layers) (hlu : ∀ q ∈ layers, UsQ q) (hf : QRowA w fa fn fin) (hfu : ∀ n ∈ fin, U n.1 ∧ U n.2) (ho : U o0 ∧ U o1) :
    Calls Try.prog 5 #[caseV k bl fo qu gr a n c pl q la ln lc fa fn fc, .agg #[.int .u64 o0, .int .u64 o1]] w fun e w' => e = .returned (.bool true) ∧ Below w.heap.size w w' := by
  have aw := fun W (h : Below w.heap.size w W) => jawake G hA W (hA.keep hG h)
  obtain ⟨r0, hr0⟩ : ∃ r, decide (n ≤ 12 ∧ ln ≤ 12 ∧ fn ≤ 70) = r := ⟨_, rfl⟩
  have ks := fun W => jshort k bl fo qu gr a n c pl q la ln lc fa fn fc r0 W hr0
  have k1 := fun W (h : Below w.heap.size w W) => hA.right k bl fo qu gr a n c bys pl la ln lc layers fa fn fc fin _ W hk hbl hfo hpl (hby.keep h) (hly.keep h) (hf.keep h) rfl (hA.keep hG h)
  have k3 := fun W (h : Below w.heap.size w W) => hA.judge k bl fo qu gr a n c bys pl q la ln lc layers fa fn fc fin _ W hk hbl hfo hpl (hby.keep h) hbu hq (hly.keep h) hlu (hf.keep h) hfu rfl (hA.keep hG h)
  have k5 := fun W (h : Below w.heap.size w W) => hA.judge k bl fo qu gr a n c bys pl ((o0, o1), q.2) la ln lc layers fa fn fc fin _ W hk hbl hfo hpl (hby.keep h) hbu ⟨ho, hq.2⟩ (hly.keep h) hlu (hf.keep h) hfu rfl (hA.keep hG h)
  obtain ⟨v2, hv2⟩ : ∃ v, judgeB k bl fo bys pl q layers fin = v := ⟨_, rfl⟩
  obtain ⟨v3, hv3⟩ : ∃ v, judgeB k bl fo bys pl ((o0, o1), q.2) layers fin = v := ⟨_, rfl⟩
  rw [hv2] at k3
  rw [hv3] at k5
  obtain ⟨q0, q23⟩ := q
  obtain ⟨q2, q3⟩ := q23
  obtain ⟨q0, q1⟩ := q0
  obtain ⟨z, hz⟩ : ∃ z, toQ (o0, o1) - toQ (q0, q1) = z := ⟨_, rfl⟩
  have k6 := fun W => rsub_q o0 o1 q0 q1 (toQ (o0, o1)) (toQ (q0, q1)) z (rep_raw ho.1 ho.2) (rep_raw hq.1.1 hq.1.2) hz W
  have hR := fun h : v2 = true => judge_right (hv2.trans h)
  have hsame := fun h : toQ (o0, o1) = toQ (q0, q1) => (hv3.symm.trans (judge_same (f1 := ((o0, o1), (q2, q3))) (f2 := ((q0, q1), (q2, q3))) h rfl)).trans hv2
  have hfirst := fun (h2 : v2 = true) (h3 : v3 = true) (h : ¬ toQ (o0, o1) = toQ (q0, q1)) => judge_first (hv2.trans h2) (hv3.trans h3) h
  have hzz : z = 0 ↔ toQ (o0, o1) = toQ (q0, q1) := by
    rw [← hz]
    constructor
    · intro h
      exact F2.eq (by have := congrArg F2.a h; rw [F2.sub_a] at this; exact (by have h2 : (toQ (o0, o1)).a - (toQ (q0, q1)).a = 0 := this; grind)) (by have := congrArg F2.b h; rw [F2.sub_b] at this; exact (by have h2 : (toQ (o0, o1)).b - (toQ (q0, q1)).b = 0 := this; grind))
    · intro h
      rw [h]
      exact F2.eq (by rw [F2.sub_a]; show _ = (0 : F); grind) (by rw [F2.sub_b]; show _ = (0 : F); grind)
  obtain ⟨s, hs⟩ : ∃ s, decide (z = 0) = s := ⟨_, rfl⟩
  have hE := eqB_enc z 0 s hs
  have hz0 : enc (0 : F2).a = 0 ∧ enc (0 : F2).b = 0 := ⟨rfl, rfl⟩
  rw [hz0.1, hz0.2] at hE
  have HR := Lib.hid hR; have HSAME := Lib.hid (fun h : s = true => hsame (hzz.1 (of_decide_eq_true (hs.trans h)))); have HFIRST := Lib.hid (fun h2 h3 (h : s = false) => hfirst h2 h3 (fun e => of_decide_eq_false (hs.trans h) (hzz.2 e)))
  have HBY := Lib.hid hby; have HBU := Lib.hid hbu
  generalize enc z.a = za at *
  generalize enc z.b = zb at *
  clear hr0 hA hG hby hly hf hbu hlu hfu hq hk hbl hfo hpl hR hsame hfirst hzz hs hz hz0 ho hv2 hv3
  go_enter Try.func5, Try.ntmps5
  go_upto_region 1 with fail
  obtain ⟨g, hg⟩ : ∃ g, w.heap.size = g := ⟨_, rfl⟩
  refine wp_gen (fun W => Below w.heap.size w W ∧ CaseB W g k bl fo qu gr a n c pl ((q0, q1), (q2, q3)) la ln lc fa fn fc ∧ W.cell? ⟨g + 1, 0, none⟩ = some (.int .u64 o0) ∧ W.cell? ⟨g + 1, 1, none⟩ = some (.int .u64 o1)) ⟨((Below.refl _ _).alloc (Nat.le_refl _) _).alloc (by simp) _, by subst hg; simp [CaseB, go_sem], by subst hg; simp [go_sem], by subst hg; simp [go_sem]⟩ ?_
  rintro w0 ⟨hB, hC, hO⟩
  obtain ⟨g', hg'⟩ : ∃ g', g + 1 = g' := ⟨_, rfl⟩
  rw [hg'] at hO
  simp only [hg, hg']
  have HB := Lib.hid hB; have HC := Lib.hid hC; have HO := Lib.hid hO
  clear hB hC hO hg hg'
  obtain ⟨e0, e1, e2, e3, e4, e5, e6, e7, e8, e9, e10, e11, e12⟩ := HC.out
  obtain ⟨o0c, o1c⟩ := HO.out
  cases r0
  · go_wp2_with (first
      | (go_at_call 7; (with_reducible refine (ks _).mono ?_); rintro e w2 ⟨rfl, hb⟩; replace HC := Lib.hid (HC.out.keep hb); replace HB := Lib.hid (bthen HB.out hb); replace HO := Lib.hid (And.intro (bkeep hb HO.out.1) (bkeep hb HO.out.2)); clear hb)
      | (go_at_call 8; (with_reducible refine (aw _ HB.out).mono ?_); rintro e w2 ⟨rfl, hb⟩; replace HC := Lib.hid (HC.out.keep hb); replace HB := Lib.hid (bthen HB.out hb); replace HO := Lib.hid (And.intro (bkeep hb HO.out.1) (bkeep hb HO.out.2)); clear hb))
    go_ret
    exact ⟨rfl, HB.out⟩
  · cases v2
    · go_wp2_with (first
        | (go_at_call 7; (with_reducible refine (ks _).mono ?_); rintro e w2 ⟨rfl, hb⟩; replace HC := Lib.hid (HC.out.keep hb); replace HB := Lib.hid (bthen HB.out hb); replace HO := Lib.hid (And.intro (bkeep hb HO.out.1) (bkeep hb HO.out.2)); clear hb; clear e0 e1 e2 e3 e4 e5 e6 e7 e8 e9 e10 e11 e12 o0c o1c; obtain ⟨e0, e1, e2, e3, e4, e5, e6, e7, e8, e9, e10, e11, e12⟩ := HC.out; obtain ⟨o0c, o1c⟩ := HO.out)
        | (go_at_call 11; (with_reducible refine (k3 _ HB.out).mono ?_); rintro e w2 ⟨rfl, hb⟩; replace HC := Lib.hid (HC.out.keep hb); replace HB := Lib.hid (bthen HB.out hb); replace HO := Lib.hid (And.intro (bkeep hb HO.out.1) (bkeep hb HO.out.2)); clear hb; clear e0 e1 e2 e3 e4 e5 e6 e7 e8 e9 e10 e11 e12 o0c o1c; obtain ⟨e0, e1, e2, e3, e4, e5, e6, e7, e8, e9, e10, e11, e12⟩ := HC.out; obtain ⟨o0c, o1c⟩ := HO.out)
        | (go_at_call 8; (with_reducible refine (aw _ HB.out).mono ?_); rintro e w2 ⟨rfl, hb⟩; replace HC := Lib.hid (HC.out.keep hb); replace HB := Lib.hid (bthen HB.out hb); replace HO := Lib.hid (And.intro (bkeep hb HO.out.1) (bkeep hb HO.out.2)); clear hb; clear e0 e1 e2 e3 e4 e5 e6 e7 e8 e9 e10 e11 e12 o0c o1c; obtain ⟨e0, e1, e2, e3, e4, e5, e6, e7, e8, e9, e10, e11, e12⟩ := HC.out; obtain ⟨o0c, o1c⟩ := HO.out))
      go_ret
      exact ⟨rfl, HB.out⟩
    have hright := HR.out rfl
    have k1 : ∀ W, Below w.heap.size w W → Calls Try.prog 9 #[.int .i64 k, .agg #[.int .i64 bl, .int .i64 fo, .int .i64 qu, .int .i64 gr], .slice a n c, .int .i64 pl, .slice la ln lc, .slice fa fn fc] W fun e w' => e = .returned (.bool true) ∧ Below W.heap.size W w' := fun W h => by
      have h0 := k1 W h
      rw [decide_eq_true hright] at h0
      exact h0
    have HNUM := Lib.hid (jnum_of ⟨hright.1.1, hright.1.2.1, hright.1.2.2.1, hright.1.2.2.2.1⟩)
    have HPL := Lib.hid (show pl ≤ 9223372036854775807 from by
      have h1 := hright.2.2.2.1
      have h2 := hright.1
      have h3 : 2 ^ (k + bl - 1).toNat ≤ 2 ^ 20 := Nat.pow_le_pow_right (by decide) (by omega)
      rw [show (2 : Nat) ^ 20 = 1048576 by decide] at h3
      generalize 2 ^ (k + bl - 1).toNat = X at *
      omega)
    have HNB := Lib.hid hright.2.1
    clear hright
    go_upto_region 4 with (first
        | (go_at_call 7; (with_reducible refine (ks _).mono ?_); rintro e w2 ⟨rfl, hb⟩; replace HC := Lib.hid (HC.out.keep hb); replace HB := Lib.hid (bthen HB.out hb); replace HO := Lib.hid (And.intro (bkeep hb HO.out.1) (bkeep hb HO.out.2)); clear hb; clear e0 e1 e2 e3 e4 e5 e6 e7 e8 e9 e10 e11 e12 o0c o1c; obtain ⟨e0, e1, e2, e3, e4, e5, e6, e7, e8, e9, e10, e11, e12⟩ := HC.out; obtain ⟨o0c, o1c⟩ := HO.out)
        | (go_at_call 11; (with_reducible refine (k3 _ HB.out).mono ?_); rintro e w2 ⟨rfl, hb⟩; replace HC := Lib.hid (HC.out.keep hb); replace HB := Lib.hid (bthen HB.out hb); replace HO := Lib.hid (And.intro (bkeep hb HO.out.1) (bkeep hb HO.out.2)); clear hb; clear e0 e1 e2 e3 e4 e5 e6 e7 e8 e9 e10 e11 e12 o0c o1c; obtain ⟨e0, e1, e2, e3, e4, e5, e6, e7, e8, e9, e10, e11, e12⟩ := HC.out; obtain ⟨o0c, o1c⟩ := HO.out)
        | (go_at_call 11; (with_reducible refine (k5 _ HB.out).mono ?_); rintro e w2 ⟨rfl, hb⟩; replace HC := Lib.hid (HC.out.keep hb); replace HB := Lib.hid (bthen HB.out hb); replace HO := Lib.hid (And.intro (bkeep hb HO.out.1) (bkeep hb HO.out.2)); clear hb; clear e0 e1 e2 e3 e4 e5 e6 e7 e8 e9 e10 e11 e12 o0c o1c; obtain ⟨e0, e1, e2, e3, e4, e5, e6, e7, e8, e9, e10, e11, e12⟩ := HC.out; obtain ⟨o0c, o1c⟩ := HO.out))
    clear ks k3 k5
    rcases hE with ⟨rfl, rfl, rfl⟩ | ⟨rfl, hne⟩ | ⟨rfl, rfl, hne⟩
    · have e := HSAME.out rfl
      subst e
      clear HFIRST HNUM HPL HNB HBY HBU
      go_wp2_with (first
        | (go_at_call 17; (with_reducible refine (k6 _).mono ?_); rintro e w2 ⟨rfl, hb⟩; replace HC := Lib.hid (HC.out.keep hb); replace HB := Lib.hid (bthen HB.out hb); replace HO := Lib.hid (And.intro (bkeep hb HO.out.1) (bkeep hb HO.out.2)); clear hb; clear e0 e1 e2 e3 e4 e5 e6 e7 e8 e9 e10 e11 e12 o0c o1c; obtain ⟨e0, e1, e2, e3, e4, e5, e6, e7, e8, e9, e10, e11, e12⟩ := HC.out; obtain ⟨o0c, o1c⟩ := HO.out)
        | (go_at_call 8; (with_reducible refine (aw _ HB.out).mono ?_); rintro e w2 ⟨rfl, hb⟩; replace HC := Lib.hid (HC.out.keep hb); replace HB := Lib.hid (bthen HB.out hb); replace HO := Lib.hid (And.intro (bkeep hb HO.out.1) (bkeep hb HO.out.2)); clear hb; clear e0 e1 e2 e3 e4 e5 e6 e7 e8 e9 e10 e11 e12 o0c o1c; obtain ⟨e0, e1, e2, e3, e4, e5, e6, e7, e8, e9, e10, e11, e12⟩ := HC.out; obtain ⟨o0c, o1c⟩ := HO.out)
        | (go_at_call 9; (with_reducible refine (k1 _ HB.out).mono ?_); rintro e w2 ⟨rfl, hb⟩; replace HC := Lib.hid (HC.out.keep hb); replace HB := Lib.hid (bthen HB.out hb); replace HO := Lib.hid (And.intro (bkeep hb HO.out.1) (bkeep hb HO.out.2)); clear hb; clear e0 e1 e2 e3 e4 e5 e6 e7 e8 e9 e10 e11 e12 o0c o1c; obtain ⟨e0, e1, e2, e3, e4, e5, e6, e7, e8, e9, e10, e11, e12⟩ := HC.out; obtain ⟨o0c, o1c⟩ := HO.out))
      go_ret
      exact ⟨rfl, HB.out⟩
    all_goals
      cases v3
      · clear HFIRST HNUM HPL HNB HBY HBU HSAME
        go_wp2_with (first
          | (go_at_call 17; (with_reducible refine (k6 _).mono ?_); rintro e w2 ⟨rfl, hb⟩; replace HC := Lib.hid (HC.out.keep hb); replace HB := Lib.hid (bthen HB.out hb); replace HO := Lib.hid (And.intro (bkeep hb HO.out.1) (bkeep hb HO.out.2)); clear hb; clear e0 e1 e2 e3 e4 e5 e6 e7 e8 e9 e10 e11 e12 o0c o1c; obtain ⟨e0, e1, e2, e3, e4, e5, e6, e7, e8, e9, e10, e11, e12⟩ := HC.out; obtain ⟨o0c, o1c⟩ := HO.out)
          | (go_at_call 8; (with_reducible refine (aw _ HB.out).mono ?_); rintro e w2 ⟨rfl, hb⟩; replace HC := Lib.hid (HC.out.keep hb); replace HB := Lib.hid (bthen HB.out hb); replace HO := Lib.hid (And.intro (bkeep hb HO.out.1) (bkeep hb HO.out.2)); clear hb; clear e0 e1 e2 e3 e4 e5 e6 e7 e8 e9 e10 e11 e12 o0c o1c; obtain ⟨e0, e1, e2, e3, e4, e5, e6, e7, e8, e9, e10, e11, e12⟩ := HC.out; obtain ⟨o0c, o1c⟩ := HO.out)
          | (go_at_call 9; (with_reducible refine (k1 _ HB.out).mono ?_); rintro e w2 ⟨rfl, hb⟩; replace HC := Lib.hid (HC.out.keep hb); replace HB := Lib.hid (bthen HB.out hb); replace HO := Lib.hid (And.intro (bkeep hb HO.out.1) (bkeep hb HO.out.2)); clear hb; clear e0 e1 e2 e3 e4 e5 e6 e7 e8 e9 e10 e11 e12 o0c o1c; obtain ⟨e0, e1, e2, e3, e4, e5, e6, e7, e8, e9, e10, e11, e12⟩ := HC.out; obtain ⟨o0c, o1c⟩ := HO.out))
        go_ret
        exact ⟨rfl, HB.out⟩
      have hfi := HFIRST.out (by trivial) (by trivial) (by trivial)
      obtain ⟨hfo, hadd⟩ := hfi
      have hn0 : 0 < n := by have := HNB.out; rw [HBY.out.1] at this; omega
      obtain ⟨x0, hx0⟩ : ∃ x, enc (pointF (k + bl) 0 pl) = x := ⟨_, rfl⟩
      obtain ⟨x, hx⟩ : ∃ x, lift (pointF (k + bl) 0 pl) = x := ⟨_, rfl⟩
      rw [hx] at hadd
      have kp := fun W => rfpoint_is (k + bl) 0 pl x0 HPL.out hx0 W
      have kl := fun W => jlift_one k bl pl x0 x hx0 hx W
      obtain ⟨xa, hxa⟩ : ∃ v, enc x.a = v := ⟨_, rfl⟩
      obtain ⟨xb, hxb⟩ : ∃ v, enc x.b = v := ⟨_, rfl⟩
      rw [hxa, hxb] at kl
      obtain ⟨b, off, rfl, y0, y1⟩ := HBY.out.2.2 0 hn0
      have hbU := HBU.out (bys.getD 0 (0, 0)) (by
        have h : 0 < bys.length := by rw [HBY.out.1]; exact hn0
        have e : bys.getD 0 (0, 0) = bys[0] := by simp [List.getD, h]
        rw [e]; exact List.getElem_mem h)
      have hrep := rep_raw hbU.1 hbU.2
      have hadd' : toQ (bys.getD 0 (0, 0)) + x = 0 := hadd
      obtain ⟨by0, hby0⟩ : ∃ p, bys.getD 0 (0, 0) = p := ⟨_, rfl⟩
      rw [hby0] at hadd' hrep y0 y1
      obtain ⟨b0, b1⟩ := by0
      dsimp only at y0 y1
      simp only [Nat.zero_mul, Nat.add_zero] at y0 y1
      have ka := fun W => jadd_zero b0 b1 xa xb x _ hrep hxa hxb hadd' W
      have HY := Lib.hid (And.intro y0 y1)
      obtain ⟨hw1, hw2⟩ := HNUM.out
      have hn0I : (0 : Int) < (n : Int) := by omega
      clear hrep hbU hby0 hadd hadd' y0 y1 hx hx0 hxa hxb HNUM HPL HNB HFIRST HSAME HBY HBU
      go_upto_region 8 with (first
          | (go_at_call 17; (with_reducible refine (k6 _).mono ?_); rintro e w2 ⟨rfl, hb⟩; replace HC := Lib.hid (HC.out.keep hb); replace HB := Lib.hid (bthen HB.out hb); replace HO := Lib.hid (And.intro (bkeep hb HO.out.1) (bkeep hb HO.out.2)); clear hb; clear e0 e1 e2 e3 e4 e5 e6 e7 e8 e9 e10 e11 e12 o0c o1c; obtain ⟨e0, e1, e2, e3, e4, e5, e6, e7, e8, e9, e10, e11, e12⟩ := HC.out; obtain ⟨o0c, o1c⟩ := HO.out)
          | (go_at_call 19; (with_reducible refine (kp _).mono ?_); rintro e w2 ⟨rfl, hb⟩; replace HC := Lib.hid (HC.out.keep hb); replace HB := Lib.hid (bthen HB.out hb); replace HO := Lib.hid (And.intro (bkeep hb HO.out.1) (bkeep hb HO.out.2)); clear hb; clear e0 e1 e2 e3 e4 e5 e6 e7 e8 e9 e10 e11 e12 o0c o1c; obtain ⟨e0, e1, e2, e3, e4, e5, e6, e7, e8, e9, e10, e11, e12⟩ := HC.out; obtain ⟨o0c, o1c⟩ := HO.out)
          | (go_at_call 18; (with_reducible refine (kl _).mono ?_); rintro e w2 ⟨rfl, hb⟩; replace HC := Lib.hid (HC.out.keep hb); replace HB := Lib.hid (bthen HB.out hb); replace HO := Lib.hid (And.intro (bkeep hb HO.out.1) (bkeep hb HO.out.2)); clear hb; clear e0 e1 e2 e3 e4 e5 e6 e7 e8 e9 e10 e11 e12 o0c o1c; obtain ⟨e0, e1, e2, e3, e4, e5, e6, e7, e8, e9, e10, e11, e12⟩ := HC.out; obtain ⟨o0c, o1c⟩ := HO.out))
      clear kp kl k6 hw1 hw2
      obtain ⟨gx, hgx⟩ : ∃ gx, w2.heap.size = gx := ⟨_, rfl⟩
      have hsz := HB.out.size
      refine wp_gen (fun W => Below w.heap.size w W ∧ CaseB W g k bl fo qu gr (some ⟨b, off, none⟩) n c pl ((q0, q1), (q2, q3)) la ln lc fa fn fc ∧ W.cell? ⟨gx, 0, none⟩ = some (.int .u64 xa) ∧ W.cell? ⟨gx, 1, none⟩ = some (.int .u64 xb)) ⟨(HB.out.alloc hsz _), (HC.out.keep ((Below.refl _ _).alloc (Nat.le_refl _) _)), by subst hgx; simp [go_sem], by subst hgx; simp [go_sem]⟩ ?_
      clear HB HC HO e0 e1 e2 e3 e4 e5 e6 e7 e8 e9 e10 e11 e12 o0c o1c
      rintro w3 ⟨hB, hC, xc0, xc1⟩
      simp only [hgx]
      have HB := Lib.hid hB
      obtain ⟨e0, e1, e2, e3, e4, e5, e6, e7, e8, e9, e10, e11, e12⟩ := hC
      obtain ⟨y0, y1⟩ := HY.out
      replace y0 := bkeep hB y0; replace y1 := bkeep hB y1
      clear hB hgx hsz HY
      have aw := fun W (h : Below w3.heap.size w3 W) => aw W (bthen HB.out h)
      have ka := fun W (h : Below w3.heap.size w3 W) => ka W
      replace e0 := fun q : Regrown => cell_regrown e0 q.d q.os
      replace e1 := fun q : Regrown => cell_regrown e1 q.d q.os
      replace e2 := fun q : Regrown => cell_regrown e2 q.d q.os
      replace e3 := fun q : Regrown => cell_regrown e3 q.d q.os
      replace e4 := fun q : Regrown => cell_regrown e4 q.d q.os
      replace e5 := fun q : Regrown => cell_regrown e5 q.d q.os
      replace e6 := fun q : Regrown => cell_regrown e6 q.d q.os
      replace e7 := fun q : Regrown => cell_regrown e7 q.d q.os
      replace e8 := fun q : Regrown => cell_regrown e8 q.d q.os
      replace e9 := fun q : Regrown => cell_regrown e9 q.d q.os
      replace e10 := fun q : Regrown => cell_regrown e10 q.d q.os
      replace e11 := fun q : Regrown => cell_regrown e11 q.d q.os
      replace e12 := fun q : Regrown => cell_regrown e12 q.d q.os
      replace xc0 := fun q : Regrown => cell_regrown xc0 q.d q.os
      replace xc1 := fun q : Regrown => cell_regrown xc1 q.d q.os
      replace y0 := fun q : Regrown => cell_regrown y0 q.d q.os
      replace y1 := fun q : Regrown => cell_regrown y1 q.d q.os
      refine wp_region_quiet_below (by kernel_rfl) (by kernel_rfl) ?_
      repeat (first | go_big_quiet_step (first
        | (go_at_call 8; with_reducible exact Calls.regrown_of (aw _ (below_regrown w3 _ _)))
        | (go_at_call 20; with_reducible exact Calls.regrown_of (ka _ (below_regrown w3 _ _)))) | quiet_step (fail))
      refine wpQuiet_nil ?_
      rintro _ ⟨pq, rfl⟩
      have HBE := Lib.hid (bthen HB.out (below_regrown w3 pq.d pq.os))
      clear e0 e1 e2 e3 e4 e5 e6 e7 e8 e9 e10 e11 e12 xc0 xc1 y0 y1 HB aw ka
      go_wp2_with fail
      go_ret
      exact ⟨rfl, HBE.out⟩
end Go.Proofs.Yteghnaocncmiaaa
