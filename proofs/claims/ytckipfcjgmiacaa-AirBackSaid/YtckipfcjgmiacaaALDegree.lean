/-
  The walk of AirDegree: it answers true, where the program's calls do what is asked of them. (Written by gen_alaws.py.)
-/
import Derived.Test.YtckipfcjgmiacaaALShort
import Derived.BigQuiet
namespace Go.Proofs.Ytckipfcjgmiacaa
open Go Go.RowKit
set_option linter.unusedVariables false

/-- The greatest of so many; 1 at least. -/
def mx (f : Nat → Nat) : Nat → Nat
  | 0 => 1
  | k + 1 => max (mx f k) (f k)
theorem mx_pos (f : Nat → Nat) : ∀ k, 1 ≤ mx f k
  | 0 => Nat.le_refl _
  | k + 1 => by have := mx_pos f k; simp only [mx]; omega
theorem mx_add (f : Nat → Nat) (a : Nat) : ∀ b, mx f (a + b) = max (mx f a) (mx (fun i => f (a + i)) b)
  | 0 => by have := mx_pos f a; show mx f a = max (mx f a) 1; omega
  | b + 1 => by
    show max (mx f (a + b)) (f (a + b)) = max (mx f a) (max (mx (fun i => f (a + i)) b) (f (a + b)))
    rw [mx_add f a b]
    omega
/-- The degree of a rule, by itself. -/
def AirP.deg (A : AirP) (i : Nat) : Nat := (checkB (parseB (A.text i)).1 A.cols (decide (¬ i < A.steps.length))).1
theorem AirP.deg_is {A : AirP} {i : Nat} {l : List Opn} {d : Nat} (h1 : parseB (A.text i) = (l, 0)) (h2 : checkB l A.cols (decide (¬ i < A.steps.length)) = (d, 0)) : A.deg i = d := by unfold AirP.deg; rw [h1]; dsimp only; rw [h2]
theorem AirP.deg_mx {A : AirP} (h : A.all.2 = 0) : ∀ k, k ≤ A.count → degMax (A.all.1.take k) = mx A.deg k
  | 0, _ => by rw [List.take_zero]; rfl
  | k + 1, hk => by
    rw [degMax_take _ _ (by rw [AirP.all_len h]; omega), AirP.deg_mx h k (by omega)]
    obtain ⟨l, d, h1, h2, h3, h4, _⟩ := AirP.rule_ok h (i := k) (by omega)
    have hd : degO (A.all.1.getD k []) = if k < A.steps.length then max 1 d else d := by rw [h3]; unfold degO; rw [h4]; rfl
    rw [hd]
    have := mx_pos A.deg k
    simp only [mx]
    rw [AirP.deg_is h1 h2]
    split <;> omega
theorem AirP.degree_mx {A : AirP} (h : A.all.2 = 0) : A.degree = max (mx (fun i => A.deg (A.steps.length + i)) A.rules.length) (mx A.deg A.steps.length) := by
  have := AirP.deg_mx h A.count (Nat.le_refl _)
  rw [← AirP.all_len h, List.take_length, AirP.all_len h] at this
  show degMax A.all.1 = _
  rw [this]
  unfold AirP.count
  rw [mx_add, Nat.max_comm]
def AirP.mxs (A : AirP) (m k : Nat) : Nat := max m (mx A.deg k)
def DegRel18 (w0 : World) (n : Nat) (f : Nat → Nat) (m i : Value) (W : World) : Prop := ∃ k : Nat, k ≤ n ∧ m = .int .i64 (f k : Nat) ∧ i = .int .i64 k ∧ Below w0.heap.size w0 W
set_option maxRecDepth 100000 in
set_option maxHeartbeats 8000000 in
theorem adegree_body (G : World → Prop) (hAk : AskAir G) (aw : ∀ W, G W → Calls Try.prog 9 #[] W fun e w' => e = .returned (.bool true) ∧ Below W.heap.size W w') (A : AirP) (p : AirAt) (w : World) (hG : G w) (hA : AirA w A p) (hk : OkAir A) :
    Calls Try.prog 6 #[A.val p] w fun e w' => e = .returned (.bool true) ∧ Below w.heap.size w w' := by
  have HK := Lib.hid (fun (W W' : World) => @AskAir.keep G hAk W W')
  have HG0 := Lib.hid hG
  have HA0 := Lib.hid hA
  clear hG hA
  by_cases hsh : shortB A = true
  case neg =>
    have hsh : shortB A = false := by simpa using hsh
    have ks := fun W (h : AirA W A p) => rashort_is A p false W h hsh
    clear hsh
    go_enter Try.func6, Try.ntmps6
    go_upto_region 1 with fail
    obtain ⟨g, hg⟩ : ∃ g, w.heap.size = g := ⟨_, rfl⟩
    refine wp_gen (fun W => Below w.heap.size w W ∧ AirC W g A p) ⟨(Below.refl _ _).alloc (Nat.le_refl _) _, by rw [← hg]; exact AirC.new _ _ _ _⟩ ?_
    rintro w0 ⟨hB0, hC⟩
    simp only [hg]
    have HB0 := Lib.hid hB0; have HC := Lib.hid hC
    have HA := Lib.hid (HA0.out.keep hB0)
    have HG := Lib.hid (HK.out _ _ HG0.out hB0)
    have HB : Hid (Below w0.heap.size w0 w0) := Lib.hid (Below.refl _ _)
    clear hB0 hg HA0 HG0 hC
    obtain ⟨x0, x1, x2, x3, x4⟩ := HC.out
    have ks := fun W (h : Below w0.heap.size w0 W) => ks W (HA.out.keep h)
    have aw := fun W (h : Below w0.heap.size w0 W) => aw W (HK.out _ _ HG.out h)
    go_wp2_with (first
        | (go_at_call 8; (with_reducible refine (ks _ HB.out).mono ?_); rintro e w1 ⟨rfl, hb⟩; replace x0 := bkeep hb x0; replace x1 := bkeep hb x1; replace x2 := bkeep hb x2; replace x3 := bkeep hb x3; replace x4 := bkeep hb x4; replace HB := Lib.hid (bthen HB.out hb); clear hb)
        | (go_at_call 9; (with_reducible refine (aw _ HB.out).mono ?_); rintro e w1 ⟨rfl, hb⟩; replace x0 := bkeep hb x0; replace x1 := bkeep hb x1; replace x2 := bkeep hb x2; replace x3 := bkeep hb x3; replace x4 := bkeep hb x4; replace HB := Lib.hid (bthen HB.out hb); clear hb))
    go_ret
    exact ⟨rfl, bthen HB0.out HB.out⟩
  have hf := short_few hsh
  have ks := fun W (h : AirA W A p) => rashort_is A p true W h hsh
  obtain ⟨e, he⟩ : ∃ e, A.check = e := ⟨_, rfl⟩
  clear hsh
  by_cases hE : e = 0
  case neg =>
    go_enter Try.func6, Try.ntmps6
    go_upto_region 1 with fail
    obtain ⟨g, hg⟩ : ∃ g, w.heap.size = g := ⟨_, rfl⟩
    refine wp_gen (fun W => Below w.heap.size w W ∧ AirC W g A p) ⟨(Below.refl _ _).alloc (Nat.le_refl _) _, by rw [← hg]; exact AirC.new _ _ _ _⟩ ?_
    rintro w0 ⟨hB0, hC⟩
    simp only [hg]
    have HB0 := Lib.hid hB0; have HC := Lib.hid hC
    have HA := Lib.hid (HA0.out.keep hB0)
    have HG := Lib.hid (HK.out _ _ HG0.out hB0)
    have HB : Hid (Below w0.heap.size w0 w0) := Lib.hid (Below.refl _ _)
    clear hB0 hg HA0 HG0 hC
    obtain ⟨x0, x1, x2, x3, x4⟩ := HC.out
    have ks := fun W (h : Below w0.heap.size w0 W) => ks W (HA.out.keep h)
    have aw := fun W (h : Below w0.heap.size w0 W) => aw W (HK.out _ _ HG.out h)
    have c1 := fun W (h : Below w0.heap.size w0 W) => hAk.check A p e W (HA.out.keep h) hk hf he (HK.out _ _ HG.out h)
    clear he
    go_wp2_with (first
        | (go_at_call 8; (with_reducible refine (ks _ HB.out).mono ?_); rintro e w1 ⟨rfl, hb⟩; replace x0 := bkeep hb x0; replace x1 := bkeep hb x1; replace x2 := bkeep hb x2; replace x3 := bkeep hb x3; replace x4 := bkeep hb x4; replace HB := Lib.hid (bthen HB.out hb); clear hb)
        | (go_at_call 10; (with_reducible refine (c1 _ HB.out).mono ?_); rintro e w1 ⟨rfl, hb⟩; replace x0 := bkeep hb x0; replace x1 := bkeep hb x1; replace x2 := bkeep hb x2; replace x3 := bkeep hb x3; replace x4 := bkeep hb x4; replace HB := Lib.hid (bthen HB.out hb); clear hb)
        | (go_at_call 9; (with_reducible refine (aw _ HB.out).mono ?_); rintro e w1 ⟨rfl, hb⟩; replace x0 := bkeep hb x0; replace x1 := bkeep hb x1; replace x2 := bkeep hb x2; replace x3 := bkeep hb x3; replace x4 := bkeep hb x4; replace HB := Lib.hid (bthen HB.out hb); clear hb))
    go_ret
    exact ⟨rfl, bthen HB0.out HB.out⟩
  subst hE
  obtain ⟨n1, n2, n3, n4, n5⟩ := AirP.check_ok he
  have hall : A.all.2 = 0 := by rw [n3]; exact n4
  have HALL := Lib.hid hall
  have hlen := AirP.all_len hall
  obtain ⟨ls, hls⟩ : ∃ ls, A.all.1 = ls := ⟨_, rfl⟩
  have hr : A.all = (ls, 0) := by rw [← hls, ← hall]
  rw [hls] at hlen
  obtain ⟨d1, d4⟩ := AirP.degree_bd hall
  have hparts : max (1 : Int) ((A.degree : Int) - 1) = (A.parts : Int) := by have : A.parts = max 1 (A.degree - 1) := rfl; rw [this]; omega
  have hw : IntKind.i64.wrap ((A.degree : Int) - 1) = (A.degree : Int) - 1 := IntWalk.i64_in _ (by omega)
  have hsl := hf.1; have hrl := hf.2.1
  have HDG := Lib.hid (AirP.degree_mx hall)
  have hsum : IntKind.i64.wrap ((A.steps.length : Int) + (A.rules.length : Int)) = (ls.length : Int) := by rw [IntWalk.i64_in _ (by omega), hlen]; unfold AirP.count; omega
  go_enter Try.func6, Try.ntmps6
  go_upto_region 1 with fail
  obtain ⟨g, hg⟩ : ∃ g, w.heap.size = g := ⟨_, rfl⟩
  refine wp_gen (fun W => Below w.heap.size w W ∧ AirC W g A p) ⟨(Below.refl _ _).alloc (Nat.le_refl _) _, by rw [← hg]; exact AirC.new _ _ _ _⟩ ?_
  rintro w0 ⟨hB0, hC⟩
  simp only [hg]
  have HB0 := Lib.hid hB0; have HC := Lib.hid hC
  have HA := Lib.hid (HA0.out.keep hB0)
  have HG := Lib.hid (HK.out _ _ HG0.out hB0)
  have HB : Hid (Below w0.heap.size w0 w0) := Lib.hid (Below.refl _ _)
  clear hB0 hg HA0 HG0 hC
  obtain ⟨x0, x1, x2, x3, x4⟩ := HC.out
  have ks := fun W (h : Below w0.heap.size w0 W) => ks W (HA.out.keep h)
  have c1 := fun W (h : Below w0.heap.size w0 W) => hAk.check A p 0 W (HA.out.keep h) hk hf he (HK.out _ _ HG.out h)
  have g1 := fun W (h : Below w0.heap.size w0 W) => hAk.degree A p W (HA.out.keep h) hk hf he (HK.out _ _ HG.out h)
  have g2 := fun W (h : Below w0.heap.size w0 W) => hAk.parts A p W (HA.out.keep h) hk hf he (HK.out _ _ HG.out h)
  have r1 := fun W (h : Below w0.heap.size w0 W) => hAk.rules A p ls 0 W (HA.out.keep h) hk hf hr (HK.out _ _ HG.out h)
  unfold RulesPost at r1
  clear he hr hls hlen n1 n2 n3 n4 n5 hall
  have h1d : ¬ (A.degree : Int) < 1 := by omega
  have h4d : ¬ (4 : Int) < (A.degree : Int) := by omega
  go_upto_region 9 with (first
      | (go_at_call 8; (with_reducible refine (ks _ HB.out).mono ?_); rintro e w1 ⟨rfl, hb⟩; replace x0 := bkeep hb x0; replace x1 := bkeep hb x1; replace x2 := bkeep hb x2; replace x3 := bkeep hb x3; replace x4 := bkeep hb x4; replace HB := Lib.hid (bthen HB.out hb); clear hb)
      | (go_at_call 10; (with_reducible refine (c1 _ HB.out).mono ?_); rintro e w1 ⟨rfl, hb⟩; replace x0 := bkeep hb x0; replace x1 := bkeep hb x1; replace x2 := bkeep hb x2; replace x3 := bkeep hb x3; replace x4 := bkeep hb x4; replace HB := Lib.hid (bthen HB.out hb); clear hb)
      | (go_at_call 17; (with_reducible refine (g1 _ HB.out).mono ?_); rintro e w1 ⟨rfl, hb⟩; replace x0 := bkeep hb x0; replace x1 := bkeep hb x1; replace x2 := bkeep hb x2; replace x3 := bkeep hb x3; replace x4 := bkeep hb x4; replace HB := Lib.hid (bthen HB.out hb); clear hb)
      | (go_at_call 19; (with_reducible refine (g2 _ HB.out).mono ?_); rintro e w1 ⟨rfl, hb⟩; replace x0 := bkeep hb x0; replace x1 := bkeep hb x1; replace x2 := bkeep hb x2; replace x3 := bkeep hb x3; replace x4 := bkeep hb x4; replace HB := Lib.hid (bthen HB.out hb); clear hb)
      | (go_at_call 11; (with_reducible refine (r1 _ HB.out).mono ?_); rintro E w1 ⟨hb, a1, n1, rfl, _, _⟩; replace x0 := bkeep hb x0; replace x1 := bkeep hb x1; replace x2 := bkeep hb x2; replace x3 := bkeep hb x3; replace x4 := bkeep hb x4; replace HB := Lib.hid (bthen HB.out hb); clear hb))
  refine wp_gen (fun W => Below w0.heap.size w0 W) HB.out ?_
  clear HB x0 x1 x2 x3 x4 ks c1 g1 g2 r1 hsum hw hparts h1d h4d d1 d4
  rintro w3 hBs
  obtain ⟨D, hD⟩ : ∃ D, A.degree = D := ⟨_, rfl⟩
  rw [hD] at HDG
  simp only [hD]
  clear hD
  go_loopw [6, 7] (DegRel18 w0 A.rules.length (mx (fun i => A.deg (A.steps.length + i)))) (fun _ i _ => A.rules.length - (intOf i).toNat)
  case atStart => exact ⟨0, Nat.zero_le _, rfl, rfl, hBs⟩
  case round =>
    clear hBs
    obtain ⟨k, hk2, rfl, rfl, hB⟩ := hrel
    obtain ⟨x0, x1, x2, x3, x4⟩ := HC.out.keep hB
    by_cases hlt : k < A.rules.length
    · have hltI : (k : Int) < (A.rules.length : Int) := by omega
      have hk0 : (0 : Int) ≤ (k : Int) := by omega
      obtain ⟨b1, o1, e1, s1⟩ := ((HA.out.keep hB).2.1).2 k hlt
      rw [e1] at x3
      clear e1
      obtain ⟨l, d, p1, p2, _, _, _, p3⟩ := AirP.rule_ok HALL.out (i := A.steps.length + k) (by unfold AirP.count; omega)
      have hdk := AirP.deg_is p1 p2
      rw [AirP.text_rule (by omega), show A.steps.length + k - A.steps.length = k by omega] at p1
      have hnx : decide (¬ A.steps.length + k < A.steps.length) = true := decide_eq_true (by omega)
      rw [hnx] at p2
      have hT : (tx A.rules k).size ≤ 9223372036854775807 := hk.rules _ (tx_mem hlt)
      have kp := fun W => rcparse_is (tx A.rules k) l 0 W hT p1
      unfold ParsePost at kp
      have okl := parse_okO p1
      have hmx := max_nat (mx (fun i => A.deg (A.steps.length + i)) k) d
      have HMX : Hid (mx (fun i => A.deg (A.steps.length + i)) (k + 1) = max (mx (fun i => A.deg (A.steps.length + i)) k) d) := Lib.hid (by rw [← hdk]; rfl)
      have HB := Lib.hid hB
      have kc := fun (a : Option Addr) (c : Nat) W (h : OpA W a l.length l) => rscheck_is a c l A.cols true d 0 W h okl.1 hk.cols p2
      clear hB p1 p2 p3 hT hdk hnx okl
      generalize tx A.rules k = T at *
      generalize mx (fun i => A.deg (A.steps.length + i)) k = mm at *
      go_upto_region 12 with (go_at_call 26; (with_reducible refine (kp _).mono ?_); rintro E w5 ⟨hb, ap, cp, rfl, op, _⟩; replace x0 := bkeep hb x0; replace x1 := bkeep hb x1; replace x2 := bkeep hb x2; replace x3 := bkeep hb x3; replace x4 := bkeep hb x4; replace HB := Lib.hid (bthen HB.out hb); have HOP := Lib.hid op; clear hb op)
      go_upto_region 13 with (go_at_call 27; (with_reducible refine (kc _ _ _ HOP.out).mono ?_); rintro E w6 ⟨rfl, hb⟩; replace x0 := bkeep hb x0; replace x1 := bkeep hb x1; replace x2 := bkeep hb x2; replace x3 := bkeep hb x3; replace x4 := bkeep hb x4; replace HB := Lib.hid (bthen HB.out hb); clear hb)
      clear HOP kp kc
      go_wp2_with fail
      go_roundw
      case rel => exact ⟨k + 1, by omega, by rw [HMX.out], by go_num, HB.out⟩
      case measure => simp [intOf]; omega
    · obtain rfl : k = A.rules.length := by omega
      have hBs := hB
      go_upto_region 17 with fail
      clear hB x0 x1 x2 x3 x4
      have hm1p := mx_pos (fun i => A.deg (A.steps.length + i)) A.rules.length
      generalize mx (fun i => A.deg (A.steps.length + i)) A.rules.length = m1 at *
      go_loopw [6, 12] (DegRel18 w0 A.steps.length (A.mxs m1)) (fun _ i _ => A.steps.length - (intOf i).toNat)
      case atStart => exact ⟨0, Nat.zero_le _, by rw [show A.mxs m1 0 = m1 by show max m1 1 = m1; omega], rfl, hBs⟩
      case round =>
        clear hBs
        obtain ⟨k, hk2, rfl, rfl, hB⟩ := hrel
        obtain ⟨x0, x1, x2, x3, x4⟩ := HC.out.keep hB
        by_cases hlt : k < A.steps.length
        · have hltI : (k : Int) < (A.steps.length : Int) := by omega
          have hk0 : (0 : Int) ≤ (k : Int) := by omega
          obtain ⟨b1, o1, e1, s1⟩ := ((HA.out.keep hB).1).2 k hlt
          rw [e1] at x2
          clear e1
          obtain ⟨l, d, p1, p2, _, _, _, p3⟩ := AirP.rule_ok HALL.out (i := k) (by unfold AirP.count; omega)
          have hdk := AirP.deg_is p1 p2
          rw [AirP.text_step hlt] at p1
          have hnx : decide (¬ k < A.steps.length) = false := decide_eq_false (by simpa using hlt)
          rw [hnx] at p2
          have hT : (tx A.steps k).size ≤ 9223372036854775807 := hk.steps _ (tx_mem hlt)
          have kp := fun W => rcparse_is (tx A.steps k) l 0 W hT p1
          unfold ParsePost at kp
          have okl := parse_okO p1
          have hmx := max_nat (A.mxs m1 k) d
          have HMX : Hid (A.mxs m1 (k + 1) = max (A.mxs m1 k) d) := Lib.hid (by rw [← hdk]; unfold AirP.mxs; simp only [mx]; omega)
          have HB := Lib.hid hB
          have kc := fun (a : Option Addr) (c : Nat) W (h : OpA W a l.length l) => rscheck_is a c l A.cols false d 0 W h okl.1 hk.cols p2
          clear hB p1 p2 p3 hT hdk hnx okl
          generalize tx A.steps k = T at *
          generalize A.mxs m1 k = mm at *
          go_upto_region 20 with (go_at_call 26; (with_reducible refine (kp _).mono ?_); rintro E w5 ⟨hb, ap, cp, rfl, op, _⟩; replace x0 := bkeep hb x0; replace x1 := bkeep hb x1; replace x2 := bkeep hb x2; replace x3 := bkeep hb x3; replace x4 := bkeep hb x4; replace HB := Lib.hid (bthen HB.out hb); have HOP := Lib.hid op; clear hb op)
          go_upto_region 21 with (go_at_call 27; (with_reducible refine (kc _ _ _ HOP.out).mono ?_); rintro E w6 ⟨rfl, hb⟩; replace x0 := bkeep hb x0; replace x1 := bkeep hb x1; replace x2 := bkeep hb x2; replace x3 := bkeep hb x3; replace x4 := bkeep hb x4; replace HB := Lib.hid (bthen HB.out hb); clear hb)
          clear HOP kp kc
          go_wp2_with fail
          go_roundw
          case rel => exact ⟨k + 1, by omega, by rw [HMX.out], by go_num, HB.out⟩
          case measure => simp [intOf]; omega
        · obtain rfl : k = A.steps.length := by omega
          have HBE := Lib.hid hB
          have aw := fun W (h : Below w0.heap.size w0 W) => aw W (HK.out _ _ HG.out h)
          have HDG2 : Hid (A.mxs m1 A.steps.length = D) := Lib.hid HDG.out.symm
          rw [HDG2.out]
          clear HDG hB
          go_wp2_with (go_at_call 9; (with_reducible refine (aw _ HBE.out).mono ?_); rintro e w9 ⟨rfl, hb⟩)
          go_ret
          exact ⟨rfl, bthen HB0.out (bthen HBE.out hb)⟩
end Go.Proofs.Ytckipfcjgmiacaa
