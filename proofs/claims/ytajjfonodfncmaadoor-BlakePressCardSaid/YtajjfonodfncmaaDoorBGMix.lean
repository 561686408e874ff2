/-
  The program's RotateLeft32, down, mix: what they come to.
-/
import Derived.Test.YtajjfonodfncmaaDoorBLem
import Derived.Test.YtajjfonodfncmaaDoorLoose
import Derived.IntWalk
namespace Go.Proofs.YtajjfonodfncmaaDoor
open Go Go.RowKit
set_option linter.unusedVariables false

theorem rotl_is (x : Int) (n : Nat) (hn0 : 1 ≤ n) (hn : n ≤ 31) (hb : bits .and .u64 (IntKind.u64.wrap (-(n : Int))) 31 = ((32 - n : Nat) : Int)) (w : World) :
    Calls Tryd.prog 22 #[.int .u32 x, .int .i64 (-(n : Int))] w fun e w' => e = .returned (.int .u32 (rot32 x n)) ∧ w = w' := by
  have h1 : IntKind.u64.wrap (32 - ((32 - n : Nat) : Int)) = (n : Int) := by rw [IntKind.wrap_u64]; omega
  have h2 := rot_left x n (by omega)
  rw [← h2]
  generalize hm : 32 - n = m at *
  have hm1 : m ≤ 31 := by omega
  clear hm h2
  go_enter Tryd.func22, Tryd.ntmps22
  go_wp2
  go_ret
  exact ⟨rfl, rfl⟩
theorem and_7 : bits .and .u64 (IntKind.u64.wrap (-((7 : Nat) : Int))) 31 = ((32 - 7 : Nat) : Int) := by decide +kernel
theorem and_8 : bits .and .u64 (IntKind.u64.wrap (-((8 : Nat) : Int))) 31 = ((32 - 8 : Nat) : Int) := by decide +kernel
theorem and_12 : bits .and .u64 (IntKind.u64.wrap (-((12 : Nat) : Int))) 31 = ((32 - 12 : Nat) : Int) := by decide +kernel
theorem and_16 : bits .and .u64 (IntKind.u64.wrap (-((16 : Nat) : Int))) 31 = ((32 - 16 : Nat) : Int) := by decide +kernel
theorem down_is (x : Int) (n : Nat) (hn0 : 1 ≤ n) (hn : n ≤ 31) (hb : bits .and .u64 (IntKind.u64.wrap (-(n : Int))) 31 = ((32 - n : Nat) : Int)) (w : World) :
    Calls Tryd.prog 21 #[.int .u32 x, .int .i64 n] w fun e w' => e = .returned (.int .u32 (rot32 x n)) ∧ w = w' := by
  have h1 : IntKind.i64.wrap (-(n : Int)) = -(n : Int) := IntWalk.i64_in _ (by omega)
  have k := rotl_is x n hn0 hn hb
  clear hb
  go_enter Tryd.func21, Tryd.ntmps21
  go_wp2_with (go_at_call 22; (with_reducible refine (k _).mono ?_); rintro e w1 ⟨rfl, rfl⟩)
  go_ret
  exact ⟨rfl, rfl⟩
/-- Four words mixed with two. -/
def mix4 (a b c d x y : Int) : Int × Int × Int × Int :=
  let a1 := add32 (add32 a b) x
  let d1 := rot32 (xor32 d a1) 16
  let c1 := add32 c d1
  let b1 := rot32 (xor32 b c1) 12
  let a2 := add32 (add32 a1 b1) y
  let d2 := rot32 (xor32 d1 a2) 8
  let c2 := add32 c1 d2
  let b2 := rot32 (xor32 b1 c2) 7
  (a2, b2, c2, d2)
theorem results_four {fn : Func} {t u v x : Tmp} (h : fn.results = #[.tmp t, .tmp u, .tmp v, .tmp x]) (tmps : Array Value) (P : Program) (w : World) :
    (results fn tmps).run P w = .ok (.tuple #[tmps.getD t undef, tmps.getD u undef, tmps.getD v undef, tmps.getD x undef]) w := by
  simp [results, h]
theorem gmix_is (a b c d x y a2 b2 c2 d2 : Int) (h : mix4 a b c d x y = (a2, b2, c2, d2)) (w : World) :
    Calls Tryd.prog 19 #[.int .u32 a, .int .u32 b, .int .u32 c, .int .u32 d, .int .u32 x, .int .u32 y] w fun e w' => e = .returned (.tuple #[.int .u32 a2, .int .u32 b2, .int .u32 c2, .int .u32 d2]) ∧ w = w' := by
  unfold mix4 at h
  simp only [Prod.mk.injEq] at h
  obtain ⟨ha2, hb2, hc2, hd2⟩ := h
  obtain ⟨a1, ha1⟩ : ∃ z, add32 (add32 a b) x = z := ⟨_, rfl⟩
  rw [ha1] at ha2 hb2 hc2 hd2
  obtain ⟨d1, hd1⟩ : ∃ z, rot32 (xor32 d a1) 16 = z := ⟨_, rfl⟩
  rw [hd1] at ha2 hb2 hc2 hd2
  obtain ⟨c1, hc1⟩ : ∃ z, add32 c d1 = z := ⟨_, rfl⟩
  rw [hc1] at ha2 hb2 hc2 hd2
  obtain ⟨b1, hb1⟩ : ∃ z, rot32 (xor32 b c1) 12 = z := ⟨_, rfl⟩
  rw [hb1] at ha2 hb2 hc2 hd2
  rw [ha2] at hb2 hc2 hd2
  rw [hd2] at hb2 hc2
  rw [hc2] at hb2
  have k1 := down_is (xor32 d a1) 16 (by decide) (by decide) and_16
  rw [show ((16 : Nat) : Int) = 16 from rfl] at k1
  rw [hd1] at k1
  have k2 := down_is (xor32 b c1) 12 (by decide) (by decide) and_12
  rw [show ((12 : Nat) : Int) = 12 from rfl] at k2
  rw [hb1] at k2
  have k3 := down_is (xor32 d1 a2) 8 (by decide) (by decide) and_8
  rw [show ((8 : Nat) : Int) = 8 from rfl] at k3
  rw [hd2] at k3
  have k4 := down_is (xor32 b1 c2) 7 (by decide) (by decide) and_7
  rw [show ((7 : Nat) : Int) = 7 from rfl] at k4
  rw [hb2] at k4
  have e1 : IntKind.u32.wrap (a + IntKind.u32.wrap (b + x)) = a1 := by rw [add32_right, ha1]
  have e2 : IntKind.u32.wrap (c + d1) = c1 := hc1
  have e3 : IntKind.u32.wrap (a1 + IntKind.u32.wrap (b1 + y)) = a2 := by rw [add32_right, ha2]
  have e4 : IntKind.u32.wrap (c1 + d2) = c2 := hc2
  clear ha1 ha2 hb1 hb2 hc1 hc2 hd1 hd2
  simp only [IntKind.wrap_u32] at e1 e2 e3 e4
  unfold xor32 at k1 k2 k3 k4
  go_enter Tryd.func19, Tryd.ntmps19
  go_upto_region 2 with fail
  simp only [e1]
  go_upto_region 3 with (go_at_call 21; (with_reducible refine (k1 _).mono ?_); rintro e w1 ⟨rfl, rfl⟩)
  go_upto_region 4 with fail
  simp only [e2]
  go_upto_region 5 with (go_at_call 21; (with_reducible refine (k2 _).mono ?_); rintro e w1 ⟨rfl, rfl⟩)
  go_upto_region 6 with fail
  simp only [e3]
  go_upto_region 7 with (go_at_call 21; (with_reducible refine (k3 _).mono ?_); rintro e w1 ⟨rfl, rfl⟩)
  go_upto_region 8 with fail
  simp only [e4]
  go_wp2_with (go_at_call 21; (with_reducible refine (k4 _).mono ?_); rintro e w1 ⟨rfl, rfl⟩)
  (try simp only [Exit.inBlock, Exit.then])
  exact bodyPost_ret (results_four rfl _ _ _) rfl ⟨rfl, rfl⟩
/-- What a mix leaves, cell by cell. -/
theorem mixf_cells (v : Nat → Int) (A B C D : Nat) (x y a2 b2 c2 d2 : Int) (hAB : A ≠ B) (hAC : A ≠ C) (hAD : A ≠ D) (hBC : B ≠ C) (hBD : B ≠ D) (hCD : C ≠ D) (h : mix4 (v A) (v B) (v C) (v D) x y = (a2, b2, c2, d2)) :
    ∀ j, (if j = D then Value.int .u32 d2 else if j = C then Value.int .u32 c2 else if j = B then Value.int .u32 b2 else if j = A then Value.int .u32 a2 else w32 v j) = w32 (mixf v A B C D x y) j := by
  intro j
  unfold mix4 at h
  simp only [Prod.mk.injEq] at h
  obtain ⟨rfl, rfl, rfl, rfl⟩ := h
  have hBA := hAB.symm; have hCA := hAC.symm; have hDA := hAD.symm; have hCB := hBC.symm; have hDB := hBD.symm; have hDC := hCD.symm
  simp only [w32, mixf, mix1, mix2, mix3, upd, if_true, if_neg hAB, if_neg hAC, if_neg hAD, if_neg hBC, if_neg hBD, if_neg hCD, if_neg hBA, if_neg hCA, if_neg hDA, if_neg hCB, if_neg hDB, if_neg hDC]
  by_cases h1 : j = D
  · subst h1; simp only [if_true, if_neg hDA, if_neg hDB, if_neg hDC]
  by_cases h2 : j = C
  · subst h2; simp only [if_true, if_neg hCA, if_neg hCB, if_neg hCD]
  by_cases h3 : j = B
  · subst h3; simp only [if_true, if_neg hBA, if_neg hBC, if_neg hBD]
  by_cases h4 : j = A
  · subst h4; simp only [if_true, if_neg hAB, if_neg hAC, if_neg hAD]
  simp only [if_neg h1, if_neg h2, if_neg h3, if_neg h4]
end Go.Proofs.YtajjfonodfncmaaDoor
