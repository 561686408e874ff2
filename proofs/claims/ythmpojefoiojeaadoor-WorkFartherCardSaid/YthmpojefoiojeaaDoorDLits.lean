/-
  What the examples of layers 13 and 14 need of sums that are known, reckoned. (Written by gen_dlits.py; the literals: python's hashlib.)
-/
import Derived.Test.YthmpojefoiojeaaDoorGTree
import Derived.Test.YthmpojefoiojeaaDoorDrawM
namespace Go.Proofs.YthmpojefoiojeaaDoor
open Go Go.RowKit
set_option linter.unusedVariables false
set_option maxRecDepth 100000

abbrev vZ : ByteArray := ⟨#[75, 148, 222, 237, 144, 146, 113, 146, 214, 152, 207, 63, 106, 236, 141, 49, 89, 74, 174, 86, 26, 216, 229, 92, 13, 237, 247, 2, 100, 58, 129, 23]⟩
theorem sum_z : sumB ⟨#[2, 97]⟩ = vZ := sumB_eval _ _ [3990787147, 2456916624, 1070569686, 831384682, 1454262873, 1558566938, 49802509, 394345060] (by decide +kernel) (by decide +kernel)
theorem new_lit : newB ⟨#[97]⟩ = vZ := by
  rw [← newB_is, show byte2 ++ (⟨#[97]⟩ : ByteArray) = ⟨#[2, 97]⟩ by decide +kernel]
  exact sum_z
theorem sum_x0 : sumB ⟨#[3, 75, 148, 222, 237, 144, 146, 113, 146, 214, 152, 207, 63, 106, 236, 141, 49, 89, 74, 174, 86, 26, 216, 229, 92, 13, 237, 247, 2, 100, 58, 129, 23, 0, 0, 0, 0, 0, 0, 0, 0]⟩ = ⟨#[95, 132, 59, 0, 137, 110, 143, 148, 204, 105, 37, 219, 63, 100, 75, 72, 30, 157, 207, 28, 26, 186, 182, 34, 83, 146, 112, 167, 69, 135, 16, 146]⟩ := sumB_eval _ _ [3900511, 2492427913, 3676662220, 1212900415, 483368222, 582400538, 2809172563, 2450556741] (by decide +kernel) (by decide +kernel)
theorem sq_x0 : sqB vZ 0 = ⟨#[95, 132, 59, 0, 137, 110, 143, 148, 204, 105, 37, 219, 63, 100, 75, 72, 30, 157, 207, 28, 26, 186, 182, 34, 83, 146, 112, 167, 69, 135, 16, 146]⟩ := by
  rw [← sqB_is, show byte3 ++ vZ ++ eightB (IntKind.u64.wrap 0) = ⟨#[3, 75, 148, 222, 237, 144, 146, 113, 146, 214, 152, 207, 63, 106, 236, 141, 49, 89, 74, 174, 86, 26, 216, 229, 92, 13, 237, 247, 2, 100, 58, 129, 23, 0, 0, 0, 0, 0, 0, 0, 0]⟩ by decide +kernel]
  exact sum_x0
theorem fit_x0 : numB (sqB vZ 0) 0 < 18446744069414584321 ∧ numB (sqB vZ 0) 8 < 18446744069414584321 := by
  rw [sq_x0]
  decide +kernel
theorem sum_x1 : sumB ⟨#[3, 75, 148, 222, 237, 144, 146, 113, 146, 214, 152, 207, 63, 106, 236, 141, 49, 89, 74, 174, 86, 26, 216, 229, 92, 13, 237, 247, 2, 100, 58, 129, 23, 1, 0, 0, 0, 0, 0, 0, 0]⟩ = ⟨#[67, 143, 10, 160, 238, 249, 145, 246, 161, 212, 96, 3, 35, 146, 239, 173, 109, 37, 218, 241, 104, 213, 200, 9, 74, 107, 122, 223, 202, 24, 114, 23]⟩ := sumB_eval _ _ [2685046595, 4136761838, 56677537, 2918158883, 4057605485, 164156776, 3749342026, 393353418] (by decide +kernel) (by decide +kernel)
theorem sq_x1 : sqB vZ 1 = ⟨#[67, 143, 10, 160, 238, 249, 145, 246, 161, 212, 96, 3, 35, 146, 239, 173, 109, 37, 218, 241, 104, 213, 200, 9, 74, 107, 122, 223, 202, 24, 114, 23]⟩ := by
  rw [← sqB_is, show byte3 ++ vZ ++ eightB (IntKind.u64.wrap 1) = ⟨#[3, 75, 148, 222, 237, 144, 146, 113, 146, 214, 152, 207, 63, 106, 236, 141, 49, 89, 74, 174, 86, 26, 216, 229, 92, 13, 237, 247, 2, 100, 58, 129, 23, 1, 0, 0, 0, 0, 0, 0, 0]⟩ by decide +kernel]
  exact sum_x1
theorem fit_x1 : numB (sqB vZ 1) 0 < 18446744069414584321 ∧ numB (sqB vZ 1) 8 < 18446744069414584321 := by
  rw [sq_x1]
  decide +kernel
theorem sum_x2 : sumB ⟨#[3, 75, 148, 222, 237, 144, 146, 113, 146, 214, 152, 207, 63, 106, 236, 141, 49, 89, 74, 174, 86, 26, 216, 229, 92, 13, 237, 247, 2, 100, 58, 129, 23, 2, 0, 0, 0, 0, 0, 0, 0]⟩ = ⟨#[230, 105, 196, 157, 139, 224, 57, 229, 225, 245, 57, 108, 244, 70, 6, 128, 132, 38, 115, 197, 204, 243, 48, 205, 51, 194, 91, 208, 3, 141, 82, 156]⟩ := sumB_eval _ _ [2646895078, 3845775499, 1815737825, 2147895028, 3312658052, 3442537420, 3495674419, 2622655747] (by decide +kernel) (by decide +kernel)
theorem sq_x2 : sqB vZ 2 = ⟨#[230, 105, 196, 157, 139, 224, 57, 229, 225, 245, 57, 108, 244, 70, 6, 128, 132, 38, 115, 197, 204, 243, 48, 205, 51, 194, 91, 208, 3, 141, 82, 156]⟩ := by
  rw [← sqB_is, show byte3 ++ vZ ++ eightB (IntKind.u64.wrap 2) = ⟨#[3, 75, 148, 222, 237, 144, 146, 113, 146, 214, 152, 207, 63, 106, 236, 141, 49, 89, 74, 174, 86, 26, 216, 229, 92, 13, 237, 247, 2, 100, 58, 129, 23, 2, 0, 0, 0, 0, 0, 0, 0]⟩ by decide +kernel]
  exact sum_x2
theorem fit_x2 : numB (sqB vZ 2) 0 < 18446744069414584321 ∧ numB (sqB vZ 2) 8 < 18446744069414584321 := by
  rw [sq_x2]
  decide +kernel
theorem pair_step (k : Nat) (c c' : Int) (hf : numB (sqB vZ c) 0 < 18446744069414584321 ∧ numB (sqB vZ c) 8 < 18446744069414584321) (h : up c = c') : pairD (sqB vZ) (k + 1) c = (c', (numB (sqB vZ c) 0, numB (sqB vZ c) 8), true) := by
  rw [pairD, if_pos hf, h]
theorem up_lit (n : Nat) (h : n < 100) : up (n : Int) = ((n + 1 : Nat) : Int) := by unfold up; rw [IntWalk.i64_in _ (by omega)]; omega
theorem up_0 : up 0 = 1 := up_lit 0 (by decide)
theorem up_1 : up 1 = 2 := up_lit 1 (by decide)
theorem up_2 : up 2 = 3 := up_lit 2 (by decide)
theorem up_3 : up 3 = 4 := up_lit 3 (by decide)
theorem pair_a : pairD (sqB vZ) 16 0 = (1, (numB (sqB vZ 0) 0, numB (sqB vZ 0) 8), true) := pair_step 15 0 1 fit_x0 up_0
theorem pairs_a : pairsD (pairD (sqB vZ) 16) 0 3 = (3, [(numB (sqB vZ 0) 0, numB (sqB vZ 0) 8), (numB (sqB vZ 1) 0, numB (sqB vZ 1) 8), (numB (sqB vZ 2) 0, numB (sqB vZ 2) 8)], true) := by
  have h0 : pairsD (pairD (sqB vZ) 16) 0 0 = (0, [], true) := rfl
  have h1 : pairsD (pairD (sqB vZ) 16) 0 1 = (1, [(numB (sqB vZ 0) 0, numB (sqB vZ 0) 8)], true) := by
    rw [pairsD, h0]; simp only [if_true, pair_step 15 0 1 fit_x0 up_0]; rfl
  have h2 : pairsD (pairD (sqB vZ) 16) 0 2 = (2, [(numB (sqB vZ 0) 0, numB (sqB vZ 0) 8), (numB (sqB vZ 1) 0, numB (sqB vZ 1) 8)], true) := by
    rw [pairsD, h1]; simp only [if_true, pair_step 15 1 2 fit_x1 up_1]; rfl
  rw [pairsD, h2]; simp only [if_true, pair_step 15 2 3 fit_x2 up_2]; rfl
theorem places_a : placesD vZ 0 3 4 = (4, [numB (sqB vZ 0) 0 % 8, numB (sqB vZ 1) 0 % 8, numB (sqB vZ 2) 0 % 8, numB (sqB vZ 3) 0 % 8]) := by
  have e : ((2 ^ 3 : Nat) : Int) = 8 := by decide
  have h0 : placesD vZ 0 3 0 = (0, []) := rfl
  have h1 : placesD vZ 0 3 1 = (1, [numB (sqB vZ 0) 0 % 8]) := by rw [placesD, h0, e]; simp only [up_0]; rfl
  have h2 : placesD vZ 0 3 2 = (2, [numB (sqB vZ 0) 0 % 8, numB (sqB vZ 1) 0 % 8]) := by rw [placesD, h1, e]; simp only [up_1]; rfl
  have h3 : placesD vZ 0 3 3 = (3, [numB (sqB vZ 0) 0 % 8, numB (sqB vZ 1) 0 % 8, numB (sqB vZ 2) 0 % 8]) := by rw [placesD, h2, e]; simp only [up_2]; rfl
  rw [placesD, h3, e]; simp only [up_3]; rfl
theorem sum_w : sumB ⟨#[4, 75, 148, 222, 237, 144, 146, 113, 146, 214, 152, 207, 63, 106, 236, 141, 49, 89, 74, 174, 86, 26, 216, 229, 92, 13, 237, 247, 2, 100, 58, 129, 23, 54, 0, 0, 0, 0, 0, 0, 0]⟩ = ⟨#[49, 136, 199, 59, 228, 66, 131, 3, 85, 85, 24, 242, 38, 50, 205, 15, 124, 68, 190, 234, 247, 105, 173, 182, 240, 84, 246, 92, 214, 144, 26, 178]⟩ := sumB_eval _ _ [1002932273, 58933988, 4061680981, 265105958, 3938337916, 3064818167, 1559647472, 2988085462] (by decide +kernel) (by decide +kernel)
theorem num_w : numB (⟨#[49, 136, 199, 59, 228, 66, 131, 3, 85, 85, 24, 242, 38, 50, 205, 15, 124, 68, 190, 234, 247, 105, 173, 182, 240, 84, 246, 92, 214, 144, 26, 178]⟩ : ByteArray) 0 = 253119552085788721 := by decide +kernel
end Go.Proofs.YthmpojefoiojeaaDoor
