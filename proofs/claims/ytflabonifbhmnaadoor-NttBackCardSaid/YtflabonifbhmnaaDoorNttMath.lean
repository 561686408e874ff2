/-
  Forth and back by stages are what the document says, as plain mathematics (no Go in sight).
-/
import Derived.Test.YtflabonifbhmnaaDoorButter
import Derived.Test.YtflabonifbhmnaaDoorPartsRef
namespace Go.Proofs.YtflabonifbhmnaaDoor
set_option linter.unusedVariables false

theorem forth_stages (zs : List Int) (s : F) (k p : Nat) (hk : k ≤ 20) (hl : zs.length ≤ 2 ^ k) (hp : p < 2 ^ k) :
    ar (· + ·) (· - ·) (· * ·) k (fun j => co zs j * (1 * fpow s j)) k p = ev zs.length (co zs) (pt s k p) := by
  rw [ar_ev k (by omega) _ p hp, ev_congr (d := fun j => co zs j * fpow s j) (fun j _ => by grind), ev_shift, ← ev_more (n := zs.length) (m := 2 ^ k) _ hl (fun j hj => co_out zs j hj)]
  rfl
theorem root_back (k j : Nat) (hk : k ≤ 20) (h0 : 0 < j) (hj : j < 2 ^ k) : fpow (rootOf k) (2 ^ k - j) = fpow (finv (rootOf k)) j := by
  have h1 := fpow_finv (root_ne k (by omega)) j
  have h2 : fpow (rootOf k) (2 ^ k - j) * fpow (rootOf k) j = 1 := by
    rw [← fpow_add, show 2 ^ k - j + j = 2 ^ k by omega]; exact root_all k (by omega)
  generalize fpow (rootOf k) (2 ^ k - j) = a at *
  generalize fpow (finv (rootOf k)) j = b at *
  generalize fpow (rootOf k) j = c at *
  calc a = a * (c * b) := by rw [h1]; grind
    _ = (a * c) * b := by grind
    _ = b := by rw [h2]; grind
/-- The others, the other way round. -/
def rvx (k j : Nat) : Nat := if 1 ≤ j ∧ j < 2 ^ k then 2 ^ k - j else j
theorem back_stages (v : Nat → F) (s : F) (k j : Nat) (hk : k ≤ 20) (hj : j < 2 ^ k) :
    ar (· + ·) (· - ·) (· * ·) k v k (rvx k j) * (finv (nat (2 ^ k)) * fpow (finv s) j) = bk s k v j := by
  unfold bk rvx
  by_cases h : 1 ≤ j ∧ j < 2 ^ k
  · rw [if_pos h, ar_ev k (by omega) _ _ (by omega), root_back k j hk (by omega) hj]
  · rw [if_neg h]
    obtain rfl : j = 0 := by omega
    rw [ar_ev k (by omega) _ _ hj]
    simp only [fpow]
theorem fsts_getD (zs : List (Int × Int)) (j : Nat) : (fsts zs).getD j 0 = (zs.getD j (0, 0)).1 := by
  unfold fsts
  rw [List.getD, List.getD, List.getElem?_map]
  cases zs[j]? <;> rfl
theorem snds_getD (zs : List (Int × Int)) (j : Nat) : (snds zs).getD j 0 = (zs.getD j (0, 0)).2 := by
  unfold snds
  rw [List.getD, List.getD, List.getElem?_map]
  cases zs[j]? <;> rfl
/-- A row's pair at a place; 0 behind its end. -/
def coQ (zs : List (Int × Int)) (j : Nat) : F2 := ⟨co (fsts zs) j, co (snds zs) j⟩
theorem enc_join (a b : F) : encP (toQ (enc a, enc b)) = (enc a, enc b) := by
  show (enc (toF (enc a)), enc (toF (enc b))) = _
  rw [toF_enc, toF_enc]
theorem forth_stagesQ (zs : List (Int × Int)) (s : F) (k p : Nat) (hk : k ≤ 20) (hl : zs.length ≤ 2 ^ k) (hp : p < 2 ^ k) :
    encP (ar (· + ·) (· - ·) scale k (fun j => scale (coQ zs j) (1 * fpow s j)) k p) = (forthQ zs s k).getD p (0, 0) := by
  have e1 : (ar (· + ·) (· - ·) scale k (fun j => scale (coQ zs j) (1 * fpow s j)) k p).a = ev (fsts zs).length (co (fsts zs)) (pt s k p) := by
    rw [ar_a]; exact forth_stages (fsts zs) s k p hk (by rw [fsts_len]; exact hl) hp
  have e2 : (ar (· + ·) (· - ·) scale k (fun j => scale (coQ zs j) (1 * fpow s j)) k p).b = ev (snds zs).length (co (snds zs)) (pt s k p) := by
    rw [ar_b]; exact forth_stages (snds zs) s k p hk (by rw [snds_len]; exact hl) hp
  unfold forthQ
  rw [joinL_at _ _ _ (by rw [forthL_len]; exact hp), forthL_at _ _ _ _ hp, forthL_at _ _ _ _ hp, enc_join, ← e1, ← e2]
  rfl
theorem back_stagesQ (zs : List (Int × Int)) (s : F) (k j : Nat) (hk : k ≤ 20) (hj : j < 2 ^ k) :
    encP (scale (ar (· + ·) (· - ·) scale k (coQ zs) k (rvx k j)) (finv (nat (2 ^ k)) * fpow (finv s) j)) = (backQ zs s k).getD j (0, 0) := by
  have e1 : (scale (ar (· + ·) (· - ·) scale k (coQ zs) k (rvx k j)) (finv (nat (2 ^ k)) * fpow (finv s) j)).a = bk s k (co (fsts zs)) j := by
    rw [← back_stages (co (fsts zs)) s k j hk hj]
    show F2.a (ar _ _ _ _ _ _ _) * _ = _
    rw [ar_a]; rfl
  have e2 : (scale (ar (· + ·) (· - ·) scale k (coQ zs) k (rvx k j)) (finv (nat (2 ^ k)) * fpow (finv s) j)).b = bk s k (co (snds zs)) j := by
    rw [← back_stages (co (snds zs)) s k j hk hj]
    show F2.b (ar _ _ _ _ _ _ _) * _ = _
    rw [ar_b]; rfl
  unfold backQ
  rw [joinL_at _ _ _ (by rw [backL_len]; exact hj), backL_at _ _ _ _ hj, backL_at _ _ _ _ hj, enc_join, ← e1, ← e2]
  rfl
end Go.Proofs.YtflabonifbhmnaaDoor
