/-
  Sums: Sums, polynomials and what they come to at roots of unity, and back, as plain mathematics (no Go in sight).
  PtsRef: What the document's Points of layer 4 come to: a contract for the walk.
  ForthRef: What the document's Forth of layer 4 comes to: contracts for the walk. (Written by gen_forthref.py.)
  BackRef: What the document's Back of layer 4 comes to: contracts for the walk. (Written by gen_backref.py.)
  PartsRef: What the document's parts and join of layer 4 come to, and its ForthPairs and BackPairs: contracts for the walk.
  NttC: What is asked of package ntt, call by call, under names; and that the document's answers do the same.
-/
import Derived.Test.YthfkfgjhgicfeaaDoorGRoot
import Derived.Test.YthfkfgjhgicfeaaDoorGRow
import Derived.Test.YthfkfgjhgicfeaaDoorGRef
import Derived.Test.YthfkfgjhgicfeaaDoorGNum
import Derived.Deep.DeepCutAuto
import Derived.Test.YthfkfgjhgicfeaaDoorSame
import Derived.Test.YthfkfgjhgicfeaaDoorOpenPairs
namespace Go.Proofs.YthfkfgjhgicfeaaDoor
set_option linter.unusedVariables false

/-- The sum of the first n. -/
def sm : Nat → (Nat → F) → F
  | 0, _ => 0
  | n + 1, f => sm n f + f n
theorem sm_succ (n : Nat) (f : Nat → F) : sm (n + 1) f = sm n f + f n := rfl
theorem sm_congr {f g : Nat → F} : ∀ {n : Nat}, (∀ i, i < n → f i = g i) → sm n f = sm n g
  | 0, _ => rfl
  | n + 1, h => by rw [sm_succ, sm_succ, sm_congr (fun i hi => h i (by omega)), h n (by omega)]
theorem sm_add (f g : Nat → F) : ∀ n : Nat, sm n (fun i => f i + g i) = sm n f + sm n g
  | 0 => by simp only [sm]; grind
  | n + 1 => by rw [sm_succ, sm_succ, sm_succ, sm_add f g n]; grind
theorem sm_mul (a : F) (f : Nat → F) : ∀ n : Nat, sm n (fun i => a * f i) = a * sm n f
  | 0 => by simp only [sm]; grind
  | n + 1 => by rw [sm_succ, sm_succ, sm_mul a f n]; grind
theorem sm_zero : ∀ n : Nat, sm n (fun _ => 0) = 0
  | 0 => rfl
  | n + 1 => by rw [sm_succ, sm_zero n]; grind
theorem sm_none {f : Nat → F} {n : Nat} (h : ∀ i, i < n → f i = 0) : sm n f = 0 := by rw [sm_congr h, sm_zero]
theorem sm_swap (f : Nat → Nat → F) (m : Nat) : ∀ n : Nat, sm n (fun i => sm m (f i)) = sm m (fun j => sm n (fun i => f i j))
  | 0 => (sm_none (f := fun j => sm 0 (fun i => f i j)) (fun i _ => rfl)).symm
  | n + 1 => by rw [sm_succ, sm_swap f m n, ← sm_add]; rfl
theorem sm_one {f : Nat → F} {k : Nat} : ∀ {n : Nat}, k < n → (∀ i, i < n → i ≠ k → f i = 0) → sm n f = f k
  | n + 1, hk, h => by
    rw [sm_succ]
    by_cases e : k = n
    · subst e; rw [sm_none (fun i hi => h i (by omega) (by omega))]; grind
    · rw [sm_one (n := n) (by omega) (fun i hi hik => h i (by omega) hik), h n (by omega) (fun e' => e e'.symm)]; grind
theorem sm_first (f : Nat → F) : ∀ n : Nat, sm (n + 1) f = f 0 + sm n (fun i => f (i + 1))
  | 0 => by simp only [sm]; grind
  | n + 1 => by rw [sm_succ, sm_first f n, sm_succ]; grind
theorem sm_more {f : Nat → F} {n : Nat} : ∀ {m : Nat}, n ≤ m → (∀ i, n ≤ i → i < m → f i = 0) → sm m f = sm n f
  | 0, h, _ => by rw [show n = 0 by omega]
  | m + 1, h, hz => by
    by_cases e : n = m + 1
    · rw [e]
    · rw [sm_succ, sm_more (n := n) (m := m) (by omega) (fun i h1 h2 => hz i h1 (by omega)), hz m (by omega) (by omega)]; grind
/-- The even ones and the odd ones. -/
theorem sm_two (f : Nat → F) : ∀ n : Nat, sm (2 * n) f = sm n (fun i => f (2 * i)) + sm n (fun i => f (2 * i + 1))
  | 0 => by simp only [sm]; grind
  | n + 1 => by
    rw [show 2 * (n + 1) = 2 * n + 1 + 1 by omega, sm_succ, sm_succ, sm_two f n, sm_succ, sm_succ]; grind
theorem sm_cat (f : Nat → F) (n : Nat) : ∀ m : Nat, sm (n + m) f = sm n f + sm m (fun i => f (n + i))
  | 0 => by simp only [sm, Nat.add_zero]; grind
  | m + 1 => by rw [← Nat.add_assoc, sm_succ, sm_cat f n m, sm_succ]; grind

/-! Polynomials. -/
/-- A row's number at a place, in the field; 0 behind its end. -/
def co (zs : List Int) (j : Nat) : F := toF (zs.getD j 0)
theorem co_out (zs : List Int) (j : Nat) (h : zs.length ≤ j) : co zs j = 0 := by
  unfold co
  rw [show zs.getD j 0 = 0 by simp [List.getD, h]]
  decide
/-- What n coefficients come to. -/
def ev (n : Nat) (c : Nat → F) (x : F) : F := sm n (fun j => c j * fpow x j)
theorem ev_congr {n : Nat} {c d : Nat → F} {x : F} (h : ∀ j, j < n → c j = d j) : ev n c x = ev n d x := sm_congr fun j hj => by rw [h j hj]
theorem ev_more {n m : Nat} {c : Nat → F} (x : F) (h : n ≤ m) (hz : ∀ j, n ≤ j → c j = 0) : ev m c x = ev n c x := sm_more h fun i h1 _ => by rw [hz i h1]; grind
theorem ev_add (n : Nat) (c d : Nat → F) (x : F) : ev n (fun j => c j + d j) x = ev n c x + ev n d x := by
  unfold ev; rw [← sm_add]; exact sm_congr fun j _ => by grind
theorem ev_mul (n : Nat) (a : F) (c : Nat → F) (x : F) : ev n (fun j => a * c j) x = a * ev n c x := by
  unfold ev; rw [← sm_mul]; exact sm_congr fun j _ => by grind
theorem ev_shift (n : Nat) (c : Nat → F) (s x : F) : ev n (fun j => c j * fpow s j) x = ev n c (s * x) := by
  unfold ev; exact sm_congr fun j _ => by rw [mul_fpow]; grind
/-- From the j-th coefficient on, the highest one first (Horner). -/
def ho (n : Nat) (c : Nat → F) (x : F) (j : Nat) : F := ev (n - j) (fun i => c (j + i)) x
theorem ho_end (n : Nat) (c : Nat → F) (x : F) : ho n c x n = 0 := by unfold ho; rw [Nat.sub_self]; rfl
theorem ho_step (n : Nat) (c : Nat → F) (x : F) (j : Nat) (h : j < n) : ho n c x j = ho n c x (j + 1) * x + c j := by
  unfold ho ev
  rw [show n - j = (n - (j + 1)) + 1 by omega, sm_first, show ∀ a b : F, a * x + b = b + x * a by intro a b; grind, ← sm_mul]
  congr 1
  · simp only [fpow, Nat.add_zero]; grind
  · exact sm_congr fun i _ => by dsimp only; rw [fpow_succ, show j + (i + 1) = j + 1 + i by omega]; grind
theorem ho_zero (n : Nat) (c : Nat → F) (x : F) : ho n c x 0 = ev n c x := by
  unfold ho; rw [Nat.sub_zero]; exact ev_congr fun j _ => by rw [Nat.zero_add]

/-! Roots of unity. -/
theorem geo (z : F) : ∀ n : Nat, (z - 1) * sm n (fpow z) = fpow z n - 1
  | 0 => by simp only [sm, fpow]; grind
  | n + 1 => by
    have := geo z n
    rw [sm_succ, fpow_succ]
    grind
theorem fpow_sm_one : ∀ n : Nat, sm n (fpow 1) = nat n
  | 0 => rfl
  | n + 1 => by rw [sm_succ, fpow_sm_one n, one_fpow, nat_add]; rfl
/-- No two powers of a root below its order are one. -/
theorem root_inj (k : Nat) (hk : k ≤ 32) (i j : Nat) (hi : i < 2 ^ k) (hj : j < 2 ^ k) (h : fpow (rootOf k) i = fpow (rootOf k) j) : i = j := by
  unfold rootOf at h
  rw [← fpow_mul, ← fpow_mul] at h
  have hd : 18446744069414584320 / 2 ^ k * 2 ^ k = 18446744069414584320 := by
    have : ∀ k, k < 33 → 18446744069414584320 / 2 ^ k * 2 ^ k = 18446744069414584320 := by decide +kernel
    exact this k (by omega)
  have hp : 0 < 18446744069414584320 / 2 ^ k := by
    refine Nat.pos_of_ne_zero fun h0 => ?_
    rw [h0] at hd
    omega
  generalize 18446744069414584320 / 2 ^ k = d at *
  have b1 : d * i < d * 2 ^ k := Nat.mul_lt_mul_of_pos_left hi hp
  have b2 : d * j < d * 2 ^ k := Nat.mul_lt_mul_of_pos_left hj hp
  rw [hd] at b1 b2
  exact Nat.eq_of_mul_eq_mul_left hp (seven_inj _ _ b1 b2 h)
theorem root_ne (k : Nat) (hk : k ≤ 32) : rootOf k ≠ 0 := by
  intro h
  have := root_all k hk
  rw [h] at this
  cases e : 2 ^ k with
  | zero => have := Nat.two_pow_pos k; omega
  | succ n => rw [e, fpow_succ] at this; have h2 : (1 : F) = 0 := by rw [← this]; grind
              exact one_ne_zero h2
theorem fpow_finv {x : F} (hx : x ≠ 0) (j : Nat) : fpow x j * fpow (finv x) j = 1 := by
  rw [← mul_fpow, mul_finv x hx, one_fpow]
/-- All powers of a root by the inverse of others: they are 0 together, but where both are one. -/
theorem root_orth (k : Nat) (hk : k ≤ 32) (m j : Nat) (hm : m < 2 ^ k) (hj : j < 2 ^ k) :
    sm (2 ^ k) (fun i => fpow (rootOf k) (i * m) * fpow (finv (rootOf k)) (j * i)) = if m = j then nat (2 ^ k) else 0 := by
  have hne := root_ne k hk
  have e : ∀ i, fpow (rootOf k) (i * m) * fpow (finv (rootOf k)) (j * i) = fpow (fpow (rootOf k) m * fpow (finv (rootOf k)) j) i := by
    intro i
    rw [mul_fpow, ← fpow_mul, ← fpow_mul, Nat.mul_comm i m]
  rw [sm_congr (fun i _ => e i)]
  by_cases h : m = j
  · subst h
    rw [if_pos rfl, fpow_finv hne, ← fpow_sm_one]
  · rw [if_neg h]
    have hz : fpow (rootOf k) m * fpow (finv (rootOf k)) j ≠ 1 := by
      intro h1
      refine h (root_inj k hk m j hm hj ?_)
      have h2 := fpow_finv hne j
      calc fpow (rootOf k) m = fpow (rootOf k) m * (fpow (rootOf k) j * fpow (finv (rootOf k)) j) := by rw [h2]; grind
        _ = fpow (rootOf k) j * (fpow (rootOf k) m * fpow (finv (rootOf k)) j) := by grind
        _ = fpow (rootOf k) j := by rw [h1]; grind
    have hg := geo (fpow (rootOf k) m * fpow (finv (rootOf k)) j) (2 ^ k)
    have hN : fpow (fpow (rootOf k) m * fpow (finv (rootOf k)) j) (2 ^ k) = 1 := by
      have hw := root_all k hk
      rw [mul_fpow, ← fpow_mul, ← fpow_mul, Nat.mul_comm m, Nat.mul_comm j, fpow_mul, fpow_mul, hw]
      have hv : fpow (finv (rootOf k)) (2 ^ k) = 1 := by
        have := fpow_finv hne (2 ^ k)
        rw [hw] at this
        rw [← this]; grind
      rw [hv, one_fpow, one_fpow]; grind
    rw [hN] at hg
    have h0 : (fpow (rootOf k) m * fpow (finv (rootOf k)) j - 1) * sm (2 ^ k) (fpow (fpow (rootOf k) m * fpow (finv (rootOf k)) j)) = 0 := by rw [hg]; grind
    rcases mul_eq_zero h0 with h1 | h1
    · exfalso; apply hz
      generalize fpow (rootOf k) m * fpow (finv (rootOf k)) j = z at *
      grind
    · exact h1

/-- The points: the shift times a root's powers. -/
def pt (s : F) (k i : Nat) : F := s * fpow (rootOf k) i
theorem pt_zero (s : F) (k : Nat) : pt s k 0 = s := by unfold pt; rw [fpow_zero]; grind
theorem pt_succ (s : F) (k i : Nat) : pt s k (i + 1) = pt s k i * rootOf k := by unfold pt; rw [fpow_succ]; grind
theorem pt_half (s : F) (k i : Nat) (hk : k < 32) : pt s (k + 1) (2 * i) = pt s k i := by
  unfold pt; rw [fpow_mul]
  congr 2
  rw [show fpow (rootOf (k + 1)) 2 = rootOf (k + 1) * rootOf (k + 1) by simp only [fpow]; grind, root_sq k hk]
/-- From values at the points back to coefficients. -/
def bk (s : F) (k : Nat) (v : Nat → F) (j : Nat) : F := ev (2 ^ k) v (fpow (finv (rootOf k)) j) * (finv (nat (2 ^ k)) * fpow (finv s) j)
theorem nat_pow_ne (k : Nat) (hk : k ≤ 32) : nat (2 ^ k) ≠ 0 := by
  have : 2 ^ k ≤ 2 ^ 32 := Nat.pow_le_pow_right (by decide) hk
  exact nat_ne _ (Nat.two_pow_pos k) (by omega)
/-- Forth and back. -/
theorem bk_ev (s : F) (hs : s ≠ 0) (k : Nat) (hk : k ≤ 32) (c : Nat → F) (j : Nat) (hj : j < 2 ^ k) : bk s k (fun i => ev (2 ^ k) c (pt s k i)) j = c j := by
  have hn := mul_finv _ (nat_pow_ne k hk)
  have e1 : ev (2 ^ k) (fun i => ev (2 ^ k) c (pt s k i)) (fpow (finv (rootOf k)) j) = nat (2 ^ k) * (c j * fpow s j) := by
    unfold ev
    have e2 : ∀ i, sm (2 ^ k) (fun m => c m * fpow (pt s k i) m) * fpow (fpow (finv (rootOf k)) j) i = sm (2 ^ k) (fun m => (c m * fpow s m) * (fpow (rootOf k) (i * m) * fpow (finv (rootOf k)) (j * i))) := by
      intro i
      rw [show ∀ a b : F, a * b = b * a by intro a b; grind, ← sm_mul]
      refine sm_congr fun m _ => ?_
      unfold pt
      rw [mul_fpow, ← fpow_mul, ← fpow_mul]
      grind
    rw [sm_congr (fun i _ => e2 i), sm_swap]
    rw [sm_congr (g := fun m => (c m * fpow s m) * (if m = j then nat (2 ^ k) else 0)) (fun m hm => by rw [sm_mul, root_orth k hk m j hm hj])]
    rw [sm_one hj (fun i _ hij => by rw [if_neg hij]; grind), if_pos rfl]
    grind
  have h2 := fpow_finv hs j
  unfold bk
  rw [e1]
  generalize nat (2 ^ k) = n at *
  generalize finv n = n' at *
  generalize fpow s j = p at *
  generalize fpow (finv s) j = q at *
  grind
/-- Back and forth. -/
theorem ev_bk (s : F) (hs : s ≠ 0) (k : Nat) (hk : k ≤ 32) (v : Nat → F) (i : Nat) (hi : i < 2 ^ k) : ev (2 ^ k) (bk s k v) (pt s k i) = v i := by
  have hn := mul_finv _ (nat_pow_ne k hk)
  unfold ev
  have e2 : ∀ j, bk s k v j * fpow (pt s k i) j = finv (nat (2 ^ k)) * sm (2 ^ k) (fun m => v m * (fpow (rootOf k) (j * i) * fpow (finv (rootOf k)) (m * j))) := by
    intro j
    have h2 := fpow_finv hs j
    unfold bk pt ev
    generalize finv (nat (2 ^ k)) = n'
    rw [mul_fpow, ← fpow_mul, Nat.mul_comm i j]
    rw [show ∀ a n p s' w : F, s' * p = 1 → a * (n * p) * (s' * w) = n * (w * a) by intro a n p s' w h; grind]
    · rw [← sm_mul]
      refine congrArg (fun z => n' * z) (sm_congr fun m _ => ?_)
      rw [← fpow_mul, Nat.mul_comm j m]
      grind
    · exact h2
  rw [sm_congr (fun j _ => e2 j), sm_mul, sm_swap]
  rw [sm_congr (g := fun m => v m * (if i = m then nat (2 ^ k) else 0)) (fun m hm => by rw [sm_mul, root_orth k hk i m hi hm])]
  rw [sm_one hi (fun m _ hmi => by rw [if_neg (fun e => hmi e.symm)]; grind), if_pos rfl]
  generalize nat (2 ^ k) = n at *
  generalize finv n = n' at *
  grind
end Go.Proofs.YthfkfgjhgicfeaaDoor
namespace Go.Proofs.YthfkfgjhgicfeaaDoor
open Go.RowKit
set_option linter.unusedVariables false

/-- The points, as numbers are kept. -/
def pts (s : F) (k : Nat) : List Int := (List.range (2 ^ k)).map fun i => enc (pt s k i)
theorem pts_len (s : F) (k : Nat) : (pts s k).length = 2 ^ k := by simp [pts]
theorem pts_at (s : F) (k i : Nat) (h : i < 2 ^ k) : (pts s k).getD i 0 = enc (pt s k i) := by simp [pts, List.getD, h]
theorem pts_U (s : F) (k : Nat) : ∀ n ∈ pts s k, U n := by
  intro n hn
  simp only [pts, List.mem_map] at hn
  obtain ⟨z, _, rfl⟩ := hn
  exact enc_U _
theorem pts_snoc (s : F) (k i : Nat) (h : i < 2 ^ k) : (pts s k).take (i + 1) = (pts s k).take i ++ [enc (pt s k i)] := by
  have hl : i < (pts s k).length := by rw [pts_len]; exact h
  rw [List.take_succ_eq_append_getElem hl, ← pts_at s k i h]
  simp [List.getD, hl]
/-- A slice of numbers that the call itself made. -/
def NewRow (w : World) (n : Nat) (zs : List Int) (e : Ending) (w' : World) : Prop := ∃ a c, e = .returned (.slice a n c) ∧ Below w.heap.size w w' ∧ Row w' (.slice a n c) zs

def PtsUp (w : World) (s : F) (k : Nat) (m x i : Value) (W : World) : Prop :=
  ∃ j : Nat, j ≤ 2 ^ k ∧ i = .int .i64 j ∧ x = .int .u64 (enc (pt s k j)) ∧ MadeU w W m ((pts s k).take j)

set_option maxHeartbeats 4000000 in
theorem refpoints_any (z : Int) (hz : U z) (s : F) (hs : toF z = s) (k : Nat) (hk : k ≤ 20) (w : World) :
    Calls Tryd.prog 70 #[.int .u64 z, .int .i64 k] w (NewRow w (2 ^ k) (pts s k)) := by
  obtain ⟨i0, hi, hz0, hz1, hz2⟩ := info_parts info64'
  have o1 := fun W => ref_below (refof_is k (enc (rootOf k)) (by rw [ofv_in (by omega) (by omega)]; rfl) W)
  have r1 := rem_toF z hz
  have r2 := mod_toF z hz
  have z0 := hz.1
  have w1 := wrap64_pow k (by omega)
  have P2 : 2 ^ k ≤ 2 ^ 20 := Nat.pow_le_pow_right (by decide) hk
  have HS := Lib.hid (pts_snoc s k)
  have HP := Lib.hid (pt_succ s k)
  have H0 := Lib.hid (pt_zero s k)
  have HL := Lib.hid (pts_len s k)
  rw [hs] at r1 r2
  obtain ⟨n, hn⟩ : ∃ n, 2 ^ k = n := ⟨_, rfl⟩
  have HN := Lib.hid hn
  rw [hn] at w1 P2
  clear hs hz hn
  go_enter Tryd.func70, Tryd.ntmps70
  go_upto_region 4 with ((go_at_call 69; ((with_reducible refine (o1 _).mono ?_); rintro e W ⟨rfl, hB⟩)))
  clear r1 r2 z0
  go_upto_region 5 with fail
  go_loopw [5, 7, 8] (PtsUp w s k) (fun _ _ i _ => n - (intOf i).toNat)
  case atStart => exact ⟨0, Nat.zero_le _, rfl, by rw [H0.out], (MadeU.start w).keep hB⟩
  case round =>
    clear hB
    obtain ⟨j, hj, rfl, rfl, hM⟩ := hrel
    rw [HN.out] at hj
    by_cases hlt : j < n
    · have q1 := fun W => ref_below (refmul_any (enc (pt s k j)) (enc (rootOf k)) (enc_U _) (enc_U _) W)
      rw [toF_enc, toF_enc, ← HP.out j] at q1
      have HT := Lib.hid (HS.out j (by rw [HN.out]; exact hlt))
      have hlen : ((pts s k).take j).length ≤ 1048576 := by rw [List.length_take, HL.out, HN.out]; omega
      generalize (pts s k).take j = xs at *
      generalize enc (pt s k j) = y at *
      obtain ⟨y', hy⟩ : ∃ y', enc (pt s k (j + 1)) = y' := ⟨_, rfl⟩
      rw [hy] at q1
      have HY := Lib.hid hy
      clear hy
      have hstep := fun w1 v' => @MadeU.step w _ w1 _ v' xs y hM
      have hown := hM.1
      have hsz := hM.2.size
      have HT2 := Lib.hid hstep
      clear hstep hM
      have hlt' : (j : Int) < (n : Int) := by omega
      generalize xs.length = nn at *
      generalize xs.map (Value.int .u64) = cs at *
      go_wp2_with (at_builtin; refine wpList_append_own _ rfl _ _ 73 rfl w.heap.size 29 i0 (.int .u64 0) 1 8 Tryd.underlying73 hi hz0 hz1 hz2 rfl (by decide) _ _ _ rfl (hown.alloc _) ⟨wr.heap.size, 0, none⟩ 1 1 [.int .u64 y] rfl rfl ?c1 ?c2 ?c3 ?c4 ?c5 ?_)
      case c1 => exact one_src (by simp [go_sem])
      case c2 => first | rfl | (intro u hu; simp at hu; subst hu; rfl)
      case c3 => unfold maxLen; omega
      case c4 => omega
      case c5 => first | omega | (simp; omega)
      · intro v' w1 hown' hgrow _
        have hM := HT2.out w1 v' _ hown' hgrow
        clear hown' hgrow hown HT2
        go_wp2_with ((go_at_call 66; ((with_reducible refine (q1 _).mono ?_); rintro e W2 ⟨rfl, hb⟩; replace hM := hM.keep hb; clear hb)))
        go_roundw
        case rel => exact ⟨j + 1, by rw [HN.out]; omega, by go_num, by rw [HY.out], by rw [HT.out]; exact hM⟩
        case measure => simp [intOf]; omega
    · obtain rfl : j = n := by omega
      rw [← HN.out, ← HL.out, List.take_length] at hM
      obtain ⟨am, cm, hv, hrow⟩ := hM.row
      rw [HL.out] at hv hrow
      have hB := hM.2
      clear hM hlt
      subst hv
      go_wp2
      go_ret
      exact ⟨am, cm, rfl, hB, hrow⟩
end Go.Proofs.YthfkfgjhgicfeaaDoor
namespace Go.Proofs.YthfkfgjhgicfeaaDoor
open Go.RowKit Go.Sort Go.BigFrame
set_option linter.unusedVariables false

theorem same_below {f : FuncId} {args : Array Value} {v : Value} {w : World} (h : Calls Tryd.prog f args w fun e w' => e = .returned v ∧ w = w') : Calls Tryd.prog f args w fun e w' => e = .returned v ∧ Below w.heap.size w w' :=
  h.mono fun _ _ ⟨he, hn⟩ => ⟨he, hn ▸ Below.refl _ _⟩
/-- What coefficients come to at the points. -/
def forthL (zs : List Int) (s : F) (k : Nat) : List Int := (List.range (2 ^ k)).map fun i => enc (ev zs.length (co zs) (pt s k i))
theorem forthL_len (zs : List Int) (s : F) (k : Nat) : (forthL zs s k).length = 2 ^ k := by simp [forthL]
theorem forthL_at (zs : List Int) (s : F) (k i : Nat) (h : i < 2 ^ k) : (forthL zs s k).getD i 0 = enc (ev zs.length (co zs) (pt s k i)) := by simp [forthL, List.getD, h]
theorem forthL_U (zs : List Int) (s : F) (k : Nat) : ∀ n ∈ forthL zs s k, U n := by
  intro n hn
  simp only [forthL, List.mem_map] at hn
  obtain ⟨z, _, rfl⟩ := hn
  exact enc_U _

/-- The row while the i-th one is under way, down to the j-th coefficient. -/
def fin (zs : List Int) (s : F) (k i j : Nat) (m : Nat) : Int := if m < i then (forthL zs s k).getD m 0 else if m = i then enc (ho zs.length (co zs) (pt s k i) j) else 0
def FOuter (w : World) (zs : List Int) (s : F) (k g : Nat) (i : Value) (W : World) : Prop :=
  ∃ m : Nat, m ≤ 2 ^ k ∧ i = .int .i64 m ∧ Below w.heap.size w W ∧ Arr W g (2 ^ k) (fun j => .int .u64 (if j < m then (forthL zs s k).getD j 0 else 0))
def FInner (w : World) (zs : List Int) (s : F) (k g m : Nat) (j : Value) (W : World) : Prop :=
  ∃ r : Nat, r ≤ zs.length ∧ j = .int .i64 ((r : Int) - 1) ∧ Below w.heap.size w W ∧ Arr W g (2 ^ k) (fun j => .int .u64 (fin zs s k m r j))
theorem fin_start (zs : List Int) (s : F) (k m : Nat) : ∀ j, j < 2 ^ k → (Value.int .u64 (if j < m then (forthL zs s k).getD j 0 else 0)) = .int .u64 (fin zs s k m zs.length j) := by
  intro j hj
  unfold fin
  by_cases h : j < m
  · rw [if_pos h, if_pos h]
  · rw [if_neg h, if_neg h, ho_end]
    by_cases e : j = m
    · rw [if_pos e]; rfl
    · rw [if_neg e]
theorem fin_end (zs : List Int) (s : F) (k m : Nat) : ∀ j, j < 2 ^ k → Value.int .u64 (fin zs s k m 0 j) = .int .u64 (if j < m + 1 then (forthL zs s k).getD j 0 else 0) := by
  intro j hj
  unfold fin
  by_cases h : j < m
  · rw [if_pos h, if_pos (by omega)]
  · rw [if_neg h]
    by_cases e : j = m
    · subst e; rw [if_pos rfl, if_pos (by omega), ho_zero, forthL_at zs s k j hj]
    · rw [if_neg e, if_neg (by omega)]
theorem fin_step {zs : List Int} {s : F} {k m r : Nat} {y : Int} (hy : enc (ho zs.length (co zs) (pt s k m) r) = y) : ∀ j, j < 2 ^ k → (if j = m then Value.int .u64 y else .int .u64 (fin zs s k m (r + 1) j)) = .int .u64 (fin zs s k m r j) := by
  intro j hj
  unfold fin
  by_cases e : j = m
  · subst e; rw [if_pos rfl, if_neg (by omega), if_pos rfl, hy]
  · rw [if_neg e]
    by_cases h : j < m
    · rw [if_pos h, if_pos h]
    · rw [if_neg h, if_neg e, if_neg h, if_neg e]
theorem fin_at (zs : List Int) (s : F) (k m r : Nat) : fin zs s k m r m = enc (ho zs.length (co zs) (pt s k m) r) := by unfold fin; rw [if_neg (by omega), if_pos rfl]

/-- What the slots of the drawn region hold. -/
def ForthR (g n i bp op cp b off len cap j : Nat) (y x t z y' : Int) (sl : Nat) (v : Value) (W : World) : Prop :=
  match sl with
  | 45 => v = .slice (some ⟨g, 0, none⟩) n n
  | 46 => v = .int .i64 i
  | 47 => v = .slice (some ⟨g, 0, none⟩) n n
  | 48 => v = .int .i64 i
  | 49 => v = .pointer (some ⟨g, i, none⟩)
  | 50 => v = .int .u64 y
  | 51 => v = .slice (some ⟨bp, op, none⟩) n cp
  | 52 => v = .int .i64 i
  | 53 => v = .pointer (some ⟨bp, op + i, none⟩)
  | 54 => v = .int .u64 x
  | 55 => v = .int .u64 t
  | 56 => v = .slice (some ⟨b, off, none⟩) len cap
  | 57 => v = .int .i64 j
  | 58 => v = .pointer (some ⟨b, off + j, none⟩)
  | 59 => v = .int .u64 z
  | 60 => v = .int .u64 y'
  | _ => v = .pointer (some ⟨g, i, none⟩)
theorem ForthR.keep {g n i bp op cp b off len cap j : Nat} {y x t z y' : Int} {sl : Nat} {v : Value} {W W' : World} (h : ForthR g n i bp op cp b off len cap j y x t z y' sl v W) (hb : Below W.heap.size W W') : ForthR g n i bp op cp b off len cap j y x t z y' sl v W' := h

/-- A slice of numbers that the call itself made, beside OK. -/
def NewOk (w : World) (n : Nat) (zs : List Int) (e : Ending) (w' : World) : Prop := ∃ a c, e = .returned (.tuple #[.slice a n c, .int .i64 0]) ∧ Below w.heap.size w w' ∧ Row w' (.slice a n c) zs

set_option maxHeartbeats 4000000 in
theorem refforth_yes (a : Option Addr) (len cap : Nat) (zs : List Int) (zi : Int) (hz : U zi) (s : F) (hs : toF zi = s) (k : Nat) (hk : k ≤ 20) (w : World) (hr : RowA w a len zs) (hu : ∀ n ∈ zs, U n) (hl : len ≤ 2 ^ k) :
    Calls Tryd.prog 36 #[.slice a len cap, .int .u64 zi, .int .i64 k] w (NewOk w (2 ^ k) (forthL zs s k)) := by
  have p1 := refpoints_any zi hz s hs k hk
  have hmk := fun W => run_make_row' (P := Tryd.prog) 73 29 (.int .u64 0) 8 Tryd.underlying73 info64' rfl .i64 .i64 (2 ^ k) (by have : 2 ^ k ≤ 2 ^ 20 := Nat.pow_le_pow_right (by decide) hk; omega) (by have : 2 ^ k ≤ 2 ^ 20 := Nat.pow_le_pow_right (by decide) hk; omega) W
  have w1' := wrap64_pow k (by omega)
  have P2 : 2 ^ k ≤ 2 ^ 20 := Nat.pow_le_pow_right (by decide) hk
  have HR := Lib.hid hr
  have HU := Lib.hid (U_getD hu)
  obtain ⟨rfl, hlm, _⟩ := hr
  unfold maxLen at hlm
  obtain ⟨n, hn⟩ : ∃ n, 2 ^ k = n := ⟨_, rfl⟩
  have HN := Lib.hid hn
  unfold NewRow at p1
  rw [hn] at w1' P2 hl hmk
  rw [hn] at p1
  clear hs hz hn hu
  have hl' : (zs.length : Int) ≤ (n : Int) := by omega
  go_enter Tryd.func36, Tryd.ntmps36
  go_upto_region 4 with ((go_at_call 70; ((with_reducible refine (p1 _).mono ?_); rintro e w1 ⟨ap, cp, rfl, hB, hP⟩)))
  clear p1 w1'
  have HPR := Lib.hid hP.at
  go_upto_region 6 with fail
  go_loopw [10] (FOuter w1 zs s k w1.heap.size) (fun i _ => n - (intOf i).toNat)
  case atStart => exact ⟨0, Nat.zero_le _, rfl, (Below.refl _ _).alloc (Nat.le_refl _) _, by rw [HN.out]; exact (Arr.new w1 _ _ _).same (fun j hj => by simp [Nat.mod_one])⟩
  case round =>
    obtain ⟨i, hi, rfl, hW, hA⟩ := hrel
    rw [HN.out] at hi hA
    by_cases hlt : i < n
    · have hlt' : (i : Int) < (n : Int) := by omega
      go_upto_region 9 with fail
      go_loopw [11] (FInner w1 zs s k w1.heap.size i) (fun j _ => (intOf j + 1).toNat)
      case atStart => exact ⟨zs.length, Nat.le_refl _, rfl, hW, by rw [HN.out]; exact hA.same (by rw [← HN.out]; exact fin_start zs s k i)⟩
      case round =>
        clear hW hA
        obtain ⟨r, hr, rfl, hW, hA⟩ := hrel
        rw [HN.out] at hA
        cases r with
        | zero =>
          rw [show ((0 : Nat) : Int) - 1 = -1 from rfl]
          have HW := Lib.hid hW; have HA := Lib.hid hA
          clear hW hA
          go_wp2
          go_roundw
          case rel => exact ⟨i + 1, by rw [HN.out]; omega, by go_num, HW.out, by rw [HN.out]; exact HA.out.same (by rw [← HN.out]; exact fin_end zs s k i)⟩
          case measure => simp [intOf]; omega
        | succ j =>
          rw [show ((j + 1 : Nat) : Int) - 1 = (j : Int) by omega]
          obtain ⟨b, off, rfl, g00⟩ := (HR.out.keep hB).2.2 j (by omega)
          have g0 := bkeep hW g00
          obtain ⟨bp, op, rfl, p00⟩ := HPR.out.2.2 i hlt
          have p0 := bkeep hW p00
          rw [pts_at s k i (by rw [HN.out]; exact hlt)] at p0
          clear g00 p00
          have gU := HU.out j (by omega)
          have f0 := (hA i hlt).2
          have c0 := (hA i hlt).1
          dsimp only at c0
          rw [show fin zs s k i (j + 1) i = enc (ho zs.length (co zs) (pt s k i) (j + 1)) from fin_at zs s k i (j + 1)] at c0
          have m1 := fun W => ref_below (refmul_any (enc (ho zs.length (co zs) (pt s k i) (j + 1))) (enc (pt s k i)) (enc_U _) (enc_U _) W)
          have a1 := fun W => same_below (refadd_any (enc (ho zs.length (co zs) (pt s k i) (j + 1) * pt s k i)) (zs.getD j 0) (enc_U _) gU W)
          simp only [toF_enc] at m1 a1
          rw [show ho zs.length (co zs) (pt s k i) (j + 1) * pt s k i + toF (zs.getD j 0) = ho zs.length (co zs) (pt s k i) j from (ho_step _ _ _ j (by omega)).symm] at a1
          obtain ⟨y', hy⟩ : ∃ v, enc (ho zs.length (co zs) (pt s k i) j) = v := ⟨_, rfl⟩
          rw [hy] at a1
          have HF := Lib.hid hA
          have HS : Hid (∀ m, m < 2 ^ k → (if m = i then Value.int .u64 y' else .int .u64 (fin zs s k i (j + 1) m)) = .int .u64 (fin zs s k i j m)) := Lib.hid (fin_step hy)
          have HW := Lib.hid hW
          clear hA hW gU hy
          generalize enc (ho zs.length (co zs) (pt s k i) (j + 1) * pt s k i) = t at *
          generalize enc (ho zs.length (co zs) (pt s k i) (j + 1)) = y at *
          generalize enc (pt s k i) = x at *
          generalize zs.getD j 0 = z at *
          have hj1 : (j : Int) < (zs.length : Int) := by omega
          have hj0 : (0 : Int) ≤ (j : Int) := by omega
          have hi0 : (0 : Int) ≤ (i : Int) := by omega
          go_upto_region 11 with fail
          refine wp_loose [(45, []), (46, []), (47, []), (48, []), (49, [47, 48]), (50, [49]), (51, []), (52, []), (53, [51, 52]), (54, [53]), (55, [50, 54]), (56, []), (57, []), (58, [56, 57]), (59, [58]), (60, [55, 59]), (61, [45, 46])]
            (ForthR w1.heap.size n i bp op cp b off zs.length cap j y x t z y') (fun d => false) (by kernel_rfl) (by kernel_rfl) (fun _ _ _ _ h hb => h.keep hb) ?_ ?_
          · refine opsrun_cons ?_ (opsrun_cons ?_ (opsrun_cons ?_ (opsrun_cons ?_ (opsrun_cons ?_ (opsrun_cons ?_ (opsrun_cons ?_ (opsrun_cons ?_ (opsrun_cons ?_ (opsrun_cons ?_ (opsrun_cons ?_ (opsrun_cons ?_ (opsrun_cons ?_ (opsrun_cons ?_ (opsrun_cons ?_ (opsrun_cons ?_ (opsrun_cons ?_ opsrun_nil))))))))))))))))
            all_goals
              refine OpRuns.any ?_
              intro Q0 σ W' K hb hn hK
              simp only [fill, List.map, Act.put, List.setIfInBounds_toArray, List.set_cons_zero, List.set_cons_succ] at hK ⊢
            · clear hn
              go_simp
              exact hK _ _ rfl (Below.refl _ _) (fun h => absurd h (by decide))
            · clear hn
              go_simp
              exact hK _ _ rfl (Below.refl _ _) (fun h => absurd h (by decide))
            · clear hn
              go_simp
              exact hK _ _ rfl (Below.refl _ _) (fun h => absurd h (by decide))
            · clear hn
              go_simp
              exact hK _ _ rfl (Below.refl _ _) (fun h => absurd h (by decide))
            · have h47 : σ 47 = _ := hn 47 (by decide)
              have h48 : σ 48 = _ := hn 48 (by decide)
              clear hn
              simp only [h47, h48] at hK
              go_simp
              exact hK _ _ rfl (Below.refl _ _) (fun h => absurd h (by decide))
            · have h49 : σ 49 = _ := hn 49 (by decide)
              clear hn
              simp only [h49] at hK
              have c0' := bkeep hb c0
              clear c0
              go_simp
              exact hK _ _ rfl (Below.refl _ _) (fun h => absurd h (by decide))
            · clear hn
              go_simp
              exact hK _ _ rfl (Below.refl _ _) (fun h => absurd h (by decide))
            · clear hn
              go_simp
              exact hK _ _ rfl (Below.refl _ _) (fun h => absurd h (by decide))
            · have h51 : σ 51 = _ := hn 51 (by decide)
              have h52 : σ 52 = _ := hn 52 (by decide)
              clear hn
              simp only [h51, h52] at hK
              go_simp
              exact hK _ _ rfl (Below.refl _ _) (fun h => absurd h (by decide))
            · have h53 : σ 53 = _ := hn 53 (by decide)
              clear hn
              simp only [h53] at hK
              have p0' := bkeep hb p0
              clear p0
              go_simp
              exact hK _ _ rfl (Below.refl _ _) (fun h => absurd h (by decide))
            · have h50 : σ 50 = _ := hn 50 (by decide)
              have h54 : σ 54 = _ := hn 54 (by decide)
              clear hn
              simp only [h50, h54] at hK
              go_simp
              go_at_call 66
              refine (m1 _).mono ?_
              rintro e w1 ⟨rfl, hb1⟩
              exact hK _ _ rfl hb1 (fun h => absurd h (by decide))
            · clear hn
              go_simp
              exact hK _ _ rfl (Below.refl _ _) (fun h => absurd h (by decide))
            · clear hn
              go_simp
              exact hK _ _ rfl (Below.refl _ _) (fun h => absurd h (by decide))
            · have h56 : σ 56 = _ := hn 56 (by decide)
              have h57 : σ 57 = _ := hn 57 (by decide)
              clear hn
              simp only [h56, h57] at hK
              go_simp
              exact hK _ _ rfl (Below.refl _ _) (fun h => absurd h (by decide))
            · have h58 : σ 58 = _ := hn 58 (by decide)
              clear hn
              simp only [h58] at hK
              have g0' := bkeep hb g0
              clear g0
              go_simp
              exact hK _ _ rfl (Below.refl _ _) (fun h => absurd h (by decide))
            · have h55 : σ 55 = _ := hn 55 (by decide)
              have h59 : σ 59 = _ := hn 59 (by decide)
              clear hn
              simp only [h55, h59] at hK
              go_simp
              go_at_call 29
              refine (a1 _).mono ?_
              rintro e w1 ⟨rfl, hb1⟩
              exact hK _ _ rfl hb1 (fun h => absurd h (by decide))
            · have h45 : σ 45 = _ := hn 45 (by decide)
              have h46 : σ 46 = _ := hn 46 (by decide)
              clear hn
              simp only [h45, h46] at hK
              go_simp
              exact hK _ _ rfl (Below.refl _ _) (fun h => absurd h (by decide))
          · intro σ W' hb hR' hF
            have h60 : σ 60 = _ := hR' 60 (by decide)
            have h61 : σ 61 = _ := hR' 61 (by decide)
            have c0' := bkeep hb c0
            have f0' := bfree hb c0 f0
            have HB2 := Lib.hid (bthen HW.out hb)
            have HA2 := Lib.hid hb
            clear hR' hF c0 f0 p0 g0 m1 a1 hb
            simp only [fill, List.map, Act.put, List.setIfInBounds_toArray, List.set_cons_zero, List.set_cons_succ, List.length_cons, List.length_nil, List.drop_succ_cons, List.drop_zero, Nat.reduceAdd, h60, h61]
            clear h60 h61
            go_wp2
            go_roundw
            case rel => exact ⟨j, by omega, rfl, HB2.out.setCell (by simp) _, by rw [HN.out]; exact ((HF.out.keep HA2.out).set i _ hlt).same (by rw [← HN.out]; exact HS.out)⟩
            case measure => simp [intOf]
    · obtain rfl : i = n := by omega
      have hrow := Arr.row (hA.same (fun j hj => by rw [if_pos hj])) (by rw [forthL_len]; exact HN.out) (by unfold maxLen; omega)
      replace hB := bthen hB hW
      clear hA hW hlt
      go_wp2
      exact bodyPost_ret (v := .tuple #[.slice (some ⟨w1.heap.size, 0, none⟩) i i, .int .i64 0]) (by simp [results, Tryd.results36, go_sem]) rfl ⟨_, _, by rw [HN.out], hB, by rw [HN.out]; exact hrow⟩

/-- An error, and no slice. -/
def ErrArg (w : World) (e : Ending) (w' : World) : Prop := e = .returned (.tuple #[.slice none 0 0, .int .i64 1]) ∧ Below w.heap.size w w'
theorem refforth_no (a : Option Addr) (len cap : Nat) (zi k : Int) (hlm : len ≤ maxLen) (w : World) (h : ¬ (0 ≤ k ∧ k ≤ 20 ∧ len ≤ 2 ^ k.toNat)) :
    Calls Tryd.prog 36 #[.slice a len cap, .int .u64 zi, .int .i64 k] w (ErrArg w) := by
  unfold maxLen at hlm
  have hB := Below.refl w.heap.size w
  by_cases h1 : k < 0
  · clear h
    go_enter Tryd.func36, Tryd.ntmps36
    go_wp2
    exact bodyPost_ret (v := .tuple #[.slice none 0 0, .int .i64 1]) (by simp [results, Tryd.results36, go_sem]) rfl ⟨rfl, hB⟩
  · by_cases h2 : 20 < k
    · clear h
      go_enter Tryd.func36, Tryd.ntmps36
      go_wp2
      exact bodyPost_ret (v := .tuple #[.slice none 0 0, .int .i64 1]) (by simp [results, Tryd.results36, go_sem]) rfl ⟨rfl, hB⟩
    · obtain ⟨m, rfl⟩ := Int.eq_ofNat_of_zero_le (by omega : 0 ≤ k)
      have w1 := wrap64_pow m (by omega)
      have h3 : 2 ^ m < len := by
        refine Nat.lt_of_not_le fun hh => h ⟨by omega, by omega, ?_⟩
        rw [Int.toNat_natCast]; exact hh
      have h4 : ((2 ^ m : Nat) : Int) < (len : Int) := by omega
      have hm : (m : Int) ≤ 20 := by omega
      clear h h1 h2 h3
      generalize ((2 ^ m : Nat) : Int) = P at *
      go_enter Tryd.func36, Tryd.ntmps36
      go_wp2
      exact bodyPost_ret (v := .tuple #[.slice none 0 0, .int .i64 1]) (by simp [results, Tryd.results36, go_sem]) rfl ⟨rfl, hB⟩
end Go.Proofs.YthfkfgjhgicfeaaDoor
namespace Go.Proofs.YthfkfgjhgicfeaaDoor
open Go.RowKit Go.Sort Go.BigFrame
set_option linter.unusedVariables false

/-- The coefficients of what comes to these values. -/
def backL (zs : List Int) (s : F) (k : Nat) : List Int := (List.range (2 ^ k)).map fun j => enc (bk s k (co zs) j)
theorem backL_len (zs : List Int) (s : F) (k : Nat) : (backL zs s k).length = 2 ^ k := by simp [backL]
theorem backL_at (zs : List Int) (s : F) (k i : Nat) (h : i < 2 ^ k) : (backL zs s k).getD i 0 = enc (bk s k (co zs) i) := by simp [backL, List.getD, h]
theorem backL_U (zs : List Int) (s : F) (k : Nat) : ∀ n ∈ backL zs s k, U n := by
  intro n hn
  simp only [backL, List.mem_map] at hn
  obtain ⟨z, _, rfl⟩ := hn
  exact enc_U _
theorem toF_nat (n : Nat) : toF (n : Int) = nat n := by unfold toF nat; rw [Int.toNat_natCast]

/-- A power of what gives 1 with the root. -/
def wp (k j : Nat) : F := fpow (finv (rootOf k)) j
/-- The row while the j-th one is under way, down to the i-th value. -/
def bin (zs : List Int) (s : F) (k j i : Nat) (m : Nat) : Int := if m < j then (backL zs s k).getD m 0 else if m = j then enc (ho (2 ^ k) (co zs) (wp k j) i) else 0
def BOuter (w : World) (zs : List Int) (s : F) (k g : Nat) (i : Value) (W : World) : Prop :=
  ∃ m : Nat, m ≤ 2 ^ k ∧ i = .int .i64 m ∧ Below w.heap.size w W ∧ Arr W g (2 ^ k) (fun j => .int .u64 (if j < m then (backL zs s k).getD j 0 else 0))
def BInner (w : World) (zs : List Int) (s : F) (k g m : Nat) (j : Value) (W : World) : Prop :=
  ∃ r : Nat, r ≤ 2 ^ k ∧ j = .int .i64 ((r : Int) - 1) ∧ Below w.heap.size w W ∧ Arr W g (2 ^ k) (fun j => .int .u64 (bin zs s k m r j))
theorem bin_start (zs : List Int) (s : F) (k m : Nat) : ∀ j, j < 2 ^ k → (Value.int .u64 (if j < m then (backL zs s k).getD j 0 else 0)) = .int .u64 (bin zs s k m (2 ^ k) j) := by
  intro j hj
  unfold bin
  by_cases h : j < m
  · rw [if_pos h, if_pos h]
  · rw [if_neg h, if_neg h, ho_end]
    by_cases e : j = m
    · rw [if_pos e]; rfl
    · rw [if_neg e]
theorem bin_end {zs : List Int} {s : F} {k m : Nat} {o : Int} (ho' : enc (bk s k (co zs) m) = o) : ∀ j, j < 2 ^ k → (if j = m then Value.int .u64 o else .int .u64 (bin zs s k m 0 j)) = .int .u64 (if j < m + 1 then (backL zs s k).getD j 0 else 0) := by
  intro j hj
  unfold bin
  by_cases e : j = m
  · subst e; rw [if_pos rfl, if_pos (by omega), backL_at zs s k j hj, ho']
  · rw [if_neg e]
    by_cases h : j < m
    · rw [if_pos h, if_pos (by omega)]
    · rw [if_neg h, if_neg e, if_neg (by omega)]
theorem bin_step {zs : List Int} {s : F} {k m r : Nat} {y : Int} (hy : enc (ho (2 ^ k) (co zs) (wp k m) r) = y) : ∀ j, j < 2 ^ k → (if j = m then Value.int .u64 y else .int .u64 (bin zs s k m (r + 1) j)) = .int .u64 (bin zs s k m r j) := by
  intro j hj
  unfold bin
  by_cases e : j = m
  · subst e; rw [if_pos rfl, if_neg (by omega), if_pos rfl, hy]
  · rw [if_neg e]
    by_cases h : j < m
    · rw [if_pos h, if_pos h]
    · rw [if_neg h, if_neg e, if_neg h, if_neg e]
theorem bin_at (zs : List Int) (s : F) (k m r : Nat) : bin zs s k m r m = enc (ho (2 ^ k) (co zs) (wp k m) r) := by unfold bin; rw [if_neg (by omega), if_pos rfl]

/-- What the slots of the drawn regions hold. -/
def BackR (g n m b off len cap i : Nat) (y x t z y' : Int) (sl : Nat) (v : Value) (W : World) : Prop :=
  match sl with
  | 68 => v = .slice (some ⟨g, 0, none⟩) n n
  | 69 => v = .int .i64 m
  | 70 => v = .slice (some ⟨g, 0, none⟩) n n
  | 71 => v = .int .i64 m
  | 72 => v = .pointer (some ⟨g, m, none⟩)
  | 73 => v = .int .u64 y
  | 74 => v = .int .u64 x
  | 75 => v = .int .u64 t
  | 76 => v = .slice (some ⟨b, off, none⟩) len cap
  | 77 => v = .int .i64 i
  | 78 => v = .pointer (some ⟨b, off + i, none⟩)
  | 79 => v = .int .u64 z
  | 80 => v = .int .u64 y'
  | _ => v = .pointer (some ⟨g, m, none⟩)
theorem BackR.keep {g n m b off len cap i : Nat} {y x t z y' : Int} {sl : Nat} {v : Value} {W W' : World} (h : BackR g n m b off len cap i y x t z y' sl v W) (hb : Below W.heap.size W W') : BackR g n m b off len cap i y x t z y' sl v W' := h
def BackR2 (g n m : Nat) (y n' s' p o : Int) (sl : Nat) (v : Value) (W : World) : Prop :=
  match sl with
  | 82 => v = .slice (some ⟨g, 0, none⟩) n n
  | 83 => v = .int .i64 m
  | 84 => v = .slice (some ⟨g, 0, none⟩) n n
  | 85 => v = .int .i64 m
  | 86 => v = .pointer (some ⟨g, m, none⟩)
  | 87 => v = .int .u64 y
  | 88 => v = .int .u64 n'
  | 89 => v = .int .u64 s'
  | 90 => v = .int .i64 m
  | 91 => v = .int .u64 m
  | 92 => v = .int .u64 p
  | 93 => ∃ q : Nat, v = .slice (some ⟨q, 0, none⟩) 3 3 ∧ W.cell? ⟨q, 0, none⟩ = some (.int .u64 y) ∧ W.cell? ⟨q, 1, none⟩ = some (.int .u64 n') ∧ W.cell? ⟨q, 2, none⟩ = some (.int .u64 p)
  | 94 => v = .int .u64 o
  | _ => v = .pointer (some ⟨g, m, none⟩)
theorem BackR2.keep {g n m : Nat} {y n' s' p o : Int} {sl : Nat} {v : Value} {W W' : World} (h : BackR2 g n m y n' s' p o sl v W) (hb : Below W.heap.size W W') : BackR2 g n m y n' s' p o sl v W' := by
  unfold BackR2 at *
  split at h
  all_goals first | exact h | (obtain ⟨q, e, c0, c1, c2⟩ := h; exact ⟨q, e, bkeep hb c0, bkeep hb c1, bkeep hb c2⟩)

set_option maxRecDepth 100000 in
set_option maxHeartbeats 8000000 in
theorem refback_yes (a : Option Addr) (len cap : Nat) (zs : List Int) (zi : Int) (hz : U zi) (s : F) (hs : toF zi = s) (hs0 : s ≠ 0) (k : Nat) (hk : k ≤ 20) (w : World) (hr : RowA w a len zs) (hu : ∀ n ∈ zs, U n) (hl : len = 2 ^ k) :
    Calls Tryd.prog 71 #[.slice a len cap, .int .u64 zi] w (NewOk w (2 ^ k) (backL zs s k)) := by
  have P2 : 2 ^ k ≤ 2 ^ 20 := Nat.pow_le_pow_right (by decide) hk
  have hmk := fun W => run_make_row' (P := Tryd.prog) 73 29 (.int .u64 0) 8 Tryd.underlying73 info64' rfl .i64 .i64 len (by omega) (by omega) W
  have l1 := reflog_is (len : Int) (k : Int) (by unfold I64; omega) (by rw [hl]; exact lg_pow k)
  have i1 := fun W => ref_below (refinv_yes zi hz (by rw [hs]; exact hs0) W)
  rw [hs, show fpow s 18446744069414584319 = finv s from rfl] at i1
  have i2 := fun W => ref_below (refinv_yes (len : Int) (by unfold U; omega) (by rw [toF_nat, hl]; exact nat_pow_ne k (by omega)) W)
  rw [toF_nat, hl, show fpow (nat (2 ^ k)) 18446744069414584319 = finv (nat (2 ^ k)) from rfl] at i2
  have f1 := fun W => ref_below (refof_is k (enc (rootOf k)) (by rw [ofv_in (by omega) (by omega)]; rfl) W)
  have i3 := fun W => ref_below (refinv_yes (enc (rootOf k)) (enc_U _) (by rw [toF_enc]; exact root_ne k (by omega)) W)
  rw [toF_enc, show fpow (rootOf k) 18446744069414584319 = finv (rootOf k) from rfl] at i3
  have HR := Lib.hid hr
  have HU := Lib.hid (U_getD hu)
  have hzl := hr.1
  have HBK : ∀ m, Hid (enc (ho (2 ^ k) (co zs) (wp k m) 0 * (finv (nat (2 ^ k)) * fpow (finv s) m)) = enc (bk s k (co zs) m)) := fun m => Lib.hid (by rw [ho_zero]; rfl)
  have o1' := fun m W v hr' => ref_below (refprod_tri (enc (ho (2 ^ k) (co zs) (wp k m) 0)) (enc (finv (nat (2 ^ k)))) (enc (fpow (finv s) m)) _ v W (enc_U _) (enc_U _) (enc_U _) hr' (by rw [toF_enc, toF_enc, toF_enc]))
  have p1' := fun (m : Nat) (hm : m < 18446744073709551616) W => ref_below (refpow_any (enc (finv s)) (m : Int) (enc_U _) (by unfold U; omega) W)
  have q1' := fun (m : Nat) (hm : m < 18446744073709551616) W => ref_below (refpow_any (enc (finv (rootOf k))) (m : Int) (enc_U _) (by unfold U; omega) W)
  simp only [toF_enc, Int.toNat_natCast] at p1' q1'
  obtain ⟨n, hn⟩ : ∃ n, 2 ^ k = n := ⟨_, rfl⟩
  have HN := Lib.hid hn
  rw [hn] at P2
  have hl2 : n = len := (hl.trans hn).symm
  obtain ⟨s', hs'⟩ : ∃ v, enc (finv s) = v := ⟨_, rfl⟩
  obtain ⟨n', hn'⟩ : ∃ v, enc (finv (nat (2 ^ k))) = v := ⟨_, rfl⟩
  obtain ⟨v', hv'⟩ : ∃ v, enc (finv (rootOf k)) = v := ⟨_, rfl⟩
  rw [hs'] at i1 p1'
  rw [hn'] at i2 o1'
  rw [hv'] at i3 q1'
  have HO := Lib.hid o1'; have HP1 := Lib.hid p1'; have HQ1 := Lib.hid q1'
  subst hl2
  have hk' : (k : Int) ≤ 20 := by omega
  rw [hn] at i2
  clear hr hu hz hs hs0 hn hl hs' hn' hv' o1' p1' q1'
  go_enter Tryd.func71, Tryd.ntmps71
  go_upto_region 2 with ((go_at_call 32; ((with_reducible refine (l1 _).mono ?_); rintro e W ⟨rfl, rfl⟩)))
  go_upto_region 3 with ((go_at_call 63; ((with_reducible refine (i1 _).mono ?_); rintro e W1 ⟨rfl, hB⟩)))
  go_upto_region 6 with ((go_at_call 63; ((with_reducible refine (i2 _).mono ?_); rintro e W2 ⟨rfl, hb⟩; replace hB := bthen hB hb; clear hb)))
  go_upto_region 7 with (first
    | (go_at_call 63; ((with_reducible refine (i3 _).mono ?_); rintro e w1 ⟨rfl, hb⟩; replace hB := bthen hB hb; clear hb))
    | (go_at_call 69; ((with_reducible refine (f1 _).mono ?_); rintro e W3 ⟨rfl, hb⟩; replace hB := bthen hB hb; clear hb)))
  clear i1 i2 i3 f1 l1
  go_upto_region 9 with fail
  go_loopw [14] (BOuter w1 zs s k w1.heap.size) (fun i _ => n - (intOf i).toNat)
  case atStart => exact ⟨0, Nat.zero_le _, rfl, (Below.refl _ _).alloc (Nat.le_refl _) _, by rw [HN.out]; exact (Arr.new w1 _ _ _).same (fun j hj => by simp [Nat.mod_one])⟩
  case round =>
    obtain ⟨m, hm, rfl, hW, hA⟩ := hrel
    rw [HN.out] at hm hA
    by_cases hlt : m < n
    · have hlt' : (m : Int) < (n : Int) := by omega
      have q1 := HQ1.out m (by omega)
      rw [show fpow (finv (rootOf k)) m = wp k m from rfl] at q1
      go_upto_region 13 with ((go_at_call 68; ((with_reducible refine (q1 _).mono ?_); rintro e W4 ⟨rfl, hb⟩; replace hA := hA.keep hb; replace hW := bthen hW hb; clear hb)))
      clear q1
      go_loopw [16] (BInner w1 zs s k w1.heap.size m) (fun j _ => (intOf j + 1).toNat)
      case atStart => exact ⟨n, by rw [HN.out]; omega, rfl, hW, by rw [HN.out]; exact hA.same (by rw [← HN.out]; exact bin_start zs s k m)⟩
      case round =>
        clear hW hA
        obtain ⟨r, hr, rfl, hW, hA⟩ := hrel
        rw [HN.out] at hr hA
        cases r with
        | zero =>
          rw [show ((0 : Nat) : Int) - 1 = -1 from rfl]
          have f0 := (hA m hlt).2
          have c0 := (hA m hlt).1
          dsimp only at c0
          rw [bin_at] at c0
          have o1 := HO.out m
          have p1 := HP1.out m (by omega)
          have hb1 := HBK m
          obtain ⟨o, hoo⟩ : ∃ v, enc (bk s k (co zs) m) = v := ⟨_, rfl⟩
          rw [show enc (ho (2 ^ k) (co zs) (wp k m) 0 * (finv (nat (2 ^ k)) * fpow (finv s) m)) = o from hb1.out.trans hoo] at o1
          have HS : Hid (∀ j, j < 2 ^ k → (if j = m then Value.int .u64 o else .int .u64 (bin zs s k m 0 j)) = .int .u64 (if j < m + 1 then (backL zs s k).getD j 0 else 0)) := Lib.hid (bin_end hoo)
          have HF := Lib.hid hA
          have HW := Lib.hid hW
          clear hA hW hb1 hoo
          generalize enc (ho (2 ^ k) (co zs) (wp k m) 0) = y at *
          generalize enc (fpow (finv s) m) = p at *
          have hm0 : (0 : Int) ≤ (m : Int) := by omega
          have hm1 : (m : Int) < 18446744073709551616 := by omega
          have wm : IntKind.u64.wrap (m : Int) = (m : Int) := by rw [IntKind.wrap_u64]; omega
          go_upto_region 16 with fail
          refine wp_loose [(82, []), (83, []), (84, []), (85, []), (86, [84, 85]), (87, [86]), (88, []), (89, []), (90, []), (91, [90]), (92, [89, 91]), (93, [87, 88, 92]), (94, [93]), (95, [82, 83])]
            (BackR2 w1.heap.size n m y n' s' p o) (fun d => false) (by kernel_rfl) (by kernel_rfl) (fun _ _ _ _ h hb => h.keep hb) ?_ ?_
          · refine opsrun_cons ?_ (opsrun_cons ?_ (opsrun_cons ?_ (opsrun_cons ?_ (opsrun_cons ?_ (opsrun_cons ?_ (opsrun_cons ?_ (opsrun_cons ?_ (opsrun_cons ?_ (opsrun_cons ?_ (opsrun_cons ?_ (opsrun_cons ?_ (opsrun_cons ?_ (opsrun_cons ?_ opsrun_nil)))))))))))))
            all_goals
              refine OpRuns.any ?_
              intro Q0 σ W' K hb hn hK
              simp only [fill, List.map, Act.put, List.setIfInBounds_toArray, List.set_cons_zero, List.set_cons_succ] at hK ⊢
            · clear hn
              go_simp
              exact hK _ _ rfl (Below.refl _ _) (fun h => absurd h (by decide))
            · clear hn
              go_simp
              exact hK _ _ rfl (Below.refl _ _) (fun h => absurd h (by decide))
            · clear hn
              go_simp
              exact hK _ _ rfl (Below.refl _ _) (fun h => absurd h (by decide))
            · clear hn
              go_simp
              exact hK _ _ rfl (Below.refl _ _) (fun h => absurd h (by decide))
            · have h84 : σ 84 = _ := hn 84 (by decide)
              have h85 : σ 85 = _ := hn 85 (by decide)
              clear hn
              simp only [h84, h85] at hK
              go_simp
              exact hK _ _ rfl (Below.refl _ _) (fun h => absurd h (by decide))
            · have h86 : σ 86 = _ := hn 86 (by decide)
              clear hn
              simp only [h86] at hK
              have c0' := bkeep hb c0
              clear c0
              go_simp
              exact hK _ _ rfl (Below.refl _ _) (fun h => absurd h (by decide))
            · clear hn
              go_simp
              exact hK _ _ rfl (Below.refl _ _) (fun h => absurd h (by decide))
            · clear hn
              go_simp
              exact hK _ _ rfl (Below.refl _ _) (fun h => absurd h (by decide))
            · clear hn
              go_simp
              exact hK _ _ rfl (Below.refl _ _) (fun h => absurd h (by decide))
            · have h90 : σ 90 = _ := hn 90 (by decide)
              clear hn
              simp only [h90] at hK
              go_simp
              exact hK _ _ rfl (Below.refl _ _) (fun h => absurd h (by decide))
            · have h89 : σ 89 = _ := hn 89 (by decide)
              have h91 : σ 91 = _ := hn 91 (by decide)
              clear hn
              simp only [h89, h91] at hK
              go_simp
              go_at_call 68
              refine (p1 _).mono ?_
              rintro e w1 ⟨rfl, hb1⟩
              exact hK _ _ rfl hb1 (fun h => absurd h (by decide))
            · have h87 : σ 87 = _ := hn 87 (by decide)
              have h88 : σ 88 = _ := hn 88 (by decide)
              have h92 : σ 92 = _ := hn 92 (by decide)
              clear hn
              simp only [h87, h88, h92] at hK
              go_simp
              exact hK _ _ ⟨_, rfl, by simp [go_sem], by simp [go_sem], by simp [go_sem]⟩ ((Below.refl _ _).alloc (Nat.le_refl _) _) (fun h => absurd h (by decide))
            · obtain ⟨q, h93, k0, k1, k2⟩ : ∃ q : Nat, σ 93 = .slice (some ⟨q, 0, none⟩) 3 3 ∧ W'.cell? ⟨q, 0, none⟩ = some (.int .u64 y) ∧ W'.cell? ⟨q, 1, none⟩ = some (.int .u64 n') ∧ W'.cell? ⟨q, 2, none⟩ = some (.int .u64 p) := hn 93 (by decide)
              clear hn
              simp only [h93] at hK
              go_simp
              go_at_call 97
              refine (o1 _ _ (row_tri k0 k1 k2)).mono ?_
              rintro e w2 ⟨rfl, hb1⟩
              exact hK _ _ rfl hb1 (fun h => absurd h (by decide))
            · have h82 : σ 82 = _ := hn 82 (by decide)
              have h83 : σ 83 = _ := hn 83 (by decide)
              clear hn
              simp only [h82, h83] at hK
              go_simp
              exact hK _ _ rfl (Below.refl _ _) (fun h => absurd h (by decide))
          · intro σ W' hb hR' hF
            have h94 : σ 94 = _ := hR' 94 (by decide)
            have h95 : σ 95 = _ := hR' 95 (by decide)
            have c0' := bkeep hb c0
            have f0' := bfree hb c0 f0
            have HB2 := Lib.hid (bthen HW.out hb)
            have HA2 := Lib.hid hb
            clear hR' hF c0 f0 o1 p1 hb
            simp only [fill, List.map, Act.put, List.setIfInBounds_toArray, List.set_cons_zero, List.set_cons_succ, List.length_cons, List.length_nil, List.drop_succ_cons, List.drop_zero, Nat.reduceAdd, h94, h95]
            clear h94 h95
            go_wp2
            go_roundw
            case rel => exact ⟨m + 1, by rw [HN.out]; omega, by go_num, HB2.out.setCell (by simp) _, by rw [HN.out]; exact ((HF.out.keep HA2.out).set m _ hlt).same (by rw [← HN.out]; exact HS.out)⟩
            case measure => simp [intOf]; omega
        | succ i =>
          rw [show ((i + 1 : Nat) : Int) - 1 = (i : Int) by omega]
          obtain ⟨b, off, rfl, g00⟩ := (HR.out.keep hB).2.2 i (by omega)
          have g0 := bkeep hW g00
          clear g00
          have gU := HU.out i (by omega)
          have f0 := (hA m hlt).2
          have c0 := (hA m hlt).1
          dsimp only at c0
          rw [bin_at] at c0
          have m1 := fun W => ref_below (refmul_any (enc (ho (2 ^ k) (co zs) (wp k m) (i + 1))) (enc (wp k m)) (enc_U _) (enc_U _) W)
          have a1 := fun W => same_below (refadd_any (enc (ho (2 ^ k) (co zs) (wp k m) (i + 1) * wp k m)) (zs.getD i 0) (enc_U _) gU W)
          simp only [toF_enc] at m1 a1
          rw [show ho (2 ^ k) (co zs) (wp k m) (i + 1) * wp k m + toF (zs.getD i 0) = ho (2 ^ k) (co zs) (wp k m) i from (ho_step _ _ _ i (by rw [HN.out]; omega)).symm] at a1
          obtain ⟨y', hy⟩ : ∃ v, enc (ho (2 ^ k) (co zs) (wp k m) i) = v := ⟨_, rfl⟩
          rw [hy] at a1
          have HF := Lib.hid hA
          have HS : Hid (∀ j, j < 2 ^ k → (if j = m then Value.int .u64 y' else .int .u64 (bin zs s k m (i + 1) j)) = .int .u64 (bin zs s k m i j)) := Lib.hid (bin_step hy)
          have HW := Lib.hid hW
          clear hA hW gU hy
          generalize enc (ho (2 ^ k) (co zs) (wp k m) (i + 1) * wp k m) = t at *
          generalize enc (ho (2 ^ k) (co zs) (wp k m) (i + 1)) = y at *
          generalize enc (wp k m) = x at *
          generalize zs.getD i 0 = z at *
          have hj1 : (i : Int) < (n : Int) := by omega
          have hj0 : (0 : Int) ≤ (i : Int) := by omega
          have hi0 : (0 : Int) ≤ (m : Int) := by omega
          go_upto_region 15 with fail
          refine wp_loose [(68, []), (69, []), (70, []), (71, []), (72, [70, 71]), (73, [72]), (74, []), (75, [73, 74]), (76, []), (77, []), (78, [76, 77]), (79, [78]), (80, [75, 79]), (81, [68, 69])]
            (BackR w1.heap.size n m b off n cap i y x t z y') (fun d => false) (by kernel_rfl) (by kernel_rfl) (fun _ _ _ _ h hb => h.keep hb) ?_ ?_
          · refine opsrun_cons ?_ (opsrun_cons ?_ (opsrun_cons ?_ (opsrun_cons ?_ (opsrun_cons ?_ (opsrun_cons ?_ (opsrun_cons ?_ (opsrun_cons ?_ (opsrun_cons ?_ (opsrun_cons ?_ (opsrun_cons ?_ (opsrun_cons ?_ (opsrun_cons ?_ (opsrun_cons ?_ opsrun_nil)))))))))))))
            all_goals
              refine OpRuns.any ?_
              intro Q0 σ W' K hb hn hK
              simp only [fill, List.map, Act.put, List.setIfInBounds_toArray, List.set_cons_zero, List.set_cons_succ] at hK ⊢
            · clear hn
              go_simp
              exact hK _ _ rfl (Below.refl _ _) (fun h => absurd h (by decide))
            · clear hn
              go_simp
              exact hK _ _ rfl (Below.refl _ _) (fun h => absurd h (by decide))
            · clear hn
              go_simp
              exact hK _ _ rfl (Below.refl _ _) (fun h => absurd h (by decide))
            · clear hn
              go_simp
              exact hK _ _ rfl (Below.refl _ _) (fun h => absurd h (by decide))
            · have h70 : σ 70 = _ := hn 70 (by decide)
              have h71 : σ 71 = _ := hn 71 (by decide)
              clear hn
              simp only [h70, h71] at hK
              go_simp
              exact hK _ _ rfl (Below.refl _ _) (fun h => absurd h (by decide))
            · have h72 : σ 72 = _ := hn 72 (by decide)
              clear hn
              simp only [h72] at hK
              have c0' := bkeep hb c0
              clear c0
              go_simp
              exact hK _ _ rfl (Below.refl _ _) (fun h => absurd h (by decide))
            · clear hn
              go_simp
              exact hK _ _ rfl (Below.refl _ _) (fun h => absurd h (by decide))
            · have h73 : σ 73 = _ := hn 73 (by decide)
              have h74 : σ 74 = _ := hn 74 (by decide)
              clear hn
              simp only [h73, h74] at hK
              go_simp
              go_at_call 66
              refine (m1 _).mono ?_
              rintro e w1 ⟨rfl, hb1⟩
              exact hK _ _ rfl hb1 (fun h => absurd h (by decide))
            · clear hn
              go_simp
              exact hK _ _ rfl (Below.refl _ _) (fun h => absurd h (by decide))
            · clear hn
              go_simp
              exact hK _ _ rfl (Below.refl _ _) (fun h => absurd h (by decide))
            · have h76 : σ 76 = _ := hn 76 (by decide)
              have h77 : σ 77 = _ := hn 77 (by decide)
              clear hn
              simp only [h76, h77] at hK
              go_simp
              exact hK _ _ rfl (Below.refl _ _) (fun h => absurd h (by decide))
            · have h78 : σ 78 = _ := hn 78 (by decide)
              clear hn
              simp only [h78] at hK
              have g0' := bkeep hb g0
              clear g0
              go_simp
              exact hK _ _ rfl (Below.refl _ _) (fun h => absurd h (by decide))
            · have h75 : σ 75 = _ := hn 75 (by decide)
              have h79 : σ 79 = _ := hn 79 (by decide)
              clear hn
              simp only [h75, h79] at hK
              go_simp
              go_at_call 29
              refine (a1 _).mono ?_
              rintro e w1 ⟨rfl, hb1⟩
              exact hK _ _ rfl hb1 (fun h => absurd h (by decide))
            · have h68 : σ 68 = _ := hn 68 (by decide)
              have h69 : σ 69 = _ := hn 69 (by decide)
              clear hn
              simp only [h68, h69] at hK
              go_simp
              exact hK _ _ rfl (Below.refl _ _) (fun h => absurd h (by decide))
          · intro σ W' hb hR' hF
            have h80 : σ 80 = _ := hR' 80 (by decide)
            have h81 : σ 81 = _ := hR' 81 (by decide)
            have c0' := bkeep hb c0
            have f0' := bfree hb c0 f0
            have HB2 := Lib.hid (bthen HW.out hb)
            have HA2 := Lib.hid hb
            clear hR' hF c0 f0 g0 m1 a1 hb
            simp only [fill, List.map, Act.put, List.setIfInBounds_toArray, List.set_cons_zero, List.set_cons_succ, List.length_cons, List.length_nil, List.drop_succ_cons, List.drop_zero, Nat.reduceAdd, h80, h81]
            clear h80 h81
            go_wp2
            go_roundw
            case rel => exact ⟨i, by rw [HN.out]; omega, rfl, HB2.out.setCell (by simp) _, by rw [HN.out]; exact ((HF.out.keep HA2.out).set m _ hlt).same (by rw [← HN.out]; exact HS.out)⟩
            case measure => simp [intOf]
    · obtain rfl : m = n := by omega
      have hrow := Arr.row (hA.same (fun j hj => by rw [if_pos hj])) (by rw [backL_len]; exact HN.out) (by unfold maxLen; omega)
      replace hB := bthen hB hW
      clear hA hW hlt
      go_wp2
      exact bodyPost_ret (v := .tuple #[.slice (some ⟨w1.heap.size, 0, none⟩) m m, .int .i64 0]) (by simp [results, Tryd.results71, go_sem]) rfl ⟨_, _, by rw [HN.out], hB, by rw [HN.out]; exact hrow⟩

theorem refback_no (a : Option Addr) (len cap : Nat) (zi : Int) (hz : U zi) (s : F) (hs : toF zi = s) (hlm : len ≤ maxLen) (w : World) (h : ¬ (0 ≤ lg len ∧ lg len ≤ 20 ∧ s ≠ 0)) :
    Calls Tryd.prog 71 #[.slice a len cap, .int .u64 zi] w (ErrArg w) := by
  unfold maxLen at hlm
  obtain ⟨K, hK⟩ : ∃ K, lg len = K := ⟨_, rfl⟩
  have l1 := reflog_is (len : Int) K (by unfold I64; omega) hK
  rw [hK] at h
  have hB := Below.refl w.heap.size w
  by_cases h0 : s = 0
  · have i1 := fun W => ref_below (refinv_no zi hz (by rw [hs]; exact h0) W)
    clear h hK hs h0 hz
    by_cases h1 : K < 0
    · go_enter Tryd.func71, Tryd.ntmps71
      go_wp2_with (first
        | (go_at_call 32; ((with_reducible refine (l1 _).mono ?_); rintro e W ⟨rfl, rfl⟩))
        | (go_at_call 63; ((with_reducible refine (i1 _).mono ?_); rintro e W1 ⟨rfl, hb⟩)))
      exact bodyPost_ret (v := .tuple #[.slice none 0 0, .int .i64 1]) (by simp [results, Tryd.results71, go_sem]) rfl ⟨rfl, hb⟩
    · by_cases h2 : 20 < K
      · go_enter Tryd.func71, Tryd.ntmps71
        go_wp2_with (first
          | (go_at_call 32; ((with_reducible refine (l1 _).mono ?_); rintro e W ⟨rfl, rfl⟩))
          | (go_at_call 63; ((with_reducible refine (i1 _).mono ?_); rintro e W1 ⟨rfl, hb⟩)))
        exact bodyPost_ret (v := .tuple #[.slice none 0 0, .int .i64 1]) (by simp [results, Tryd.results71, go_sem]) rfl ⟨rfl, hb⟩
      · go_enter Tryd.func71, Tryd.ntmps71
        go_wp2_with (first
          | (go_at_call 32; ((with_reducible refine (l1 _).mono ?_); rintro e W ⟨rfl, rfl⟩))
          | (go_at_call 63; ((with_reducible refine (i1 _).mono ?_); rintro e W1 ⟨rfl, hb⟩)))
        exact bodyPost_ret (v := .tuple #[.slice none 0 0, .int .i64 1]) (by simp [results, Tryd.results71, go_sem]) rfl ⟨rfl, hb⟩
  · have i1 := fun W => ref_below (refinv_yes zi hz (by rw [hs]; exact h0) W)
    generalize enc (fpow (toF zi) 18446744069414584319) = s' at *
    by_cases h1 : K < 0
    · clear h hK hs h0 hz
      go_enter Tryd.func71, Tryd.ntmps71
      go_wp2_with (first
        | (go_at_call 32; ((with_reducible refine (l1 _).mono ?_); rintro e W ⟨rfl, rfl⟩))
        | (go_at_call 63; ((with_reducible refine (i1 _).mono ?_); rintro e W1 ⟨rfl, hb⟩)))
      exact bodyPost_ret (v := .tuple #[.slice none 0 0, .int .i64 1]) (by simp [results, Tryd.results71, go_sem]) rfl ⟨rfl, hb⟩
    · have h2 : 20 < K := by
        refine Int.not_le.mp fun hh => h ⟨by omega, hh, h0⟩
      clear h hK hs h0 hz
      go_enter Tryd.func71, Tryd.ntmps71
      go_wp2_with (first
        | (go_at_call 32; ((with_reducible refine (l1 _).mono ?_); rintro e W ⟨rfl, rfl⟩))
        | (go_at_call 63; ((with_reducible refine (i1 _).mono ?_); rintro e W1 ⟨rfl, hb⟩)))
      exact bodyPost_ret (v := .tuple #[.slice none 0 0, .int .i64 1]) (by simp [results, Tryd.results71, go_sem]) rfl ⟨rfl, hb⟩
/-- A number of values is a power of two, or it isn't. -/
theorem lg_cases (n : Nat) (hn : n ≤ 9223372036854775807) (h0 : 0 ≤ lg n) (h1 : lg n ≤ 20) : ∃ k : Nat, k ≤ 20 ∧ n = 2 ^ k ∧ lg n = k := by
  unfold lg at *
  split at h0
  · rename_i hh
    rw [if_pos hh] at h1 ⊢
    rw [Int.toNat_natCast] at *
    exact ⟨n.log2, by omega, and_pred (by omega) hh.2, rfl⟩
  · omega
end Go.Proofs.YthfkfgjhgicfeaaDoor
namespace Go.Proofs.YthfkfgjhgicfeaaDoor
open Go.RowKit Go.Sort Go.BigFrame
set_option linter.unusedVariables false

/-- The parts of pairs. -/
def fsts (zs : List (Int × Int)) : List Int := zs.map (·.1)
def snds (zs : List (Int × Int)) : List Int := zs.map (·.2)
theorem fsts_len (zs : List (Int × Int)) : (fsts zs).length = zs.length := by simp [fsts]
theorem snds_len (zs : List (Int × Int)) : (snds zs).length = zs.length := by simp [snds]
theorem fsts_at (zs : List (Int × Int)) (k : Nat) (h : k < zs.length) : (fsts zs).getD k 0 = (zs.getD k (0, 0)).1 := by simp [fsts, List.getD, h]
theorem snds_at (zs : List (Int × Int)) (k : Nat) (h : k < zs.length) : (snds zs).getD k 0 = (zs.getD k (0, 0)).2 := by simp [snds, List.getD, h]
theorem fsts_U {zs : List (Int × Int)} (h : ∀ n ∈ zs, U n.1 ∧ U n.2) : ∀ n ∈ fsts zs, U n := by
  intro n hn
  simp only [fsts, List.mem_map] at hn
  obtain ⟨z, hz, rfl⟩ := hn
  exact (h z hz).1
theorem snds_U {zs : List (Int × Int)} (h : ∀ n ∈ zs, U n.1 ∧ U n.2) : ∀ n ∈ snds zs, U n := by
  intro n hn
  simp only [snds, List.mem_map] at hn
  obtain ⟨z, hz, rfl⟩ := hn
  exact (h z hz).2
/-- Two slices of numbers that the call itself made. -/
def NewTwo (w : World) (n : Nat) (xs ys : List Int) (e : Ending) (w' : World) : Prop :=
  ∃ a c b d, e = .returned (.tuple #[.slice a n c, .slice b n d]) ∧ Below w.heap.size w w' ∧ Row w' (.slice a n c) xs ∧ Row w' (.slice b n d) ys
def upto (xs : List Int) (k j : Nat) : Value := .int .u64 (if j < k then xs.getD j 0 else 0)
theorem upto_step (xs : List Int) (k : Nat) (n : Nat) {x : Int} (hx : xs.getD k 0 = x) : ∀ j, j < n → (if j = k then Value.int .u64 x else upto xs k j) = upto xs (k + 1) j := by
  intro j hj
  unfold upto
  by_cases e : j = k
  · subst e; rw [if_pos rfl, if_pos (by omega), hx]
  · rw [if_neg e]
    by_cases h : j < k
    · rw [if_pos h, if_pos (by omega)]
    · rw [if_neg h, if_neg (by omega)]
theorem upto_all (xs : List Int) (n : Nat) (h : xs.length = n) : ∀ j, j < n → upto xs n j = .int .u64 (xs.getD j 0) := by
  intro j hj; unfold upto; rw [if_pos hj]
def PartsHead (w : World) (zs : List (Int × Int)) (g1 g2 : Nat) (i : Value) (W : World) : Prop :=
  ∃ k : Nat, k ≤ zs.length ∧ i = .int .i64 k ∧ Below w.heap.size w W ∧ Arr W g1 zs.length (upto (fsts zs) k) ∧ Arr W g2 zs.length (upto (snds zs) k)
theorem parts_start (w : World) (zs : List (Int × Int)) (t : TypeId) : Below w.heap.size w ((w.alloc (.cells (madeCells #[.int .u64 0] zs.length) t)).alloc (.cells (madeCells #[.int .u64 0] zs.length) t)).drew ∧
    (∀ xs, Arr ((w.alloc (.cells (madeCells #[.int .u64 0] zs.length) t)).alloc (.cells (madeCells #[.int .u64 0] zs.length) t)).drew w.heap.size zs.length (upto xs 0)) ∧
    (∀ xs, Arr ((w.alloc (.cells (madeCells #[.int .u64 0] zs.length) t)).alloc (.cells (madeCells #[.int .u64 0] zs.length) t)).drew (w.heap.size + 1) zs.length (upto xs 0)) := by
  have h1 := (Arr.new w #[.int .u64 0] zs.length t).alloc (.cells (madeCells #[.int .u64 0] zs.length) t)
  have h2 := Arr.new (w.alloc (.cells (madeCells #[.int .u64 0] zs.length) t)) #[.int .u64 0] zs.length t
  rw [show (w.alloc (.cells (madeCells #[.int .u64 0] zs.length) t)).heap.size = w.heap.size + 1 by simp] at h2
  exact ⟨(((Below.refl _ _).alloc (Nat.le_refl _) _).alloc (by simp) _).drew, fun xs => h1.same (fun j hj => by simp [upto, Nat.mod_one]), fun xs => h2.same (fun j hj => by simp [upto, Nat.mod_one])⟩

set_option maxHeartbeats 4000000 in
theorem refparts_any (a : Option Addr) (len cap : Nat) (zs : List (Int × Int)) (w : World) (hr : QRowA w a len zs) (hl : len ≤ 4294967296) :
    Calls Tryd.prog 35 #[.slice a len cap] w (NewTwo w len (fsts zs) (snds zs)) := by
  have hmk := fun W => run_make_row' (P := Tryd.prog) 73 29 (.int .u64 0) 8 Tryd.underlying73 info64' rfl .i64 .i64 len (by omega) (by omega) W
  obtain ⟨rfl, hlm, hcell⟩ := hr
  have HC := Lib.hid hcell; have HM := Lib.hid hlm
  have HF := Lib.hid (fsts_at zs); have HS := Lib.hid (snds_at zs)
  clear hcell hlm
  go_enter Tryd.func35, Tryd.ntmps35
  go_upto_region 1 with fail
  go_region
  all_goals
    go_upto_region 3 with fail
    first
      | (go_loopw [6] (PartsHead w zs w.heap.size (w.heap.size + 1)) (fun i _ => zs.length - (intOf i).toNat)
         case atStart => exact ⟨0, Nat.zero_le _, rfl, (parts_start w zs _).1, (parts_start w zs _).2.1 _, (parts_start w zs _).2.2 _⟩
         case round =>
           obtain ⟨k, hk, rfl, hB, hA1, hA2⟩ := hrel
           by_cases hlt : k < zs.length
           · obtain ⟨b, off, rfl, c0, c1⟩ := HC.out k hlt
             replace c0 := bkeep hB c0
             replace c1 := bkeep hB c1
             obtain ⟨p0, q0⟩ := hA1 k hlt
             obtain ⟨p1, q1⟩ := hA2 k hlt
             have S1 := Lib.hid (upto_step (fsts zs) k zs.length (HF.out k hlt))
             have S2 := Lib.hid (upto_step (snds zs) k zs.length (HS.out k hlt))
             have H1 := Lib.hid hA1; have H2 := Lib.hid hA2; have HB := Lib.hid hB
             clear hA1 hA2 hB
             generalize (zs.getD k (0, 0)).1 = z at *
             generalize (zs.getD k (0, 0)).2 = z' at *
             have hlt' : (k : Int) < (zs.length : Int) := by omega
             go_upto_region 5 with fail
             go_region
             all_goals
               go_wp2
               go_roundw
               case rel =>
                 refine ⟨k + 1, by omega, by go_num, ?_, ?_, ?_⟩
                 · first | exact ((HB.out.setCell (show w.heap.size ≤ w.heap.size by omega) _).setCell (show w.heap.size ≤ (w.heap.size + 1) by omega) _).drew | exact ((HB.out.setCell (show w.heap.size ≤ (w.heap.size + 1) by omega) _).setCell (show w.heap.size ≤ w.heap.size by omega) _).drew
                 · first | exact ((H1.out.set k (.int .u64 z) hlt).far (show (w.heap.size + 1) ≠ w.heap.size by omega) k (.int .u64 z')).same S1.out | exact ((H1.out.far (show (w.heap.size + 1) ≠ w.heap.size by omega) k (.int .u64 z')).set k (.int .u64 z) hlt).same S1.out
                 · first | exact ((H2.out.set k (.int .u64 z') hlt).far (show w.heap.size ≠ (w.heap.size + 1) by omega) k (.int .u64 z)).same S2.out | exact ((H2.out.far (show w.heap.size ≠ (w.heap.size + 1) by omega) k (.int .u64 z)).set k (.int .u64 z') hlt).same S2.out
               case measure => simp [intOf]; omega
           · obtain rfl : k = zs.length := by omega
             have R1 := Lib.hid (Arr.row (hA1.same (upto_all (fsts zs) _ (fsts_len zs))) (fsts_len zs) HM.out)
             have R2 := Lib.hid (Arr.row (hA2.same (upto_all (snds zs) _ (snds_len zs))) (snds_len zs) HM.out)
             clear hA1 hA2 hlt
             go_wp2
             exact bodyPost_ret (v := .tuple #[.slice (some ⟨w.heap.size, 0, none⟩) zs.length zs.length, .slice (some ⟨(w.heap.size + 1), 0, none⟩) zs.length zs.length]) (by simp [results, Tryd.results35, go_sem]) rfl ⟨_, _, _, _, rfl, hB, R1.out, R2.out⟩)
      | (go_loopw [6] (PartsHead w zs (w.heap.size + 1) w.heap.size) (fun i _ => zs.length - (intOf i).toNat)
         case atStart => exact ⟨0, Nat.zero_le _, rfl, (parts_start w zs _).1, (parts_start w zs _).2.2 _, (parts_start w zs _).2.1 _⟩
         case round =>
           obtain ⟨k, hk, rfl, hB, hA1, hA2⟩ := hrel
           by_cases hlt : k < zs.length
           · obtain ⟨b, off, rfl, c0, c1⟩ := HC.out k hlt
             replace c0 := bkeep hB c0
             replace c1 := bkeep hB c1
             obtain ⟨p0, q0⟩ := hA1 k hlt
             obtain ⟨p1, q1⟩ := hA2 k hlt
             have S1 := Lib.hid (upto_step (fsts zs) k zs.length (HF.out k hlt))
             have S2 := Lib.hid (upto_step (snds zs) k zs.length (HS.out k hlt))
             have H1 := Lib.hid hA1; have H2 := Lib.hid hA2; have HB := Lib.hid hB
             clear hA1 hA2 hB
             generalize (zs.getD k (0, 0)).1 = z at *
             generalize (zs.getD k (0, 0)).2 = z' at *
             have hlt' : (k : Int) < (zs.length : Int) := by omega
             go_upto_region 5 with fail
             go_region
             all_goals
               go_wp2
               go_roundw
               case rel =>
                 refine ⟨k + 1, by omega, by go_num, ?_, ?_, ?_⟩
                 · first | exact ((HB.out.setCell (show w.heap.size ≤ (w.heap.size + 1) by omega) _).setCell (show w.heap.size ≤ w.heap.size by omega) _).drew | exact ((HB.out.setCell (show w.heap.size ≤ w.heap.size by omega) _).setCell (show w.heap.size ≤ (w.heap.size + 1) by omega) _).drew
                 · first | exact ((H1.out.set k (.int .u64 z) hlt).far (show w.heap.size ≠ (w.heap.size + 1) by omega) k (.int .u64 z')).same S1.out | exact ((H1.out.far (show w.heap.size ≠ (w.heap.size + 1) by omega) k (.int .u64 z')).set k (.int .u64 z) hlt).same S1.out
                 · first | exact ((H2.out.set k (.int .u64 z') hlt).far (show (w.heap.size + 1) ≠ w.heap.size by omega) k (.int .u64 z)).same S2.out | exact ((H2.out.far (show (w.heap.size + 1) ≠ w.heap.size by omega) k (.int .u64 z)).set k (.int .u64 z') hlt).same S2.out
               case measure => simp [intOf]; omega
           · obtain rfl : k = zs.length := by omega
             have R1 := Lib.hid (Arr.row (hA1.same (upto_all (fsts zs) _ (fsts_len zs))) (fsts_len zs) HM.out)
             have R2 := Lib.hid (Arr.row (hA2.same (upto_all (snds zs) _ (snds_len zs))) (snds_len zs) HM.out)
             clear hA1 hA2 hlt
             go_wp2
             exact bodyPost_ret (v := .tuple #[.slice (some ⟨(w.heap.size + 1), 0, none⟩) zs.length zs.length, .slice (some ⟨w.heap.size, 0, none⟩) zs.length zs.length]) (by simp [results, Tryd.results35, go_sem]) rfl ⟨_, _, _, _, rfl, hB, R1.out, R2.out⟩)

/-- Two rows of numbers as one of pairs. -/
def joinL (xs ys : List Int) : List (Int × Int) := (List.range xs.length).map fun i => encP (toQ (xs.getD i 0, ys.getD i 0))
theorem joinL_len (xs ys : List Int) : (joinL xs ys).length = xs.length := by simp [joinL]
theorem joinL_at (xs ys : List Int) (k : Nat) (h : k < xs.length) : (joinL xs ys).getD k (0, 0) = encP (toQ (xs.getD k 0, ys.getD k 0)) := by simp [joinL, List.getD, h]
theorem joinL_U (xs ys : List Int) : ∀ n ∈ joinL xs ys, U n.1 ∧ U n.2 := by
  intro n hn
  simp only [joinL, List.mem_map] at hn
  obtain ⟨z, _, rfl⟩ := hn
  exact ⟨enc_U _, enc_U _⟩
theorem infoQ' : (Tryd.prog.info? 31).map (fun i => (i.zero, i.size, i.bytes)) = some (some (.agg #[.int .u64 0, .int .u64 0]), 2, 16) := by kernel_rfl
def uptoq (zs : List (Int × Int)) (k i : Nat) : Int × Int := if i < k then zs.getD i (0, 0) else (0, 0)
theorem uptoq_step (zs : List (Int × Int)) (k : Nat) {p q : Int} (h : zs.getD k (0, 0) = (p, q)) : ∀ i : Nat, (if i = k then (p, q) else uptoq zs k i) = uptoq zs (k + 1) i := by
  intro i
  unfold uptoq
  by_cases e : i = k
  · subst e; rw [if_pos rfl, if_pos (by omega), h]
  · rw [if_neg e]
    by_cases h2 : i < k
    · rw [if_pos h2, if_pos (by omega)]
    · rw [if_neg h2, if_neg (by omega)]
theorem uptoq_all (zs : List (Int × Int)) (n : Nat) : ∀ i, i < n → uptoq zs n i = zs.getD i (0, 0) := by
  intro i hi; unfold uptoq; rw [if_pos hi]
def JoinHead (w : World) (n g : Nat) (zs : List (Int × Int)) (i : Value) (W : World) : Prop :=
  ∃ k : Nat, k ≤ n ∧ i = .int .i64 k ∧ Below w.heap.size w W ∧ Arr W g (n * 2) (pc (uptoq zs k))
/-- A slice of pairs that the call itself made. -/
def NewRowQ (w : World) (n : Nat) (zs : List (Int × Int)) (e : Ending) (w' : World) : Prop := ∃ a c, e = .returned (.slice a n c) ∧ Below w.heap.size w w' ∧ QRow w' (.slice a n c) zs
def JoinR (g n k b1 o1 c1 b2 o2 c2 : Nat) (x y p q : Int) (sl : Nat) (v : Value) (W : World) : Prop :=
  match sl with
  | 16 => v = .slice (some ⟨g, 0, none⟩) n n
  | 17 => v = .int .i64 k
  | 18 => v = .slice (some ⟨b1, o1, none⟩) n c1
  | 19 => v = .int .i64 k
  | 20 => v = .pointer (some ⟨b1, o1 + k, none⟩)
  | 21 => v = .int .u64 x
  | 22 => v = .slice (some ⟨b2, o2, none⟩) n c2
  | 23 => v = .int .i64 k
  | 24 => v = .pointer (some ⟨b2, o2 + k, none⟩)
  | 25 => v = .int .u64 y
  | 26 => v = .agg #[.int .u64 x, .int .u64 y]
  | 27 => v = .agg #[.int .u64 0, .int .u64 0]
  | 28 => v = .agg #[.int .u64 p, .int .u64 q]
  | _ => v = .pointer (some ⟨g, k * 2, none⟩)
theorem JoinR.keep {g n k b1 o1 c1 b2 o2 c2 : Nat} {x y p q : Int} {sl : Nat} {v : Value} {W W' : World} (h : JoinR g n k b1 o1 c1 b2 o2 c2 x y p q sl v W) (hb : Below W.heap.size W W') : JoinR g n k b1 o1 c1 b2 o2 c2 x y p q sl v W' := h

set_option maxHeartbeats 4000000 in
theorem refjoin_any (a b : Option Addr) (len ca cb : Nat) (xs ys : List Int) (w : World) (hx : RowA w a len xs) (hy : RowA w b len ys) (ux : ∀ n ∈ xs, U n) (uy : ∀ n ∈ ys, U n) (hl : len ≤ 4294967296) :
    Calls Tryd.prog 37 #[.slice a len ca, .slice b len cb] w (NewRowQ w len (joinL xs ys)) := by
  have hmk := fun W => run_make_pairs (P := Tryd.prog) 22 31 (.agg #[.int .u64 0, .int .u64 0]) Tryd.underlying22 infoQ' rfl len hl W
  obtain ⟨rfl, hlm, hcx⟩ := hx
  obtain ⟨hly, _, hcy⟩ := hy
  have HX := Lib.hid hcx; have HY := Lib.hid hcy; have HM := Lib.hid hlm; have HLY := Lib.hid hly
  have UX := Lib.hid (U_getD ux); have UY := Lib.hid (U_getD uy)
  have HJ := Lib.hid (joinL_at xs ys)
  unfold maxLen at hlm
  clear hcx hcy ux uy hly
  go_enter Tryd.func37, Tryd.ntmps37
  go_upto_region 3 with fail
  go_loopw [6] (JoinHead w xs.length w.heap.size (joinL xs ys)) (fun i _ => xs.length - (intOf i).toNat)
  case atStart => exact ⟨0, Nat.zero_le _, rfl, (Below.refl _ _).alloc (Nat.le_refl _) _, (Arr.newq w _ _).same (pc_same (fun i hi => by unfold uptoq; rw [if_neg (by omega)]))⟩
  case round =>
    obtain ⟨k, hk, rfl, hW, hA⟩ := hrel
    by_cases hlt : k < xs.length
    · obtain ⟨b1, o1, rfl, g0⟩ := HX.out k hlt
      obtain ⟨b2, o2, rfl, g1⟩ := HY.out k hlt
      replace g0 := bkeep hW g0
      replace g1 := bkeep hW g1
      have gx := UX.out k hlt
      have gy := UY.out k (by rw [HLY.out]; exact hlt)
      have m1 := radd_q (xs.getD k 0) (ys.getD k 0) 0 0 (toQ (xs.getD k 0, ys.getD k 0)) 0 (toQ (xs.getD k 0, ys.getD k 0)) (rep_raw gx gy) rep_zero (F2.add_zero _)
      obtain ⟨p, hp⟩ : ∃ v, enc (toQ (xs.getD k 0, ys.getD k 0)).a = v := ⟨_, rfl⟩
      obtain ⟨q, hq⟩ : ∃ v, enc (toQ (xs.getD k 0, ys.getD k 0)).b = v := ⟨_, rfl⟩
      have HU := Lib.hid (uptoq_step (joinL xs ys) k (p := p) (q := q) (by rw [HJ.out k hlt, ← hp, ← hq]; rfl))
      rw [hp, hq] at m1
      obtain ⟨c0, c1, f0, f1⟩ := hA.cells k hlt
      have HA := Lib.hid hA; have HW := Lib.hid hW
      clear hA hW gx gy hp hq
      generalize xs.getD k 0 = x at *
      generalize ys.getD k 0 = y at *
      have hlt' : (k : Int) < (xs.length : Int) := by omega
      have hk0 : (0 : Int) ≤ (k : Int) := by omega
      go_upto_region 5 with fail
      refine wp_loose [(16, []), (17, []), (18, []), (19, []), (20, [18, 19]), (21, [20]), (22, []), (23, []), (24, [22, 23]), (25, [24]), (26, [21, 25]), (27, []), (28, [26, 27]), (29, [16, 17])]
        (JoinR w.heap.size xs.length k b1 o1 ca b2 o2 cb x y p q) (fun d => false) (by kernel_rfl) (by kernel_rfl) (fun _ _ _ _ h hb => h.keep hb) ?_ ?_
      · refine opsrun_cons ?_ (opsrun_cons ?_ (opsrun_cons ?_ (opsrun_cons ?_ (opsrun_cons ?_ (opsrun_cons ?_ (opsrun_cons ?_ (opsrun_cons ?_ (opsrun_cons ?_ (opsrun_cons ?_ (opsrun_cons ?_ (opsrun_cons ?_ (opsrun_cons ?_ (opsrun_cons ?_ opsrun_nil)))))))))))))
        all_goals
          refine OpRuns.any ?_
          intro Q0 σ W' K hb hn hK
          simp only [fill, List.map, Act.put, List.setIfInBounds_toArray, List.set_cons_zero, List.set_cons_succ] at hK ⊢
        · clear hn
          go_simp
          exact hK _ _ rfl (Below.refl _ _) (fun h => absurd h (by decide))
        · clear hn
          go_simp
          exact hK _ _ rfl (Below.refl _ _) (fun h => absurd h (by decide))
        · clear hn
          go_simp
          exact hK _ _ rfl (Below.refl _ _) (fun h => absurd h (by decide))
        · clear hn
          go_simp
          exact hK _ _ rfl (Below.refl _ _) (fun h => absurd h (by decide))
        · have h18 : σ 18 = _ := hn 18 (by decide)
          have h19 : σ 19 = _ := hn 19 (by decide)
          clear hn
          simp only [h18, h19] at hK
          go_simp
          exact hK _ _ rfl (Below.refl _ _) (fun h => absurd h (by decide))
        · have h20 : σ 20 = _ := hn 20 (by decide)
          clear hn
          simp only [h20] at hK
          have g0' := bkeep hb g0
          clear g0
          go_simp
          exact hK _ _ rfl (Below.refl _ _) (fun h => absurd h (by decide))
        · clear hn
          go_simp
          exact hK _ _ rfl (Below.refl _ _) (fun h => absurd h (by decide))
        · clear hn
          go_simp
          exact hK _ _ rfl (Below.refl _ _) (fun h => absurd h (by decide))
        · have h22 : σ 22 = _ := hn 22 (by decide)
          have h23 : σ 23 = _ := hn 23 (by decide)
          clear hn
          simp only [h22, h23] at hK
          go_simp
          exact hK _ _ rfl (Below.refl _ _) (fun h => absurd h (by decide))
        · have h24 : σ 24 = _ := hn 24 (by decide)
          clear hn
          simp only [h24] at hK
          have g1' := bkeep hb g1
          clear g1
          go_simp
          exact hK _ _ rfl (Below.refl _ _) (fun h => absurd h (by decide))
        · have h21 : σ 21 = _ := hn 21 (by decide)
          have h25 : σ 25 = _ := hn 25 (by decide)
          clear hn
          simp only [h21, h25] at hK
          go_simp
          exact hK _ _ rfl (Below.refl _ _) (fun h => absurd h (by decide))
        · clear hn
          go_simp
          exact hK _ _ rfl (Below.refl _ _) (fun h => absurd h (by decide))
        · have h26 : σ 26 = _ := hn 26 (by decide)
          have h27 : σ 27 = _ := hn 27 (by decide)
          clear hn
          simp only [h26, h27] at hK
          go_simp
          go_at_call 11
          refine (m1 _).mono ?_
          rintro e w1 ⟨rfl, hb1⟩
          exact hK _ _ rfl hb1 (fun h => absurd h (by decide))
        · have h16 : σ 16 = _ := hn 16 (by decide)
          have h17 : σ 17 = _ := hn 17 (by decide)
          clear hn
          simp only [h16, h17] at hK
          go_simp
          exact hK _ _ rfl (Below.refl _ _) (fun h => absurd h (by decide))
      · intro σ W' hb hR' hF
        have h28 : σ 28 = _ := hR' 28 (by decide)
        have h29 : σ 29 = _ := hR' 29 (by decide)
        have c0' := bkeep hb c0
        have c1' := bkeep hb c1
        have f0' := bfree hb c0 f0
        have f1' := bfree hb c1 f1
        have HB2 := Lib.hid (bthen HW.out hb)
        have HA2 := Lib.hid hb
        clear hR' hF c0 c1 f0 f1 g0 g1 m1 hb
        simp only [fill, List.map, Act.put, List.setIfInBounds_toArray, List.set_cons_zero, List.set_cons_succ, List.length_cons, List.length_nil, List.drop_succ_cons, List.drop_zero, Nat.reduceAdd, h28, h29]
        clear h28 h29
        go_wp2
        go_roundw
        case rel => exact ⟨k + 1, by omega, by go_num, (HB2.out.setCell (by simp) _).setCell (by simp) _, ((HA.out.keep HA2.out).setq k p q hlt).same (pc_same (fun i _ => HU.out i))⟩
        case measure => simp [intOf]; omega
    · obtain rfl : k = xs.length := by omega
      have R1 := Lib.hid (Arr.qrow (hA.same (pc_same (y := fun i => (joinL xs ys).getD i (0, 0)) (uptoq_all (joinL xs ys) xs.length))) (joinL_len xs ys) HM.out)
      clear hA hlt
      go_wp2
      go_ret
      exact ⟨_, _, rfl, hW, R1.out⟩

/-- What pairs come to at the points, and back. -/
def forthQ (zs : List (Int × Int)) (s : F) (k : Nat) : List (Int × Int) := joinL (forthL (fsts zs) s k) (forthL (snds zs) s k)
def backQ (zs : List (Int × Int)) (s : F) (k : Nat) : List (Int × Int) := joinL (backL (fsts zs) s k) (backL (snds zs) s k)
theorem forthQ_len (zs : List (Int × Int)) (s : F) (k : Nat) : (forthQ zs s k).length = 2 ^ k := by unfold forthQ; rw [joinL_len, forthL_len]
theorem backQ_len (zs : List (Int × Int)) (s : F) (k : Nat) : (backQ zs s k).length = 2 ^ k := by unfold backQ; rw [joinL_len, backL_len]
/-- A slice of pairs that the call itself made, beside OK. -/
def NewOkQ (w : World) (n : Nat) (zs : List (Int × Int)) (e : Ending) (w' : World) : Prop := ∃ a c, e = .returned (.tuple #[.slice a n c, .int .i64 0]) ∧ Below w.heap.size w w' ∧ QRow w' (.slice a n c) zs

set_option maxHeartbeats 4000000 in
theorem refforthq_yes (a : Option Addr) (len cap : Nat) (zs : List (Int × Int)) (zi : Int) (hz : U zi) (s : F) (hs : toF zi = s) (k : Nat) (hk : k ≤ 20) (w : World) (hr : QRowA w a len zs) (hu : ∀ n ∈ zs, U n.1 ∧ U n.2) (hl : len ≤ 2 ^ k) :
    Calls Tryd.prog 14 #[.slice a len cap, .int .u64 zi, .int .i64 k] w (NewOkQ w (2 ^ k) (forthQ zs s k)) := by
  have P2 : 2 ^ k ≤ 2 ^ 20 := Nat.pow_le_pow_right (by decide) hk
  have p1 := refparts_any a len cap zs w hr (by omega)
  have k1 := fun a c W h => refforth_yes a len c (fsts zs) zi hz s hs k hk W h (fsts_U hu) hl
  have k2 := fun a c W h => refforth_yes a len c (snds zs) zi hz s hs k hk W h (snds_U hu) hl
  have j1 := fun a b ca cb W hx hy => refjoin_any a b (2 ^ k) ca cb (forthL (fsts zs) s k) (forthL (snds zs) s k) W hx hy (forthL_U _ _ _) (forthL_U _ _ _) (by omega)
  unfold NewTwo at p1
  unfold NewOk at k1 k2
  unfold NewRowQ at j1
  generalize hn : 2 ^ k = n at *
  have HN := Lib.hid hn
  clear hr hu hl hz hs P2 hn
  go_enter Tryd.func14, Tryd.ntmps14
  go_upto_region 2 with ((go_at_call 35; ((with_reducible refine p1.mono ?_); rintro e w1 ⟨a1, c1, a2, c2, rfl, hB, h1, h2⟩)))
  go_upto_region 3 with ((go_at_call 36; ((with_reducible refine (k1 _ _ _ h1.at).mono ?_); rintro e w2 ⟨a3, c3, rfl, hb, h3⟩; replace h2 := h2.below hb; replace hB := bthen hB hb; clear hb h1)))
  go_upto_region 4 with ((go_at_call 36; ((with_reducible refine (k2 _ _ _ h2.at).mono ?_); rintro e w3 ⟨a4, c4, rfl, hb, h4⟩; replace h3 := h3.below hb; replace hB := bthen hB hb; clear hb h2)))
  go_wp2_with ((go_at_call 37; ((with_reducible refine (j1 _ _ _ _ _ h3.at h4.at).mono ?_); rintro e w4 ⟨a5, c5, rfl, hb, h5⟩; replace hB := bthen hB hb)))
  exact bodyPost_ret (v := .tuple #[.slice a5 n c5, .int .i64 0]) (by simp [results, Tryd.results14, go_sem]) rfl ⟨_, _, rfl, hB, h5⟩
theorem refforthq_no (a : Option Addr) (len cap : Nat) (zs : List (Int × Int)) (zi k : Int) (w : World) (hr : QRowA w a len zs) (hl : len ≤ 4294967296) (h : ¬ (0 ≤ k ∧ k ≤ 20 ∧ len ≤ 2 ^ k.toNat)) :
    Calls Tryd.prog 14 #[.slice a len cap, .int .u64 zi, .int .i64 k] w (ErrArg w) := by
  have p1 := refparts_any a len cap zs w hr hl
  have k1 := fun a c W => refforth_no a len c zi k hr.2.1 W h
  unfold NewTwo at p1
  unfold ErrArg at k1
  clear hr hl h
  go_enter Tryd.func14, Tryd.ntmps14
  go_upto_region 2 with ((go_at_call 35; ((with_reducible refine p1.mono ?_); rintro e w1 ⟨a1, c1, a2, c2, rfl, hB, h1, h2⟩)))
  go_upto_region 3 with ((go_at_call 36; ((with_reducible refine (k1 _ _ _).mono ?_); rintro e w2 ⟨rfl, hb⟩; replace hB := bthen hB hb; clear hb)))
  go_wp2_with ((go_at_call 36; ((with_reducible refine (k1 _ _ _).mono ?_); rintro e w3 ⟨rfl, hb⟩; replace hB := bthen hB hb; clear hb)))
  exact bodyPost_ret (v := .tuple #[.slice none 0 0, .int .i64 1]) (by simp [results, Tryd.results14, go_sem]) rfl ⟨rfl, hB⟩
set_option maxHeartbeats 4000000 in
theorem refbackq_yes (a : Option Addr) (len cap : Nat) (zs : List (Int × Int)) (zi : Int) (hz : U zi) (s : F) (hs : toF zi = s) (hs0 : s ≠ 0) (k : Nat) (hk : k ≤ 20) (w : World) (hr : QRowA w a len zs) (hu : ∀ n ∈ zs, U n.1 ∧ U n.2) (hl : len = 2 ^ k) :
    Calls Tryd.prog 38 #[.slice a len cap, .int .u64 zi] w (NewOkQ w (2 ^ k) (backQ zs s k)) := by
  have P2 : 2 ^ k ≤ 2 ^ 20 := Nat.pow_le_pow_right (by decide) hk
  have p1 := refparts_any a len cap zs w hr (by omega)
  have k1 := fun a c W h => refback_yes a len c (fsts zs) zi hz s hs hs0 k hk W h (fsts_U hu) hl
  have k2 := fun a c W h => refback_yes a len c (snds zs) zi hz s hs hs0 k hk W h (snds_U hu) hl
  have j1 := fun a b ca cb W hx hy => refjoin_any a b (2 ^ k) ca cb (backL (fsts zs) s k) (backL (snds zs) s k) W hx hy (backL_U _ _ _) (backL_U _ _ _) (by omega)
  unfold NewTwo at p1
  unfold NewOk at k1 k2
  unfold NewRowQ at j1
  generalize hn : 2 ^ k = n at *
  have HN := Lib.hid hn
  clear hr hu hz hs hs0 P2 hn hl
  go_enter Tryd.func38, Tryd.ntmps38
  go_upto_region 2 with ((go_at_call 35; ((with_reducible refine p1.mono ?_); rintro e w1 ⟨a1, c1, a2, c2, rfl, hB, h1, h2⟩)))
  go_upto_region 3 with ((go_at_call 71; ((with_reducible refine (k1 _ _ _ h1.at).mono ?_); rintro e w2 ⟨a3, c3, rfl, hb, h3⟩; replace h2 := h2.below hb; replace hB := bthen hB hb; clear hb h1)))
  go_upto_region 4 with ((go_at_call 71; ((with_reducible refine (k2 _ _ _ h2.at).mono ?_); rintro e w3 ⟨a4, c4, rfl, hb, h4⟩; replace h3 := h3.below hb; replace hB := bthen hB hb; clear hb h2)))
  go_wp2_with ((go_at_call 37; ((with_reducible refine (j1 _ _ _ _ _ h3.at h4.at).mono ?_); rintro e w4 ⟨a5, c5, rfl, hb, h5⟩; replace hB := bthen hB hb)))
  exact bodyPost_ret (v := .tuple #[.slice a5 n c5, .int .i64 0]) (by simp [results, Tryd.results38, go_sem]) rfl ⟨_, _, rfl, hB, h5⟩
theorem refbackq_no (a : Option Addr) (len cap : Nat) (zs : List (Int × Int)) (zi : Int) (hz : U zi) (s : F) (hs : toF zi = s) (w : World) (hr : QRowA w a len zs) (hl : len ≤ 4294967296) (h : ¬ (0 ≤ lg len ∧ lg len ≤ 20 ∧ s ≠ 0)) :
    Calls Tryd.prog 38 #[.slice a len cap, .int .u64 zi] w (ErrArg w) := by
  have p1 := refparts_any a len cap zs w hr hl
  have k1 := fun a c W => refback_no a len c zi hz s hs hr.2.1 W h
  unfold NewTwo at p1
  unfold ErrArg at k1
  clear hr hl h
  go_enter Tryd.func38, Tryd.ntmps38
  go_upto_region 2 with ((go_at_call 35; ((with_reducible refine p1.mono ?_); rintro e w1 ⟨a1, c1, a2, c2, rfl, hB, h1, h2⟩)))
  go_upto_region 3 with ((go_at_call 71; ((with_reducible refine (k1 _ _ _).mono ?_); rintro e w2 ⟨rfl, hb⟩; replace hB := bthen hB hb; clear hb)))
  go_wp2_with ((go_at_call 71; ((with_reducible refine (k1 _ _ _).mono ?_); rintro e w3 ⟨rfl, hb⟩; replace hB := bthen hB hb; clear hb)))
  exact bodyPost_ret (v := .tuple #[.slice none 0 0, .int .i64 1]) (by simp [results, Tryd.results38, go_sem]) rfl ⟨rfl, hB⟩
end Go.Proofs.YthfkfgjhgicfeaaDoor
namespace Go.Proofs.YthfkfgjhgicfeaaDoor
open Go.RowKit
set_option linter.unusedVariables false

def okF (len : Nat) (k : Int) : Prop := 0 ≤ k ∧ k ≤ 20 ∧ len ≤ 2 ^ k.toNat
instance (len : Nat) (k : Int) : Decidable (okF len k) := by unfold okF; exact inferInstance
def okB (len : Nat) (s : F) : Prop := 0 ≤ lg len ∧ lg len ≤ 20 ∧ s ≠ 0
instance (len : Nat) (s : F) : Decidable (okB len s) := by unfold okB; exact inferInstance
def errF (len : Nat) (k : Int) : Int := if okF len k then 0 else 1
def errB (len : Nat) (s : F) : Int := if okB len s then 0 else 1
def resF (zs : List Int) (s : F) (k : Int) : List Int := if okF zs.length k then forthL zs s k.toNat else []
def resB (zs : List Int) (s : F) : List Int := if okB zs.length s then backL zs s (lg zs.length).toNat else []
def resFQ (zs : List (Int × Int)) (s : F) (k : Int) : List (Int × Int) := if okF zs.length k then forthQ zs s k.toNat else []
def resBQ (zs : List (Int × Int)) (s : F) : List (Int × Int) := if okB zs.length s then backQ zs s (lg zs.length).toNat else []

def OneL (err : Int) (res : List Int) (w : World) (e : Ending) (w' : World) : Prop := ∃ a n c, e = .returned (.tuple #[.slice a n c, .int .i64 err]) ∧ Below w.heap.size w w' ∧ Row w' (.slice a n c) res
def OneLQ (err : Int) (res : List (Int × Int)) (w : World) (e : Ending) (w' : World) : Prop := ∃ a n c, e = .returned (.tuple #[.slice a n c, .int .i64 err]) ∧ Below w.heap.size w w' ∧ QRow w' (.slice a n c) res
theorem OneL.yes {w w' : World} {e : Ending} {n : Nat} {xs res : List Int} {err : Int} (h : NewOk w n xs e w') (hr : res = xs) (he : err = 0) : OneL err res w e w' := by
  subst hr he
  obtain ⟨a, c, h1, h2, h3⟩ := h
  exact ⟨a, n, c, h1, h2, h3⟩
theorem OneL.no {w w' : World} {e : Ending} {res : List Int} {err : Int} (h : ErrArg w e w') (hr : res = []) (he : err = 1) : OneL err res w e w' := by
  subst hr he
  exact ⟨none, 0, 0, h.1, h.2, Or.inl ⟨rfl, rfl⟩⟩
theorem OneLQ.yes {w w' : World} {e : Ending} {n : Nat} {xs res : List (Int × Int)} {err : Int} (h : NewOkQ w n xs e w') (hr : res = xs) (he : err = 0) : OneLQ err res w e w' := by
  subst hr he
  obtain ⟨a, c, h1, h2, h3⟩ := h
  exact ⟨a, n, c, h1, h2, h3⟩
theorem OneLQ.no {w w' : World} {e : Ending} {res : List (Int × Int)} {err : Int} (h : ErrArg w e w') (hr : res = []) (he : err = 1) : OneLQ err res w e w' := by
  subst hr he
  exact ⟨none, 0, 0, h.1, h.2, Or.inl ⟨rfl, rfl⟩⟩

theorem refforth_one (a : Option Addr) (len cap : Nat) (zs : List Int) (zi : Int) (hz : U zi) (s : F) (hs : toF zi = s) (k : Int) (w : World) (hr : Row w (.slice a len cap) zs) (hu : ∀ n ∈ zs, U n) :
    Calls Tryd.prog 36 #[.slice a len cap, .int .u64 zi, .int .i64 k] w (OneL (errF zs.length k) (resF zs s k) w) := by
  have hl := hr.at.1
  by_cases h : okF zs.length k
  · obtain ⟨m, rfl⟩ := Int.eq_ofNat_of_zero_le h.1
    have h3 := h.2.2
    rw [Int.toNat_natCast] at h3
    exact (refforth_yes a len cap zs zi hz s hs m (by have := h.2.1; omega) w hr.at hu (by omega)).mono fun e w' h' => OneL.yes h' (by unfold resF; rw [if_pos h, Int.toNat_natCast]) (by unfold errF; rw [if_pos h])
  · exact (refforth_no a len cap zi k hr.at.2.1 w (by rw [← hl]; exact h)).mono fun e w' h' => OneL.no h' (by unfold resF; rw [if_neg h]) (by unfold errF; rw [if_neg h])
theorem refback_one (a : Option Addr) (len cap : Nat) (zs : List Int) (zi : Int) (hz : U zi) (s : F) (hs : toF zi = s) (w : World) (hr : Row w (.slice a len cap) zs) (hu : ∀ n ∈ zs, U n) :
    Calls Tryd.prog 71 #[.slice a len cap, .int .u64 zi] w (OneL (errB zs.length s) (resB zs s) w) := by
  have hl := hr.at.1
  have hm := hr.at.2.1
  unfold maxLen at hm
  by_cases h : okB zs.length s
  · obtain ⟨k, hk, hk2, hk3⟩ := lg_cases zs.length (by omega) h.1 h.2.1
    exact (refback_yes a len cap zs zi hz s hs h.2.2 k hk w hr.at hu (by omega)).mono fun e w' h' => OneL.yes h' (by unfold resB; rw [if_pos h, hk3, Int.toNat_natCast]) (by unfold errB; rw [if_pos h])
  · exact (refback_no a len cap zi hz s hs hr.at.2.1 w (by rw [← hl]; exact h)).mono fun e w' h' => OneL.no h' (by unfold resB; rw [if_neg h]) (by unfold errB; rw [if_neg h])
theorem refforthq_one (a : Option Addr) (len cap : Nat) (zs : List (Int × Int)) (zi : Int) (hz : U zi) (s : F) (hs : toF zi = s) (k : Int) (w : World) (hr : QRow w (.slice a len cap) zs) (hu : ∀ n ∈ zs, U n.1 ∧ U n.2) (hlen : len ≤ 4294967296) :
    Calls Tryd.prog 14 #[.slice a len cap, .int .u64 zi, .int .i64 k] w (OneLQ (errF zs.length k) (resFQ zs s k) w) := by
  have hl := hr.at.1
  by_cases h : okF zs.length k
  · obtain ⟨m, rfl⟩ := Int.eq_ofNat_of_zero_le h.1
    have h3 := h.2.2
    rw [Int.toNat_natCast] at h3
    exact (refforthq_yes a len cap zs zi hz s hs m (by have := h.2.1; omega) w hr.at hu (by omega)).mono fun e w' h' => OneLQ.yes h' (by unfold resFQ; rw [if_pos h, Int.toNat_natCast]) (by unfold errF; rw [if_pos h])
  · exact (refforthq_no a len cap zs zi k w hr.at hlen (by rw [← hl]; exact h)).mono fun e w' h' => OneLQ.no h' (by unfold resFQ; rw [if_neg h]) (by unfold errF; rw [if_neg h])
theorem refbackq_one (a : Option Addr) (len cap : Nat) (zs : List (Int × Int)) (zi : Int) (hz : U zi) (s : F) (hs : toF zi = s) (w : World) (hr : QRow w (.slice a len cap) zs) (hu : ∀ n ∈ zs, U n.1 ∧ U n.2) (hlen : len ≤ 4294967296) :
    Calls Tryd.prog 38 #[.slice a len cap, .int .u64 zi] w (OneLQ (errB zs.length s) (resBQ zs s) w) := by
  have hl := hr.at.1
  by_cases h : okB zs.length s
  · obtain ⟨k, hk, hk2, hk3⟩ := lg_cases zs.length (by omega) h.1 h.2.1
    exact (refbackq_yes a len cap zs zi hz s hs h.2.2 k hk w hr.at hu (by omega)).mono fun e w' h' => OneLQ.yes h' (by unfold resBQ; rw [if_pos h, hk3, Int.toNat_natCast]) (by unfold errB; rw [if_pos h])
  · exact (refbackq_no a len cap zs zi hz s hs w hr.at hlen (by rw [← hl]; exact h)).mono fun e w' h' => OneLQ.no h' (by unfold resBQ; rw [if_neg h]) (by unfold errB; rw [if_neg h])

/-! What is asked of the program's calls. -/
/-! What follows of them at one world. -/
theorem resF_U (zs : List Int) (s : F) (k : Int) : ∀ n ∈ resF zs s k, U n := by
  unfold resF
  split
  · exact forthL_U _ _ _
  · simp
theorem resB_U (zs : List Int) (s : F) : ∀ n ∈ resB zs s, U n := by
  unfold resB
  split
  · exact backL_U _ _ _
  · simp
end Go.Proofs.YthfkfgjhgicfeaaDoor
