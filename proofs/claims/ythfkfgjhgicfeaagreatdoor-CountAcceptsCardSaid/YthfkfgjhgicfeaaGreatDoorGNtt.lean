/-
  Sums: Sums, polynomials and what they come to at roots of unity, and back, as plain mathematics (no Go in sight).
  PtsRef: What the document's Points of layer 4 come to: a contract for the walk.
  ForthRef: What the document's Forth of layer 4 comes to: contracts for the walk. (Written by gen_forthref.py.)
  BackRef: What the document's Back of layer 4 comes to: contracts for the walk. (Written by gen_backref.py.)
  PartsRef: What the document's parts and join of layer 4 come to, and its ForthPairs and BackPairs: contracts for the walk.
  NttC: What is asked of package ntt, call by call, under names; and that the document's answers do the same.
-/
import Derived.Test.YthfkfgjhgicfeaaGreatDoorGRoot
import Derived.Test.YthfkfgjhgicfeaaGreatDoorGRow
import Derived.Test.YthfkfgjhgicfeaaGreatDoorGRef
import Derived.Test.YthfkfgjhgicfeaaGreatDoorGNum
import Derived.Deep.DeepCutAuto
import Derived.Test.YthfkfgjhgicfeaaGreatDoorSame
import Derived.Test.YthfkfgjhgicfeaaGreatDoorOpenPairs
namespace Go.Proofs.YthfkfgjhgicfeaaGreatDoor
set_option linter.unusedVariables false

/-- The sum of the first n. -/
def sm : Nat → (Nat → F) → F
  | 0, _ => 0
  | n + 1, f => sm n f + f n
theorem sm_succ (n : Nat) (f : Nat → F) : sm (n + 1) f = sm n f + f n := rfl
theorem sm_congr {f g : Nat → F} : ∀ {n : Nat}, (∀ i, i < n → f i = g i) → sm n f = sm n g
  | 0, _ => rfl
  | n + 1, h => by rw [sm_succ, sm_succ, sm_congr (fun i hi => h i (by omega)), h n (by omega)]
theorem sm_mul (a : F) (f : Nat → F) : ∀ n : Nat, sm n (fun i => a * f i) = a * sm n f
  | 0 => by simp only [sm]; grind
  | n + 1 => by rw [sm_succ, sm_succ, sm_mul a f n]; grind
theorem sm_first (f : Nat → F) : ∀ n : Nat, sm (n + 1) f = f 0 + sm n (fun i => f (i + 1))
  | 0 => by simp only [sm]; grind
  | n + 1 => by rw [sm_succ, sm_first f n, sm_succ]; grind
/-- The even ones and the odd ones. -/
theorem sm_two (f : Nat → F) : ∀ n : Nat, sm (2 * n) f = sm n (fun i => f (2 * i)) + sm n (fun i => f (2 * i + 1))
  | 0 => by simp only [sm]; grind
  | n + 1 => by
    rw [show 2 * (n + 1) = 2 * n + 1 + 1 by omega, sm_succ, sm_succ, sm_two f n, sm_succ, sm_succ]; grind
/-! Polynomials. -/
/-- A row's number at a place, in the field; 0 behind its end. -/
def co (zs : List Int) (j : Nat) : F := toF (zs.getD j 0)
/-- What n coefficients come to. -/
def ev (n : Nat) (c : Nat → F) (x : F) : F := sm n (fun j => c j * fpow x j)
theorem ev_congr {n : Nat} {c d : Nat → F} {x : F} (h : ∀ j, j < n → c j = d j) : ev n c x = ev n d x := sm_congr fun j hj => by rw [h j hj]
/-- From the j-th coefficient on, the highest one first (Horner). -/
def ho (n : Nat) (c : Nat → F) (x : F) (j : Nat) : F := ev (n - j) (fun i => c (j + i)) x
theorem ho_end (n : Nat) (c : Nat → F) (x : F) : ho n c x n = 0 := by unfold ho; rw [Nat.sub_self]; rfl
theorem ho_step (n : Nat) (c : Nat → F) (x : F) (j : Nat) (h : j < n) : ho n c x j = ho n c x (j + 1) * x + c j := by
  unfold ho ev
  rw [show n - j = (n - (j + 1)) + 1 by omega, sm_first, show ∀ a b : F, a * x + b = b + x * a by intro a b; grind, ← sm_mul]
  congr 1
  · simp only [fpow, Nat.add_zero]; grind
  · exact sm_congr fun i _ => by dsimp only; rw [fpow_succ, show j + (i + 1) = j + 1 + i by omega]; grind
theorem ho_zero (n : Nat) (c : Nat → F) (x : F) : ho n c x 0 = ev n c x := by
  unfold ho; rw [Nat.sub_zero]; exact ev_congr fun j _ => by rw [Nat.zero_add]

/-! Roots of unity. -/
/-- No two powers of a root below its order are one. -/
theorem root_inj (k : Nat) (hk : k ≤ 32) (i j : Nat) (hi : i < 2 ^ k) (hj : j < 2 ^ k) (h : fpow (rootOf k) i = fpow (rootOf k) j) : i = j := by
  unfold rootOf at h
  rw [← fpow_mul, ← fpow_mul] at h
  have hd : 18446744069414584320 / 2 ^ k * 2 ^ k = 18446744069414584320 := by
    have : ∀ k, k < 33 → 18446744069414584320 / 2 ^ k * 2 ^ k = 18446744069414584320 := by decide +kernel
    exact this k (by omega)
  have hp : 0 < 18446744069414584320 / 2 ^ k := by
    refine Nat.pos_of_ne_zero fun h0 => ?_
    rw [h0] at hd
    omega
  generalize 18446744069414584320 / 2 ^ k = d at *
  have b1 : d * i < d * 2 ^ k := Nat.mul_lt_mul_of_pos_left hi hp
  have b2 : d * j < d * 2 ^ k := Nat.mul_lt_mul_of_pos_left hj hp
  rw [hd] at b1 b2
  exact Nat.eq_of_mul_eq_mul_left hp (seven_inj _ _ b1 b2 h)
theorem root_ne (k : Nat) (hk : k ≤ 32) : rootOf k ≠ 0 := by
  intro h
  have := root_all k hk
  rw [h] at this
  cases e : 2 ^ k with
  | zero => have := Nat.two_pow_pos k; omega
  | succ n => rw [e, fpow_succ] at this; have h2 : (1 : F) = 0 := by rw [← this]; grind
              exact one_ne_zero h2
theorem fpow_finv {x : F} (hx : x ≠ 0) (j : Nat) : fpow x j * fpow (finv x) j = 1 := by
  rw [← mul_fpow, mul_finv x hx, one_fpow]
/-- The points: the shift times a root's powers. -/
def pt (s : F) (k i : Nat) : F := s * fpow (rootOf k) i
theorem pt_zero (s : F) (k : Nat) : pt s k 0 = s := by unfold pt; rw [fpow_zero]; grind
theorem pt_succ (s : F) (k i : Nat) : pt s k (i + 1) = pt s k i * rootOf k := by unfold pt; rw [fpow_succ]; grind
theorem pt_half (s : F) (k i : Nat) (hk : k < 32) : pt s (k + 1) (2 * i) = pt s k i := by
  unfold pt; rw [fpow_mul]
  congr 2
  rw [show fpow (rootOf (k + 1)) 2 = rootOf (k + 1) * rootOf (k + 1) by simp only [fpow]; grind, root_sq k hk]
end Go.Proofs.YthfkfgjhgicfeaaGreatDoor
namespace Go.Proofs.YthfkfgjhgicfeaaGreatDoor
open Go.RowKit
set_option linter.unusedVariables false

/-- The points, as numbers are kept. -/
def pts (s : F) (k : Nat) : List Int := (List.range (2 ^ k)).map fun i => enc (pt s k i)
theorem pts_len (s : F) (k : Nat) : (pts s k).length = 2 ^ k := by simp [pts]
theorem pts_at (s : F) (k i : Nat) (h : i < 2 ^ k) : (pts s k).getD i 0 = enc (pt s k i) := by simp [pts, List.getD, h]
theorem pts_snoc (s : F) (k i : Nat) (h : i < 2 ^ k) : (pts s k).take (i + 1) = (pts s k).take i ++ [enc (pt s k i)] := by
  have hl : i < (pts s k).length := by rw [pts_len]; exact h
  rw [List.take_succ_eq_append_getElem hl, ← pts_at s k i h]
  simp [List.getD, hl]
/-- A slice of numbers that the call itself made. -/
def NewRow (w : World) (n : Nat) (zs : List Int) (e : Ending) (w' : World) : Prop := ∃ a c, e = .returned (.slice a n c) ∧ Below w.heap.size w w' ∧ Row w' (.slice a n c) zs

def PtsUp (w : World) (s : F) (k : Nat) (m x i : Value) (W : World) : Prop :=
  ∃ j : Nat, j ≤ 2 ^ k ∧ i = .int .i64 j ∧ x = .int .u64 (enc (pt s k j)) ∧ MadeU w W m ((pts s k).take j)

set_option maxHeartbeats 4000000 in
theorem refpoints_any (z : Int) (hz : U z) (s : F) (hs : toF z = s) (k : Nat) (hk : k ≤ 20) (w : World) :
    Calls Tryz.prog 90 #[.int .u64 z, .int .i64 k] w (NewRow w (2 ^ k) (pts s k)) := by
  obtain ⟨i0, hi, hz0, hz1, hz2⟩ := info_parts info64'
  have o1 := fun W => ref_below (refof_is k (enc (rootOf k)) (by rw [ofv_in (by omega) (by omega)]; rfl) W)
  have r1 := rem_toF z hz
  have r2 := mod_toF z hz
  have z0 := hz.1
  have w1 := wrap64_pow k (by omega)
  have P2 : 2 ^ k ≤ 2 ^ 20 := Nat.pow_le_pow_right (by decide) hk
  have HS := Lib.hid (pts_snoc s k)
  have HP := Lib.hid (pt_succ s k)
  have H0 := Lib.hid (pt_zero s k)
  have HL := Lib.hid (pts_len s k)
  rw [hs] at r1 r2
  obtain ⟨n, hn⟩ : ∃ n, 2 ^ k = n := ⟨_, rfl⟩
  have HN := Lib.hid hn
  rw [hn] at w1 P2
  clear hs hz hn
  go_enter Tryz.func90, Tryz.ntmps90
  go_upto_region 4 with ((go_at_call 98; ((with_reducible refine (o1 _).mono ?_); rintro e W ⟨rfl, hB⟩)))
  clear r1 r2 z0
  go_upto_region 5 with fail
  go_loopw [5, 7, 8] (PtsUp w s k) (fun _ _ i _ => n - (intOf i).toNat)
  case atStart => exact ⟨0, Nat.zero_le _, rfl, by rw [H0.out], (MadeU.start w).keep hB⟩
  case round =>
    clear hB
    obtain ⟨j, hj, rfl, rfl, hM⟩ := hrel
    rw [HN.out] at hj
    by_cases hlt : j < n
    · have q1 := fun W => ref_below (refmul_any (enc (pt s k j)) (enc (rootOf k)) (enc_U _) (enc_U _) W)
      rw [toF_enc, toF_enc, ← HP.out j] at q1
      have HT := Lib.hid (HS.out j (by rw [HN.out]; exact hlt))
      have hlen : ((pts s k).take j).length ≤ 1048576 := by rw [List.length_take, HL.out, HN.out]; omega
      generalize (pts s k).take j = xs at *
      generalize enc (pt s k j) = y at *
      obtain ⟨y', hy⟩ : ∃ y', enc (pt s k (j + 1)) = y' := ⟨_, rfl⟩
      rw [hy] at q1
      have HY := Lib.hid hy
      clear hy
      have hstep := fun w1 v' => @MadeU.step w _ w1 _ v' xs y hM
      have hown := hM.1
      have hsz := hM.2.size
      have HT2 := Lib.hid hstep
      clear hstep hM
      have hlt' : (j : Int) < (n : Int) := by omega
      generalize xs.length = nn at *
      generalize xs.map (Value.int .u64) = cs at *
      go_wp2_with (at_builtin; refine wpList_append_own _ rfl _ _ 77 rfl w.heap.size 29 i0 (.int .u64 0) 1 8 Tryz.underlying77 hi hz0 hz1 hz2 rfl (by decide) _ _ _ rfl (hown.alloc _) ⟨wr.heap.size, 0, none⟩ 1 1 [.int .u64 y] rfl rfl ?c1 ?c2 ?c3 ?c4 ?c5 ?_)
      case c1 => exact one_src (by simp [go_sem])
      case c2 => first | rfl | (intro u hu; simp at hu; subst hu; rfl)
      case c3 => unfold maxLen; omega
      case c4 => omega
      case c5 => first | omega | (simp; omega)
      · intro v' w1 hown' hgrow _
        have hM := HT2.out w1 v' _ hown' hgrow
        clear hown' hgrow hown HT2
        go_wp2_with ((go_at_call 88; ((with_reducible refine (q1 _).mono ?_); rintro e W2 ⟨rfl, hb⟩; replace hM := hM.keep hb; clear hb)))
        go_roundw
        case rel => exact ⟨j + 1, by rw [HN.out]; omega, by go_num, by rw [HY.out], by rw [HT.out]; exact hM⟩
        case measure => simp [intOf]; omega
    · obtain rfl : j = n := by omega
      rw [← HN.out, ← HL.out, List.take_length] at hM
      obtain ⟨am, cm, hv, hrow⟩ := hM.row
      rw [HL.out] at hv hrow
      have hB := hM.2
      clear hM hlt
      subst hv
      go_wp2
      go_ret
      exact ⟨am, cm, rfl, hB, hrow⟩
end Go.Proofs.YthfkfgjhgicfeaaGreatDoor
namespace Go.Proofs.YthfkfgjhgicfeaaGreatDoor
open Go.RowKit Go.Sort Go.BigFrame
set_option linter.unusedVariables false

theorem same_below {f : FuncId} {args : Array Value} {v : Value} {w : World} (h : Calls Tryz.prog f args w fun e w' => e = .returned v ∧ w = w') : Calls Tryz.prog f args w fun e w' => e = .returned v ∧ Below w.heap.size w w' :=
  h.mono fun _ _ ⟨he, hn⟩ => ⟨he, hn ▸ Below.refl _ _⟩
/-- What coefficients come to at the points. -/
def forthL (zs : List Int) (s : F) (k : Nat) : List Int := (List.range (2 ^ k)).map fun i => enc (ev zs.length (co zs) (pt s k i))
theorem forthL_len (zs : List Int) (s : F) (k : Nat) : (forthL zs s k).length = 2 ^ k := by simp [forthL]
theorem forthL_at (zs : List Int) (s : F) (k i : Nat) (h : i < 2 ^ k) : (forthL zs s k).getD i 0 = enc (ev zs.length (co zs) (pt s k i)) := by simp [forthL, List.getD, h]
theorem forthL_U (zs : List Int) (s : F) (k : Nat) : ∀ n ∈ forthL zs s k, U n := by
  intro n hn
  simp only [forthL, List.mem_map] at hn
  obtain ⟨z, _, rfl⟩ := hn
  exact enc_U _

/-- The row while the i-th one is under way, down to the j-th coefficient. -/
def fin (zs : List Int) (s : F) (k i j : Nat) (m : Nat) : Int := if m < i then (forthL zs s k).getD m 0 else if m = i then enc (ho zs.length (co zs) (pt s k i) j) else 0
def FOuter (w : World) (zs : List Int) (s : F) (k g : Nat) (i : Value) (W : World) : Prop :=
  ∃ m : Nat, m ≤ 2 ^ k ∧ i = .int .i64 m ∧ Below w.heap.size w W ∧ Arr W g (2 ^ k) (fun j => .int .u64 (if j < m then (forthL zs s k).getD j 0 else 0))
def FInner (w : World) (zs : List Int) (s : F) (k g m : Nat) (j : Value) (W : World) : Prop :=
  ∃ r : Nat, r ≤ zs.length ∧ j = .int .i64 ((r : Int) - 1) ∧ Below w.heap.size w W ∧ Arr W g (2 ^ k) (fun j => .int .u64 (fin zs s k m r j))
theorem fin_start (zs : List Int) (s : F) (k m : Nat) : ∀ j, j < 2 ^ k → (Value.int .u64 (if j < m then (forthL zs s k).getD j 0 else 0)) = .int .u64 (fin zs s k m zs.length j) := by
  intro j hj
  unfold fin
  by_cases h : j < m
  · rw [if_pos h, if_pos h]
  · rw [if_neg h, if_neg h, ho_end]
    by_cases e : j = m
    · rw [if_pos e]; rfl
    · rw [if_neg e]
theorem fin_end (zs : List Int) (s : F) (k m : Nat) : ∀ j, j < 2 ^ k → Value.int .u64 (fin zs s k m 0 j) = .int .u64 (if j < m + 1 then (forthL zs s k).getD j 0 else 0) := by
  intro j hj
  unfold fin
  by_cases h : j < m
  · rw [if_pos h, if_pos (by omega)]
  · rw [if_neg h]
    by_cases e : j = m
    · subst e; rw [if_pos rfl, if_pos (by omega), ho_zero, forthL_at zs s k j hj]
    · rw [if_neg e, if_neg (by omega)]
theorem fin_step {zs : List Int} {s : F} {k m r : Nat} {y : Int} (hy : enc (ho zs.length (co zs) (pt s k m) r) = y) : ∀ j, j < 2 ^ k → (if j = m then Value.int .u64 y else .int .u64 (fin zs s k m (r + 1) j)) = .int .u64 (fin zs s k m r j) := by
  intro j hj
  unfold fin
  by_cases e : j = m
  · subst e; rw [if_pos rfl, if_neg (by omega), if_pos rfl, hy]
  · rw [if_neg e]
    by_cases h : j < m
    · rw [if_pos h, if_pos h]
    · rw [if_neg h, if_neg e, if_neg h, if_neg e]
theorem fin_at (zs : List Int) (s : F) (k m r : Nat) : fin zs s k m r m = enc (ho zs.length (co zs) (pt s k m) r) := by unfold fin; rw [if_neg (by omega), if_pos rfl]

/-- What the slots of the drawn region hold. -/
def ForthR (g n i bp op cp b off len cap j : Nat) (y x t z y' : Int) (sl : Nat) (v : Value) (W : World) : Prop :=
  match sl with
  | 45 => v = .slice (some ⟨g, 0, none⟩) n n
  | 46 => v = .int .i64 i
  | 47 => v = .slice (some ⟨g, 0, none⟩) n n
  | 48 => v = .int .i64 i
  | 49 => v = .pointer (some ⟨g, i, none⟩)
  | 50 => v = .int .u64 y
  | 51 => v = .slice (some ⟨bp, op, none⟩) n cp
  | 52 => v = .int .i64 i
  | 53 => v = .pointer (some ⟨bp, op + i, none⟩)
  | 54 => v = .int .u64 x
  | 55 => v = .int .u64 t
  | 56 => v = .slice (some ⟨b, off, none⟩) len cap
  | 57 => v = .int .i64 j
  | 58 => v = .pointer (some ⟨b, off + j, none⟩)
  | 59 => v = .int .u64 z
  | 60 => v = .int .u64 y'
  | _ => v = .pointer (some ⟨g, i, none⟩)
theorem ForthR.keep {g n i bp op cp b off len cap j : Nat} {y x t z y' : Int} {sl : Nat} {v : Value} {W W' : World} (h : ForthR g n i bp op cp b off len cap j y x t z y' sl v W) (hb : Below W.heap.size W W') : ForthR g n i bp op cp b off len cap j y x t z y' sl v W' := h

/-- A slice of numbers that the call itself made, beside OK. -/
def NewOk (w : World) (n : Nat) (zs : List Int) (e : Ending) (w' : World) : Prop := ∃ a c, e = .returned (.tuple #[.slice a n c, .int .i64 0]) ∧ Below w.heap.size w w' ∧ Row w' (.slice a n c) zs

set_option maxHeartbeats 4000000 in
theorem refforth_yes (a : Option Addr) (len cap : Nat) (zs : List Int) (zi : Int) (hz : U zi) (s : F) (hs : toF zi = s) (k : Nat) (hk : k ≤ 20) (w : World) (hr : RowA w a len zs) (hu : ∀ n ∈ zs, U n) (hl : len ≤ 2 ^ k) :
    Calls Tryz.prog 49 #[.slice a len cap, .int .u64 zi, .int .i64 k] w (NewOk w (2 ^ k) (forthL zs s k)) := by
  have p1 := refpoints_any zi hz s hs k hk
  have hmk := fun W => run_make_row' (P := Tryz.prog) 77 29 (.int .u64 0) 8 Tryz.underlying77 info64' rfl .i64 .i64 (2 ^ k) (by have : 2 ^ k ≤ 2 ^ 20 := Nat.pow_le_pow_right (by decide) hk; omega) (by have : 2 ^ k ≤ 2 ^ 20 := Nat.pow_le_pow_right (by decide) hk; omega) W
  have w1' := wrap64_pow k (by omega)
  have P2 : 2 ^ k ≤ 2 ^ 20 := Nat.pow_le_pow_right (by decide) hk
  have HR := Lib.hid hr
  have HU := Lib.hid (U_getD hu)
  obtain ⟨rfl, hlm, _⟩ := hr
  unfold maxLen at hlm
  obtain ⟨n, hn⟩ : ∃ n, 2 ^ k = n := ⟨_, rfl⟩
  have HN := Lib.hid hn
  unfold NewRow at p1
  rw [hn] at w1' P2 hl hmk
  rw [hn] at p1
  clear hs hz hn hu
  have hl' : (zs.length : Int) ≤ (n : Int) := by omega
  go_enter Tryz.func49, Tryz.ntmps49
  go_upto_region 4 with ((go_at_call 90; ((with_reducible refine (p1 _).mono ?_); rintro e w1 ⟨ap, cp, rfl, hB, hP⟩)))
  clear p1 w1'
  have HPR := Lib.hid hP.at
  go_upto_region 6 with fail
  go_loopw [10] (FOuter w1 zs s k w1.heap.size) (fun i _ => n - (intOf i).toNat)
  case atStart => exact ⟨0, Nat.zero_le _, rfl, (Below.refl _ _).alloc (Nat.le_refl _) _, by rw [HN.out]; exact (Arr.new w1 _ _ _).same (fun j hj => by simp [Nat.mod_one])⟩
  case round =>
    obtain ⟨i, hi, rfl, hW, hA⟩ := hrel
    rw [HN.out] at hi hA
    by_cases hlt : i < n
    · have hlt' : (i : Int) < (n : Int) := by omega
      go_upto_region 9 with fail
      go_loopw [11] (FInner w1 zs s k w1.heap.size i) (fun j _ => (intOf j + 1).toNat)
      case atStart => exact ⟨zs.length, Nat.le_refl _, rfl, hW, by rw [HN.out]; exact hA.same (by rw [← HN.out]; exact fin_start zs s k i)⟩
      case round =>
        clear hW hA
        obtain ⟨r, hr, rfl, hW, hA⟩ := hrel
        rw [HN.out] at hA
        cases r with
        | zero =>
          rw [show ((0 : Nat) : Int) - 1 = -1 from rfl]
          have HW := Lib.hid hW; have HA := Lib.hid hA
          clear hW hA
          go_wp2
          go_roundw
          case rel => exact ⟨i + 1, by rw [HN.out]; omega, by go_num, HW.out, by rw [HN.out]; exact HA.out.same (by rw [← HN.out]; exact fin_end zs s k i)⟩
          case measure => simp [intOf]; omega
        | succ j =>
          rw [show ((j + 1 : Nat) : Int) - 1 = (j : Int) by omega]
          obtain ⟨b, off, rfl, g00⟩ := (HR.out.keep hB).2.2 j (by omega)
          have g0 := bkeep hW g00
          obtain ⟨bp, op, rfl, p00⟩ := HPR.out.2.2 i hlt
          have p0 := bkeep hW p00
          rw [pts_at s k i (by rw [HN.out]; exact hlt)] at p0
          clear g00 p00
          have gU := HU.out j (by omega)
          have f0 := (hA i hlt).2
          have c0 := (hA i hlt).1
          dsimp only at c0
          rw [show fin zs s k i (j + 1) i = enc (ho zs.length (co zs) (pt s k i) (j + 1)) from fin_at zs s k i (j + 1)] at c0
          have m1 := fun W => ref_below (refmul_any (enc (ho zs.length (co zs) (pt s k i) (j + 1))) (enc (pt s k i)) (enc_U _) (enc_U _) W)
          have a1 := fun W => same_below (refadd_any (enc (ho zs.length (co zs) (pt s k i) (j + 1) * pt s k i)) (zs.getD j 0) (enc_U _) gU W)
          simp only [toF_enc] at m1 a1
          rw [show ho zs.length (co zs) (pt s k i) (j + 1) * pt s k i + toF (zs.getD j 0) = ho zs.length (co zs) (pt s k i) j from (ho_step _ _ _ j (by omega)).symm] at a1
          obtain ⟨y', hy⟩ : ∃ v, enc (ho zs.length (co zs) (pt s k i) j) = v := ⟨_, rfl⟩
          rw [hy] at a1
          have HF := Lib.hid hA
          have HS : Hid (∀ m, m < 2 ^ k → (if m = i then Value.int .u64 y' else .int .u64 (fin zs s k i (j + 1) m)) = .int .u64 (fin zs s k i j m)) := Lib.hid (fin_step hy)
          have HW := Lib.hid hW
          clear hA hW gU hy
          generalize enc (ho zs.length (co zs) (pt s k i) (j + 1) * pt s k i) = t at *
          generalize enc (ho zs.length (co zs) (pt s k i) (j + 1)) = y at *
          generalize enc (pt s k i) = x at *
          generalize zs.getD j 0 = z at *
          have hj1 : (j : Int) < (zs.length : Int) := by omega
          have hj0 : (0 : Int) ≤ (j : Int) := by omega
          have hi0 : (0 : Int) ≤ (i : Int) := by omega
          go_upto_region 11 with fail
          refine wp_loose [(45, []), (46, []), (47, []), (48, []), (49, [47, 48]), (50, [49]), (51, []), (52, []), (53, [51, 52]), (54, [53]), (55, [50, 54]), (56, []), (57, []), (58, [56, 57]), (59, [58]), (60, [55, 59]), (61, [45, 46])]
            (ForthR w1.heap.size n i bp op cp b off zs.length cap j y x t z y') (fun d => false) (by kernel_rfl) (by kernel_rfl) (fun _ _ _ _ h hb => h.keep hb) ?_ ?_
          · refine opsrun_cons ?_ (opsrun_cons ?_ (opsrun_cons ?_ (opsrun_cons ?_ (opsrun_cons ?_ (opsrun_cons ?_ (opsrun_cons ?_ (opsrun_cons ?_ (opsrun_cons ?_ (opsrun_cons ?_ (opsrun_cons ?_ (opsrun_cons ?_ (opsrun_cons ?_ (opsrun_cons ?_ (opsrun_cons ?_ (opsrun_cons ?_ (opsrun_cons ?_ opsrun_nil))))))))))))))))
            all_goals
              refine OpRuns.any ?_
              intro Q0 σ W' K hb hn hK
              simp only [fill, List.map, Act.put, List.setIfInBounds_toArray, List.set_cons_zero, List.set_cons_succ] at hK ⊢
            · clear hn
              go_simp
              exact hK _ _ rfl (Below.refl _ _) (fun h => absurd h (by decide))
            · clear hn
              go_simp
              exact hK _ _ rfl (Below.refl _ _) (fun h => absurd h (by decide))
            · clear hn
              go_simp
              exact hK _ _ rfl (Below.refl _ _) (fun h => absurd h (by decide))
            · clear hn
              go_simp
              exact hK _ _ rfl (Below.refl _ _) (fun h => absurd h (by decide))
            · have h47 : σ 47 = _ := hn 47 (by decide)
              have h48 : σ 48 = _ := hn 48 (by decide)
              clear hn
              simp only [h47, h48] at hK
              go_simp
              exact hK _ _ rfl (Below.refl _ _) (fun h => absurd h (by decide))
            · have h49 : σ 49 = _ := hn 49 (by decide)
              clear hn
              simp only [h49] at hK
              have c0' := bkeep hb c0
              clear c0
              go_simp
              exact hK _ _ rfl (Below.refl _ _) (fun h => absurd h (by decide))
            · clear hn
              go_simp
              exact hK _ _ rfl (Below.refl _ _) (fun h => absurd h (by decide))
            · clear hn
              go_simp
              exact hK _ _ rfl (Below.refl _ _) (fun h => absurd h (by decide))
            · have h51 : σ 51 = _ := hn 51 (by decide)
              have h52 : σ 52 = _ := hn 52 (by decide)
              clear hn
              simp only [h51, h52] at hK
              go_simp
              exact hK _ _ rfl (Below.refl _ _) (fun h => absurd h (by decide))
            · have h53 : σ 53 = _ := hn 53 (by decide)
              clear hn
              simp only [h53] at hK
              have p0' := bkeep hb p0
              clear p0
              go_simp
              exact hK _ _ rfl (Below.refl _ _) (fun h => absurd h (by decide))
            · have h50 : σ 50 = _ := hn 50 (by decide)
              have h54 : σ 54 = _ := hn 54 (by decide)
              clear hn
              simp only [h50, h54] at hK
              go_simp
              go_at_call 88
              refine (m1 _).mono ?_
              rintro e w1 ⟨rfl, hb1⟩
              exact hK _ _ rfl hb1 (fun h => absurd h (by decide))
            · clear hn
              go_simp
              exact hK _ _ rfl (Below.refl _ _) (fun h => absurd h (by decide))
            · clear hn
              go_simp
              exact hK _ _ rfl (Below.refl _ _) (fun h => absurd h (by decide))
            · have h56 : σ 56 = _ := hn 56 (by decide)
              have h57 : σ 57 = _ := hn 57 (by decide)
              clear hn
              simp only [h56, h57] at hK
              go_simp
              exact hK _ _ rfl (Below.refl _ _) (fun h => absurd h (by decide))
            · have h58 : σ 58 = _ := hn 58 (by decide)
              clear hn
              simp only [h58] at hK
              have g0' := bkeep hb g0
              clear g0
              go_simp
              exact hK _ _ rfl (Below.refl _ _) (fun h => absurd h (by decide))
            · have h55 : σ 55 = _ := hn 55 (by decide)
              have h59 : σ 59 = _ := hn 59 (by decide)
              clear hn
              simp only [h55, h59] at hK
              go_simp
              go_at_call 69
              refine (a1 _).mono ?_
              rintro e w1 ⟨rfl, hb1⟩
              exact hK _ _ rfl hb1 (fun h => absurd h (by decide))
            · have h45 : σ 45 = _ := hn 45 (by decide)
              have h46 : σ 46 = _ := hn 46 (by decide)
              clear hn
              simp only [h45, h46] at hK
              go_simp
              exact hK _ _ rfl (Below.refl _ _) (fun h => absurd h (by decide))
          · intro σ W' hb hR' hF
            have h60 : σ 60 = _ := hR' 60 (by decide)
            have h61 : σ 61 = _ := hR' 61 (by decide)
            have c0' := bkeep hb c0
            have f0' := bfree hb c0 f0
            have HB2 := Lib.hid (bthen HW.out hb)
            have HA2 := Lib.hid hb
            clear hR' hF c0 f0 p0 g0 m1 a1 hb
            simp only [fill, List.map, Act.put, List.setIfInBounds_toArray, List.set_cons_zero, List.set_cons_succ, List.length_cons, List.length_nil, List.drop_succ_cons, List.drop_zero, Nat.reduceAdd, h60, h61]
            clear h60 h61
            go_wp2
            go_roundw
            case rel => exact ⟨j, by omega, rfl, HB2.out.setCell (by simp) _, by rw [HN.out]; exact ((HF.out.keep HA2.out).set i _ hlt).same (by rw [← HN.out]; exact HS.out)⟩
            case measure => simp [intOf]
    · obtain rfl : i = n := by omega
      have hrow := Arr.row (hA.same (fun j hj => by rw [if_pos hj])) (by rw [forthL_len]; exact HN.out) (by unfold maxLen; omega)
      replace hB := bthen hB hW
      clear hA hW hlt
      go_wp2
      exact bodyPost_ret (v := .tuple #[.slice (some ⟨w1.heap.size, 0, none⟩) i i, .int .i64 0]) (by simp [results, Tryz.results49, go_sem]) rfl ⟨_, _, by rw [HN.out], hB, by rw [HN.out]; exact hrow⟩

end Go.Proofs.YthfkfgjhgicfeaaGreatDoor
namespace Go.Proofs.YthfkfgjhgicfeaaGreatDoor
open Go.RowKit Go.Sort Go.BigFrame
set_option linter.unusedVariables false

/-- A power of what gives 1 with the root. -/
def wp (k j : Nat) : F := fpow (finv (rootOf k)) j
/-- A number of values is a power of two, or it isn't. -/
theorem lg_cases (n : Nat) (hn : n ≤ 9223372036854775807) (h0 : 0 ≤ lg n) (h1 : lg n ≤ 20) : ∃ k : Nat, k ≤ 20 ∧ n = 2 ^ k ∧ lg n = k := by
  unfold lg at *
  split at h0
  · rename_i hh
    rw [if_pos hh] at h1 ⊢
    rw [Int.toNat_natCast] at *
    exact ⟨n.log2, by omega, and_pred (by omega) hh.2, rfl⟩
  · omega
end Go.Proofs.YthfkfgjhgicfeaaGreatDoor
namespace Go.Proofs.YthfkfgjhgicfeaaGreatDoor
open Go.RowKit Go.Sort Go.BigFrame
set_option linter.unusedVariables false

/-- The parts of pairs. -/
def fsts (zs : List (Int × Int)) : List Int := zs.map (·.1)
def snds (zs : List (Int × Int)) : List Int := zs.map (·.2)
theorem fsts_len (zs : List (Int × Int)) : (fsts zs).length = zs.length := by simp [fsts]
theorem snds_len (zs : List (Int × Int)) : (snds zs).length = zs.length := by simp [snds]
theorem fsts_at (zs : List (Int × Int)) (k : Nat) (h : k < zs.length) : (fsts zs).getD k 0 = (zs.getD k (0, 0)).1 := by simp [fsts, List.getD, h]
theorem snds_at (zs : List (Int × Int)) (k : Nat) (h : k < zs.length) : (snds zs).getD k 0 = (zs.getD k (0, 0)).2 := by simp [snds, List.getD, h]
theorem fsts_U {zs : List (Int × Int)} (h : ∀ n ∈ zs, U n.1 ∧ U n.2) : ∀ n ∈ fsts zs, U n := by
  intro n hn
  simp only [fsts, List.mem_map] at hn
  obtain ⟨z, hz, rfl⟩ := hn
  exact (h z hz).1
theorem snds_U {zs : List (Int × Int)} (h : ∀ n ∈ zs, U n.1 ∧ U n.2) : ∀ n ∈ snds zs, U n := by
  intro n hn
  simp only [snds, List.mem_map] at hn
  obtain ⟨z, hz, rfl⟩ := hn
  exact (h z hz).2
/-- Two slices of numbers that the call itself made. -/
def NewTwo (w : World) (n : Nat) (xs ys : List Int) (e : Ending) (w' : World) : Prop :=
  ∃ a c b d, e = .returned (.tuple #[.slice a n c, .slice b n d]) ∧ Below w.heap.size w w' ∧ Row w' (.slice a n c) xs ∧ Row w' (.slice b n d) ys
def upto (xs : List Int) (k j : Nat) : Value := .int .u64 (if j < k then xs.getD j 0 else 0)
theorem upto_step (xs : List Int) (k : Nat) (n : Nat) {x : Int} (hx : xs.getD k 0 = x) : ∀ j, j < n → (if j = k then Value.int .u64 x else upto xs k j) = upto xs (k + 1) j := by
  intro j hj
  unfold upto
  by_cases e : j = k
  · subst e; rw [if_pos rfl, if_pos (by omega), hx]
  · rw [if_neg e]
    by_cases h : j < k
    · rw [if_pos h, if_pos (by omega)]
    · rw [if_neg h, if_neg (by omega)]
theorem upto_all (xs : List Int) (n : Nat) (h : xs.length = n) : ∀ j, j < n → upto xs n j = .int .u64 (xs.getD j 0) := by
  intro j hj; unfold upto; rw [if_pos hj]
def PartsHead (w : World) (zs : List (Int × Int)) (g1 g2 : Nat) (i : Value) (W : World) : Prop :=
  ∃ k : Nat, k ≤ zs.length ∧ i = .int .i64 k ∧ Below w.heap.size w W ∧ Arr W g1 zs.length (upto (fsts zs) k) ∧ Arr W g2 zs.length (upto (snds zs) k)
theorem parts_start (w : World) (zs : List (Int × Int)) (t : TypeId) : Below w.heap.size w ((w.alloc (.cells (madeCells #[.int .u64 0] zs.length) t)).alloc (.cells (madeCells #[.int .u64 0] zs.length) t)).drew ∧
    (∀ xs, Arr ((w.alloc (.cells (madeCells #[.int .u64 0] zs.length) t)).alloc (.cells (madeCells #[.int .u64 0] zs.length) t)).drew w.heap.size zs.length (upto xs 0)) ∧
    (∀ xs, Arr ((w.alloc (.cells (madeCells #[.int .u64 0] zs.length) t)).alloc (.cells (madeCells #[.int .u64 0] zs.length) t)).drew (w.heap.size + 1) zs.length (upto xs 0)) := by
  have h1 := (Arr.new w #[.int .u64 0] zs.length t).alloc (.cells (madeCells #[.int .u64 0] zs.length) t)
  have h2 := Arr.new (w.alloc (.cells (madeCells #[.int .u64 0] zs.length) t)) #[.int .u64 0] zs.length t
  rw [show (w.alloc (.cells (madeCells #[.int .u64 0] zs.length) t)).heap.size = w.heap.size + 1 by simp] at h2
  exact ⟨(((Below.refl _ _).alloc (Nat.le_refl _) _).alloc (by simp) _).drew, fun xs => h1.same (fun j hj => by simp [upto, Nat.mod_one]), fun xs => h2.same (fun j hj => by simp [upto, Nat.mod_one])⟩

set_option maxHeartbeats 4000000 in
theorem refparts_any (a : Option Addr) (len cap : Nat) (zs : List (Int × Int)) (w : World) (hr : QRowA w a len zs) (hl : len ≤ 4294967296) :
    Calls Tryz.prog 48 #[.slice a len cap] w (NewTwo w len (fsts zs) (snds zs)) := by
  have hmk := fun W => run_make_row' (P := Tryz.prog) 77 29 (.int .u64 0) 8 Tryz.underlying77 info64' rfl .i64 .i64 len (by omega) (by omega) W
  obtain ⟨rfl, hlm, hcell⟩ := hr
  have HC := Lib.hid hcell; have HM := Lib.hid hlm
  have HF := Lib.hid (fsts_at zs); have HS := Lib.hid (snds_at zs)
  clear hcell hlm
  go_enter Tryz.func48, Tryz.ntmps48
  go_upto_region 1 with fail
  go_region
  all_goals
    go_upto_region 3 with fail
    first
      | (go_loopw [6] (PartsHead w zs w.heap.size (w.heap.size + 1)) (fun i _ => zs.length - (intOf i).toNat)
         case atStart => exact ⟨0, Nat.zero_le _, rfl, (parts_start w zs _).1, (parts_start w zs _).2.1 _, (parts_start w zs _).2.2 _⟩
         case round =>
           obtain ⟨k, hk, rfl, hB, hA1, hA2⟩ := hrel
           by_cases hlt : k < zs.length
           · obtain ⟨b, off, rfl, c0, c1⟩ := HC.out k hlt
             replace c0 := bkeep hB c0
             replace c1 := bkeep hB c1
             obtain ⟨p0, q0⟩ := hA1 k hlt
             obtain ⟨p1, q1⟩ := hA2 k hlt
             have S1 := Lib.hid (upto_step (fsts zs) k zs.length (HF.out k hlt))
             have S2 := Lib.hid (upto_step (snds zs) k zs.length (HS.out k hlt))
             have H1 := Lib.hid hA1; have H2 := Lib.hid hA2; have HB := Lib.hid hB
             clear hA1 hA2 hB
             generalize (zs.getD k (0, 0)).1 = z at *
             generalize (zs.getD k (0, 0)).2 = z' at *
             have hlt' : (k : Int) < (zs.length : Int) := by omega
             go_upto_region 5 with fail
             go_region
             all_goals
               go_wp2
               go_roundw
               case rel =>
                 refine ⟨k + 1, by omega, by go_num, ?_, ?_, ?_⟩
                 · first | exact ((HB.out.setCell (show w.heap.size ≤ w.heap.size by omega) _).setCell (show w.heap.size ≤ (w.heap.size + 1) by omega) _).drew | exact ((HB.out.setCell (show w.heap.size ≤ (w.heap.size + 1) by omega) _).setCell (show w.heap.size ≤ w.heap.size by omega) _).drew
                 · first | exact ((H1.out.set k (.int .u64 z) hlt).far (show (w.heap.size + 1) ≠ w.heap.size by omega) k (.int .u64 z')).same S1.out | exact ((H1.out.far (show (w.heap.size + 1) ≠ w.heap.size by omega) k (.int .u64 z')).set k (.int .u64 z) hlt).same S1.out
                 · first | exact ((H2.out.set k (.int .u64 z') hlt).far (show w.heap.size ≠ (w.heap.size + 1) by omega) k (.int .u64 z)).same S2.out | exact ((H2.out.far (show w.heap.size ≠ (w.heap.size + 1) by omega) k (.int .u64 z)).set k (.int .u64 z') hlt).same S2.out
               case measure => simp [intOf]; omega
           · obtain rfl : k = zs.length := by omega
             have R1 := Lib.hid (Arr.row (hA1.same (upto_all (fsts zs) _ (fsts_len zs))) (fsts_len zs) HM.out)
             have R2 := Lib.hid (Arr.row (hA2.same (upto_all (snds zs) _ (snds_len zs))) (snds_len zs) HM.out)
             clear hA1 hA2 hlt
             go_wp2
             exact bodyPost_ret (v := .tuple #[.slice (some ⟨w.heap.size, 0, none⟩) zs.length zs.length, .slice (some ⟨(w.heap.size + 1), 0, none⟩) zs.length zs.length]) (by simp [results, Tryz.results48, go_sem]) rfl ⟨_, _, _, _, rfl, hB, R1.out, R2.out⟩)
      | (go_loopw [6] (PartsHead w zs (w.heap.size + 1) w.heap.size) (fun i _ => zs.length - (intOf i).toNat)
         case atStart => exact ⟨0, Nat.zero_le _, rfl, (parts_start w zs _).1, (parts_start w zs _).2.2 _, (parts_start w zs _).2.1 _⟩
         case round =>
           obtain ⟨k, hk, rfl, hB, hA1, hA2⟩ := hrel
           by_cases hlt : k < zs.length
           · obtain ⟨b, off, rfl, c0, c1⟩ := HC.out k hlt
             replace c0 := bkeep hB c0
             replace c1 := bkeep hB c1
             obtain ⟨p0, q0⟩ := hA1 k hlt
             obtain ⟨p1, q1⟩ := hA2 k hlt
             have S1 := Lib.hid (upto_step (fsts zs) k zs.length (HF.out k hlt))
             have S2 := Lib.hid (upto_step (snds zs) k zs.length (HS.out k hlt))
             have H1 := Lib.hid hA1; have H2 := Lib.hid hA2; have HB := Lib.hid hB
             clear hA1 hA2 hB
             generalize (zs.getD k (0, 0)).1 = z at *
             generalize (zs.getD k (0, 0)).2 = z' at *
             have hlt' : (k : Int) < (zs.length : Int) := by omega
             go_upto_region 5 with fail
             go_region
             all_goals
               go_wp2
               go_roundw
               case rel =>
                 refine ⟨k + 1, by omega, by go_num, ?_, ?_, ?_⟩
                 · first | exact ((HB.out.setCell (show w.heap.size ≤ (w.heap.size + 1) by omega) _).setCell (show w.heap.size ≤ w.heap.size by omega) _).drew | exact ((HB.out.setCell (show w.heap.size ≤ w.heap.size by omega) _).setCell (show w.heap.size ≤ (w.heap.size + 1) by omega) _).drew
                 · first | exact ((H1.out.set k (.int .u64 z) hlt).far (show w.heap.size ≠ (w.heap.size + 1) by omega) k (.int .u64 z')).same S1.out | exact ((H1.out.far (show w.heap.size ≠ (w.heap.size + 1) by omega) k (.int .u64 z')).set k (.int .u64 z) hlt).same S1.out
                 · first | exact ((H2.out.set k (.int .u64 z') hlt).far (show (w.heap.size + 1) ≠ w.heap.size by omega) k (.int .u64 z)).same S2.out | exact ((H2.out.far (show (w.heap.size + 1) ≠ w.heap.size by omega) k (.int .u64 z)).set k (.int .u64 z') hlt).same S2.out
               case measure => simp [intOf]; omega
           · obtain rfl : k = zs.length := by omega
             have R1 := Lib.hid (Arr.row (hA1.same (upto_all (fsts zs) _ (fsts_len zs))) (fsts_len zs) HM.out)
             have R2 := Lib.hid (Arr.row (hA2.same (upto_all (snds zs) _ (snds_len zs))) (snds_len zs) HM.out)
             clear hA1 hA2 hlt
             go_wp2
             exact bodyPost_ret (v := .tuple #[.slice (some ⟨(w.heap.size + 1), 0, none⟩) zs.length zs.length, .slice (some ⟨w.heap.size, 0, none⟩) zs.length zs.length]) (by simp [results, Tryz.results48, go_sem]) rfl ⟨_, _, _, _, rfl, hB, R1.out, R2.out⟩)

/-- Two rows of numbers as one of pairs. -/
def joinL (xs ys : List Int) : List (Int × Int) := (List.range xs.length).map fun i => encP (toQ (xs.getD i 0, ys.getD i 0))
theorem joinL_len (xs ys : List Int) : (joinL xs ys).length = xs.length := by simp [joinL]
theorem joinL_at (xs ys : List Int) (k : Nat) (h : k < xs.length) : (joinL xs ys).getD k (0, 0) = encP (toQ (xs.getD k 0, ys.getD k 0)) := by simp [joinL, List.getD, h]
theorem joinL_U (xs ys : List Int) : ∀ n ∈ joinL xs ys, U n.1 ∧ U n.2 := by
  intro n hn
  simp only [joinL, List.mem_map] at hn
  obtain ⟨z, _, rfl⟩ := hn
  exact ⟨enc_U _, enc_U _⟩
theorem infoQ' : (Tryz.prog.info? 31).map (fun i => (i.zero, i.size, i.bytes)) = some (some (.agg #[.int .u64 0, .int .u64 0]), 2, 16) := by kernel_rfl
def uptoq (zs : List (Int × Int)) (k i : Nat) : Int × Int := if i < k then zs.getD i (0, 0) else (0, 0)
theorem uptoq_step (zs : List (Int × Int)) (k : Nat) {p q : Int} (h : zs.getD k (0, 0) = (p, q)) : ∀ i : Nat, (if i = k then (p, q) else uptoq zs k i) = uptoq zs (k + 1) i := by
  intro i
  unfold uptoq
  by_cases e : i = k
  · subst e; rw [if_pos rfl, if_pos (by omega), h]
  · rw [if_neg e]
    by_cases h2 : i < k
    · rw [if_pos h2, if_pos (by omega)]
    · rw [if_neg h2, if_neg (by omega)]
theorem uptoq_all (zs : List (Int × Int)) (n : Nat) : ∀ i, i < n → uptoq zs n i = zs.getD i (0, 0) := by
  intro i hi; unfold uptoq; rw [if_pos hi]
def JoinHead (w : World) (n g : Nat) (zs : List (Int × Int)) (i : Value) (W : World) : Prop :=
  ∃ k : Nat, k ≤ n ∧ i = .int .i64 k ∧ Below w.heap.size w W ∧ Arr W g (n * 2) (pc (uptoq zs k))
def JoinR (g n k b1 o1 c1 b2 o2 c2 : Nat) (x y p q : Int) (sl : Nat) (v : Value) (W : World) : Prop :=
  match sl with
  | 16 => v = .slice (some ⟨g, 0, none⟩) n n
  | 17 => v = .int .i64 k
  | 18 => v = .slice (some ⟨b1, o1, none⟩) n c1
  | 19 => v = .int .i64 k
  | 20 => v = .pointer (some ⟨b1, o1 + k, none⟩)
  | 21 => v = .int .u64 x
  | 22 => v = .slice (some ⟨b2, o2, none⟩) n c2
  | 23 => v = .int .i64 k
  | 24 => v = .pointer (some ⟨b2, o2 + k, none⟩)
  | 25 => v = .int .u64 y
  | 26 => v = .agg #[.int .u64 x, .int .u64 y]
  | 27 => v = .agg #[.int .u64 0, .int .u64 0]
  | 28 => v = .agg #[.int .u64 p, .int .u64 q]
  | _ => v = .pointer (some ⟨g, k * 2, none⟩)
theorem JoinR.keep {g n k b1 o1 c1 b2 o2 c2 : Nat} {x y p q : Int} {sl : Nat} {v : Value} {W W' : World} (h : JoinR g n k b1 o1 c1 b2 o2 c2 x y p q sl v W) (hb : Below W.heap.size W W') : JoinR g n k b1 o1 c1 b2 o2 c2 x y p q sl v W' := h

/-- What pairs come to at the points, and back. -/
def forthQ (zs : List (Int × Int)) (s : F) (k : Nat) : List (Int × Int) := joinL (forthL (fsts zs) s k) (forthL (snds zs) s k)
theorem forthQ_len (zs : List (Int × Int)) (s : F) (k : Nat) : (forthQ zs s k).length = 2 ^ k := by unfold forthQ; rw [joinL_len, forthL_len]
end Go.Proofs.YthfkfgjhgicfeaaGreatDoor
namespace Go.Proofs.YthfkfgjhgicfeaaGreatDoor
open Go.RowKit
set_option linter.unusedVariables false

def okF (len : Nat) (k : Int) : Prop := 0 ≤ k ∧ k ≤ 20 ∧ len ≤ 2 ^ k.toNat
instance (len : Nat) (k : Int) : Decidable (okF len k) := by unfold okF; exact inferInstance
def okB (len : Nat) (s : F) : Prop := 0 ≤ lg len ∧ lg len ≤ 20 ∧ s ≠ 0
instance (len : Nat) (s : F) : Decidable (okB len s) := by unfold okB; exact inferInstance
/-! What is asked of the program's calls. -/
/-! What follows of them at one world. -/
end Go.Proofs.YthfkfgjhgicfeaaGreatDoor
