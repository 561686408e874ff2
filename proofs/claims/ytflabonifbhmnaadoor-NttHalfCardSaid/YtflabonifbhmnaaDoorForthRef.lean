/-
  What the document's Forth of layer 4 comes to: contracts for the walk. (Written by gen_forthref.py.)
-/
import Derived.Test.YtflabonifbhmnaaDoorPtsRef
import Derived.Test.YtflabonifbhmnaaDoorLoose
import Derived.Deep.DeepCutAuto
namespace Go.Proofs.YtflabonifbhmnaaDoor
open Go.RowKit Go.Sort Go.BigFrame
set_option linter.unusedVariables false

theorem same_below {f : FuncId} {args : Array Value} {v : Value} {w : World} (h : Calls Tryd.prog f args w fun e w' => e = .returned v ∧ w = w') : Calls Tryd.prog f args w fun e w' => e = .returned v ∧ Below w.heap.size w w' :=
  h.mono fun _ _ ⟨he, hn⟩ => ⟨he, hn ▸ Below.refl _ _⟩
/-- What coefficients come to at the points. -/
def forthL (zs : List Int) (s : F) (k : Nat) : List Int := (List.range (2 ^ k)).map fun i => enc (ev zs.length (co zs) (pt s k i))
theorem forthL_len (zs : List Int) (s : F) (k : Nat) : (forthL zs s k).length = 2 ^ k := by simp [forthL]
theorem forthL_at (zs : List Int) (s : F) (k i : Nat) (h : i < 2 ^ k) : (forthL zs s k).getD i 0 = enc (ev zs.length (co zs) (pt s k i)) := by simp [forthL, List.getD, h]
theorem forthL_U (zs : List Int) (s : F) (k : Nat) : ∀ n ∈ forthL zs s k, U n := by
  intro n hn
  simp only [forthL, List.mem_map] at hn
  obtain ⟨z, _, rfl⟩ := hn
  exact enc_U _

/-- The row while the i-th one is under way, down to the j-th coefficient. -/
def fin (zs : List Int) (s : F) (k i j : Nat) (m : Nat) : Int := if m < i then (forthL zs s k).getD m 0 else if m = i then enc (ho zs.length (co zs) (pt s k i) j) else 0
def FOuter (w : World) (zs : List Int) (s : F) (k g : Nat) (i : Value) (W : World) : Prop :=
  ∃ m : Nat, m ≤ 2 ^ k ∧ i = .int .i64 m ∧ Below w.heap.size w W ∧ Arr W g (2 ^ k) (fun j => .int .u64 (if j < m then (forthL zs s k).getD j 0 else 0))
def FInner (w : World) (zs : List Int) (s : F) (k g m : Nat) (j : Value) (W : World) : Prop :=
  ∃ r : Nat, r ≤ zs.length ∧ j = .int .i64 ((r : Int) - 1) ∧ Below w.heap.size w W ∧ Arr W g (2 ^ k) (fun j => .int .u64 (fin zs s k m r j))
theorem fin_start (zs : List Int) (s : F) (k m : Nat) : ∀ j, j < 2 ^ k → (Value.int .u64 (if j < m then (forthL zs s k).getD j 0 else 0)) = .int .u64 (fin zs s k m zs.length j) := by
  intro j hj
  unfold fin
  by_cases h : j < m
  · rw [if_pos h, if_pos h]
  · rw [if_neg h, if_neg h, ho_end]
    by_cases e : j = m
    · rw [if_pos e]; rfl
    · rw [if_neg e]
theorem fin_end (zs : List Int) (s : F) (k m : Nat) : ∀ j, j < 2 ^ k → Value.int .u64 (fin zs s k m 0 j) = .int .u64 (if j < m + 1 then (forthL zs s k).getD j 0 else 0) := by
  intro j hj
  unfold fin
  by_cases h : j < m
  · rw [if_pos h, if_pos (by omega)]
  · rw [if_neg h]
    by_cases e : j = m
    · subst e; rw [if_pos rfl, if_pos (by omega), ho_zero, forthL_at zs s k j hj]
    · rw [if_neg e, if_neg (by omega)]
theorem fin_step {zs : List Int} {s : F} {k m r : Nat} {y : Int} (hy : enc (ho zs.length (co zs) (pt s k m) r) = y) : ∀ j, j < 2 ^ k → (if j = m then Value.int .u64 y else .int .u64 (fin zs s k m (r + 1) j)) = .int .u64 (fin zs s k m r j) := by
  intro j hj
  unfold fin
  by_cases e : j = m
  · subst e; rw [if_pos rfl, if_neg (by omega), if_pos rfl, hy]
  · rw [if_neg e]
    by_cases h : j < m
    · rw [if_pos h, if_pos h]
    · rw [if_neg h, if_neg e, if_neg h, if_neg e]
theorem fin_at (zs : List Int) (s : F) (k m r : Nat) : fin zs s k m r m = enc (ho zs.length (co zs) (pt s k m) r) := by unfold fin; rw [if_neg (by omega), if_pos rfl]

/-- What the slots of the drawn region hold. -/
def ForthR (g n i bp op cp b off len cap j : Nat) (y x t z y' : Int) (sl : Nat) (v : Value) (W : World) : Prop :=
  match sl with
  | 45 => v = .slice (some ⟨g, 0, none⟩) n n
  | 46 => v = .int .i64 i
  | 47 => v = .slice (some ⟨g, 0, none⟩) n n
  | 48 => v = .int .i64 i
  | 49 => v = .pointer (some ⟨g, i, none⟩)
  | 50 => v = .int .u64 y
  | 51 => v = .slice (some ⟨bp, op, none⟩) n cp
  | 52 => v = .int .i64 i
  | 53 => v = .pointer (some ⟨bp, op + i, none⟩)
  | 54 => v = .int .u64 x
  | 55 => v = .int .u64 t
  | 56 => v = .slice (some ⟨b, off, none⟩) len cap
  | 57 => v = .int .i64 j
  | 58 => v = .pointer (some ⟨b, off + j, none⟩)
  | 59 => v = .int .u64 z
  | 60 => v = .int .u64 y'
  | _ => v = .pointer (some ⟨g, i, none⟩)
theorem ForthR.keep {g n i bp op cp b off len cap j : Nat} {y x t z y' : Int} {sl : Nat} {v : Value} {W W' : World} (h : ForthR g n i bp op cp b off len cap j y x t z y' sl v W) (hb : Below W.heap.size W W') : ForthR g n i bp op cp b off len cap j y x t z y' sl v W' := h

/-- A slice of numbers that the call itself made, beside OK. -/
def NewOk (w : World) (n : Nat) (zs : List Int) (e : Ending) (w' : World) : Prop := ∃ a c, e = .returned (.tuple #[.slice a n c, .int .i64 0]) ∧ Below w.heap.size w w' ∧ Row w' (.slice a n c) zs

set_option maxHeartbeats 4000000 in
theorem refforth_yes (a : Option Addr) (len cap : Nat) (zs : List Int) (zi : Int) (hz : U zi) (s : F) (hs : toF zi = s) (k : Nat) (hk : k ≤ 20) (w : World) (hr : RowA w a len zs) (hu : ∀ n ∈ zs, U n) (hl : len ≤ 2 ^ k) :
    Calls Tryd.prog 11 #[.slice a len cap, .int .u64 zi, .int .i64 k] w (NewOk w (2 ^ k) (forthL zs s k)) := by
  have p1 := refpoints_any zi hz s hs k hk
  have hmk := fun W => run_make_row' (P := Tryd.prog) 22 23 (.int .u64 0) 8 Tryd.underlying22 info64' rfl .i64 .i64 (2 ^ k) (by have : 2 ^ k ≤ 2 ^ 20 := Nat.pow_le_pow_right (by decide) hk; omega) (by have : 2 ^ k ≤ 2 ^ 20 := Nat.pow_le_pow_right (by decide) hk; omega) W
  have w1' := wrap64_pow k (by omega)
  have P2 : 2 ^ k ≤ 2 ^ 20 := Nat.pow_le_pow_right (by decide) hk
  have HR := Lib.hid hr
  have HU := Lib.hid (U_getD hu)
  obtain ⟨rfl, hlm, _⟩ := hr
  unfold maxLen at hlm
  obtain ⟨n, hn⟩ : ∃ n, 2 ^ k = n := ⟨_, rfl⟩
  have HN := Lib.hid hn
  unfold NewRow at p1
  rw [hn] at w1' P2 hl hmk
  rw [hn] at p1
  clear hs hz hn hu
  have hl' : (zs.length : Int) ≤ (n : Int) := by omega
  go_enter Tryd.func11, Tryd.ntmps11
  go_upto_region 4 with ((go_at_call 16; ((with_reducible refine (p1 _).mono ?_); rintro e w1 ⟨ap, cp, rfl, hB, hP⟩)))
  clear p1 w1'
  have HPR := Lib.hid hP.at
  go_upto_region 6 with fail
  go_loopw [10] (FOuter w1 zs s k w1.heap.size) (fun i _ => n - (intOf i).toNat)
  case atStart => exact ⟨0, Nat.zero_le _, rfl, (Below.refl _ _).alloc (Nat.le_refl _) _, by rw [HN.out]; exact (Arr.new w1 _ _ _).same (fun j hj => by simp [Nat.mod_one])⟩
  case round =>
    obtain ⟨i, hi, rfl, hW, hA⟩ := hrel
    rw [HN.out] at hi hA
    by_cases hlt : i < n
    · have hlt' : (i : Int) < (n : Int) := by omega
      go_upto_region 9 with fail
      go_loopw [11] (FInner w1 zs s k w1.heap.size i) (fun j _ => (intOf j + 1).toNat)
      case atStart => exact ⟨zs.length, Nat.le_refl _, rfl, hW, by rw [HN.out]; exact hA.same (by rw [← HN.out]; exact fin_start zs s k i)⟩
      case round =>
        clear hW hA
        obtain ⟨r, hr, rfl, hW, hA⟩ := hrel
        rw [HN.out] at hA
        cases r with
        | zero =>
          rw [show ((0 : Nat) : Int) - 1 = -1 from rfl]
          have HW := Lib.hid hW; have HA := Lib.hid hA
          clear hW hA
          go_wp2
          go_roundw
          case rel => exact ⟨i + 1, by rw [HN.out]; omega, by go_num, HW.out, by rw [HN.out]; exact HA.out.same (by rw [← HN.out]; exact fin_end zs s k i)⟩
          case measure => simp [intOf]; omega
        | succ j =>
          rw [show ((j + 1 : Nat) : Int) - 1 = (j : Int) by omega]
          obtain ⟨b, off, rfl, g00⟩ := (HR.out.keep hB).2.2 j (by omega)
          have g0 := bkeep hW g00
          obtain ⟨bp, op, rfl, p00⟩ := HPR.out.2.2 i hlt
          have p0 := bkeep hW p00
          rw [pts_at s k i (by rw [HN.out]; exact hlt)] at p0
          clear g00 p00
          have gU := HU.out j (by omega)
          have f0 := (hA i hlt).2
          have c0 := (hA i hlt).1
          dsimp only at c0
          rw [show fin zs s k i (j + 1) i = enc (ho zs.length (co zs) (pt s k i) (j + 1)) from fin_at zs s k i (j + 1)] at c0
          have m1 := fun W => ref_below (refmul_any (enc (ho zs.length (co zs) (pt s k i) (j + 1))) (enc (pt s k i)) (enc_U _) (enc_U _) W)
          have a1 := fun W => same_below (refadd_any (enc (ho zs.length (co zs) (pt s k i) (j + 1) * pt s k i)) (zs.getD j 0) (enc_U _) gU W)
          simp only [toF_enc] at m1 a1
          rw [show ho zs.length (co zs) (pt s k i) (j + 1) * pt s k i + toF (zs.getD j 0) = ho zs.length (co zs) (pt s k i) j from (ho_step _ _ _ j (by omega)).symm] at a1
          obtain ⟨y', hy⟩ : ∃ v, enc (ho zs.length (co zs) (pt s k i) j) = v := ⟨_, rfl⟩
          rw [hy] at a1
          have HF := Lib.hid hA
          have HS : Hid (∀ m, m < 2 ^ k → (if m = i then Value.int .u64 y' else .int .u64 (fin zs s k i (j + 1) m)) = .int .u64 (fin zs s k i j m)) := Lib.hid (fin_step hy)
          have HW := Lib.hid hW
          clear hA hW gU hy
          generalize enc (ho zs.length (co zs) (pt s k i) (j + 1) * pt s k i) = t at *
          generalize enc (ho zs.length (co zs) (pt s k i) (j + 1)) = y at *
          generalize enc (pt s k i) = x at *
          generalize zs.getD j 0 = z at *
          have hj1 : (j : Int) < (zs.length : Int) := by omega
          have hj0 : (0 : Int) ≤ (j : Int) := by omega
          have hi0 : (0 : Int) ≤ (i : Int) := by omega
          go_upto_region 11 with fail
          refine wp_loose [(45, []), (46, []), (47, []), (48, []), (49, [47, 48]), (50, [49]), (51, []), (52, []), (53, [51, 52]), (54, [53]), (55, [50, 54]), (56, []), (57, []), (58, [56, 57]), (59, [58]), (60, [55, 59]), (61, [45, 46])]
            (ForthR w1.heap.size n i bp op cp b off zs.length cap j y x t z y') (fun d => false) (by kernel_rfl) (by kernel_rfl) (fun _ _ _ _ h hb => h.keep hb) ?_ ?_
          · refine opsrun_cons ?_ (opsrun_cons ?_ (opsrun_cons ?_ (opsrun_cons ?_ (opsrun_cons ?_ (opsrun_cons ?_ (opsrun_cons ?_ (opsrun_cons ?_ (opsrun_cons ?_ (opsrun_cons ?_ (opsrun_cons ?_ (opsrun_cons ?_ (opsrun_cons ?_ (opsrun_cons ?_ (opsrun_cons ?_ (opsrun_cons ?_ (opsrun_cons ?_ opsrun_nil))))))))))))))))
            all_goals
              refine OpRuns.any ?_
              intro Q0 σ W' K hb hn hK
              simp only [fill, List.map, Act.put, List.setIfInBounds_toArray, List.set_cons_zero, List.set_cons_succ] at hK ⊢
            · clear hn
              go_simp
              exact hK _ _ rfl (Below.refl _ _) (fun h => absurd h (by decide))
            · clear hn
              go_simp
              exact hK _ _ rfl (Below.refl _ _) (fun h => absurd h (by decide))
            · clear hn
              go_simp
              exact hK _ _ rfl (Below.refl _ _) (fun h => absurd h (by decide))
            · clear hn
              go_simp
              exact hK _ _ rfl (Below.refl _ _) (fun h => absurd h (by decide))
            · have h47 : σ 47 = _ := hn 47 (by decide)
              have h48 : σ 48 = _ := hn 48 (by decide)
              clear hn
              simp only [h47, h48] at hK
              go_simp
              exact hK _ _ rfl (Below.refl _ _) (fun h => absurd h (by decide))
            · have h49 : σ 49 = _ := hn 49 (by decide)
              clear hn
              simp only [h49] at hK
              have c0' := bkeep hb c0
              clear c0
              go_simp
              exact hK _ _ rfl (Below.refl _ _) (fun h => absurd h (by decide))
            · clear hn
              go_simp
              exact hK _ _ rfl (Below.refl _ _) (fun h => absurd h (by decide))
            · clear hn
              go_simp
              exact hK _ _ rfl (Below.refl _ _) (fun h => absurd h (by decide))
            · have h51 : σ 51 = _ := hn 51 (by decide)
              have h52 : σ 52 = _ := hn 52 (by decide)
              clear hn
              simp only [h51, h52] at hK
              go_simp
              exact hK _ _ rfl (Below.refl _ _) (fun h => absurd h (by decide))
            · have h53 : σ 53 = _ := hn 53 (by decide)
              clear hn
              simp only [h53] at hK
              have p0' := bkeep hb p0
              clear p0
              go_simp
              exact hK _ _ rfl (Below.refl _ _) (fun h => absurd h (by decide))
            · have h50 : σ 50 = _ := hn 50 (by decide)
              have h54 : σ 54 = _ := hn 54 (by decide)
              clear hn
              simp only [h50, h54] at hK
              go_simp
              go_at_call 23
              refine (m1 _).mono ?_
              rintro e w1 ⟨rfl, hb1⟩
              exact hK _ _ rfl hb1 (fun h => absurd h (by decide))
            · clear hn
              go_simp
              exact hK _ _ rfl (Below.refl _ _) (fun h => absurd h (by decide))
            · clear hn
              go_simp
              exact hK _ _ rfl (Below.refl _ _) (fun h => absurd h (by decide))
            · have h56 : σ 56 = _ := hn 56 (by decide)
              have h57 : σ 57 = _ := hn 57 (by decide)
              clear hn
              simp only [h56, h57] at hK
              go_simp
              exact hK _ _ rfl (Below.refl _ _) (fun h => absurd h (by decide))
            · have h58 : σ 58 = _ := hn 58 (by decide)
              clear hn
              simp only [h58] at hK
              have g0' := bkeep hb g0
              clear g0
              go_simp
              exact hK _ _ rfl (Below.refl _ _) (fun h => absurd h (by decide))
            · have h55 : σ 55 = _ := hn 55 (by decide)
              have h59 : σ 59 = _ := hn 59 (by decide)
              clear hn
              simp only [h55, h59] at hK
              go_simp
              go_at_call 22
              refine (a1 _).mono ?_
              rintro e w1 ⟨rfl, hb1⟩
              exact hK _ _ rfl hb1 (fun h => absurd h (by decide))
            · have h45 : σ 45 = _ := hn 45 (by decide)
              have h46 : σ 46 = _ := hn 46 (by decide)
              clear hn
              simp only [h45, h46] at hK
              go_simp
              exact hK _ _ rfl (Below.refl _ _) (fun h => absurd h (by decide))
          · intro σ W' hb hR' hF
            have h60 : σ 60 = _ := hR' 60 (by decide)
            have h61 : σ 61 = _ := hR' 61 (by decide)
            have c0' := bkeep hb c0
            have f0' := bfree hb c0 f0
            have HB2 := Lib.hid (bthen HW.out hb)
            have HA2 := Lib.hid hb
            clear hR' hF c0 f0 p0 g0 m1 a1 hb
            simp only [fill, List.map, Act.put, List.setIfInBounds_toArray, List.set_cons_zero, List.set_cons_succ, List.length_cons, List.length_nil, List.drop_succ_cons, List.drop_zero, Nat.reduceAdd, h60, h61]
            clear h60 h61
            go_wp2
            go_roundw
            case rel => exact ⟨j, by omega, rfl, HB2.out.setCell (by simp) _, by rw [HN.out]; exact ((HF.out.keep HA2.out).set i _ hlt).same (by rw [← HN.out]; exact HS.out)⟩
            case measure => simp [intOf]
    · obtain rfl : i = n := by omega
      have hrow := Arr.row (hA.same (fun j hj => by rw [if_pos hj])) (by rw [forthL_len]; exact HN.out) (by unfold maxLen; omega)
      replace hB := bthen hB hW
      clear hA hW hlt
      go_wp2
      exact bodyPost_ret (v := .tuple #[.slice (some ⟨w1.heap.size, 0, none⟩) i i, .int .i64 0]) (by simp [results, Tryd.results11, go_sem]) rfl ⟨_, _, by rw [HN.out], hB, by rw [HN.out]; exact hrow⟩

/-- An error, and no slice. -/
def ErrArg (w : World) (e : Ending) (w' : World) : Prop := e = .returned (.tuple #[.slice none 0 0, .int .i64 1]) ∧ Below w.heap.size w w'
theorem refforth_no (a : Option Addr) (len cap : Nat) (zi k : Int) (hlm : len ≤ maxLen) (w : World) (h : ¬ (0 ≤ k ∧ k ≤ 20 ∧ len ≤ 2 ^ k.toNat)) :
    Calls Tryd.prog 11 #[.slice a len cap, .int .u64 zi, .int .i64 k] w (ErrArg w) := by
  unfold maxLen at hlm
  have hB := Below.refl w.heap.size w
  by_cases h1 : k < 0
  · clear h
    go_enter Tryd.func11, Tryd.ntmps11
    go_wp2
    exact bodyPost_ret (v := .tuple #[.slice none 0 0, .int .i64 1]) (by simp [results, Tryd.results11, go_sem]) rfl ⟨rfl, hB⟩
  · by_cases h2 : 20 < k
    · clear h
      go_enter Tryd.func11, Tryd.ntmps11
      go_wp2
      exact bodyPost_ret (v := .tuple #[.slice none 0 0, .int .i64 1]) (by simp [results, Tryd.results11, go_sem]) rfl ⟨rfl, hB⟩
    · obtain ⟨m, rfl⟩ := Int.eq_ofNat_of_zero_le (by omega : 0 ≤ k)
      have w1 := wrap64_pow m (by omega)
      have h3 : 2 ^ m < len := by
        refine Nat.lt_of_not_le fun hh => h ⟨by omega, by omega, ?_⟩
        rw [Int.toNat_natCast]; exact hh
      have h4 : ((2 ^ m : Nat) : Int) < (len : Int) := by omega
      have hm : (m : Int) ≤ 20 := by omega
      clear h h1 h2 h3
      generalize ((2 ^ m : Nat) : Int) = P at *
      go_enter Tryd.func11, Tryd.ntmps11
      go_wp2
      exact bodyPost_ret (v := .tuple #[.slice none 0 0, .int .i64 1]) (by simp [results, Tryd.results11, go_sem]) rfl ⟨rfl, hB⟩
end Go.Proofs.YtflabonifbhmnaaDoor
