/-
  What root.Invert comes to: contracts for the walk.
-/
import Derived.Test.YtbhnbpagjmeffaaDoorRootRef
import Derived.Test.YtbhnbpagjmeffaaDoorArr
namespace Go.Proofs.YtbhnbpagjmeffaaDoor
open Go.RowKit
set_option linter.unusedVariables false

/-- The product of the first k of a row. -/
def pre (zs : List Int) (k : Nat) : F := fprod (heads zs k)
theorem pre_zero (zs : List Int) : pre zs 0 = 1 := by unfold pre; rw [heads_zero]; rfl
theorem pre_succ (zs : List Int) (k : Nat) (h : k < zs.length) : pre zs (k + 1) = pre zs k * toF (zs.getD k 0) := by
  unfold pre; rw [heads_succ zs k h, fprod_append]; simp only [fprod]; grind
def Nil0 (zs : List Int) : Prop := ∀ k, k < zs.length → toF (zs.getD k 0) ≠ 0
theorem pre_ne {zs : List Int} (h : Nil0 zs) : ∀ k, k ≤ zs.length → pre zs k ≠ 0
  | 0, _ => by rw [pre_zero]; decide
  | k + 1, hk => by rw [pre_succ zs k hk]; exact mul_ne_zero (pre_ne h k (by omega)) (h k hk)
theorem pre_eq0 {zs : List Int} (h : ¬ Nil0 zs) : pre zs zs.length = 0 := by
  simp only [Nil0, Classical.not_forall] at h
  obtain ⟨j, hj, hz⟩ := h
  have hz0 : toF (zs.getD j 0) = 0 := Classical.byContradiction hz
  have : ∀ k, j < k → k ≤ zs.length → pre zs k = 0 := by
    intro k
    induction k with
    | zero => intro h; omega
    | succ k ih =>
      intro h1 h2
      rw [pre_succ zs k h2]
      by_cases e : j = k
      · subst e; rw [hz0]; grind
      · rw [ih (by omega) (by omega)]; grind
  exact this _ hj (Nat.le_refl _)
theorem F_comm (x y : F) : x * y = y * x := by grind
theorem F_assoc (x y z : F) : x * y * z = x * (y * z) := by grind
theorem F_left (x y z : F) : x * (y * z) = y * (x * z) := by grind
theorem pre_back {zs : List Int} (h : Nil0 zs) (k : Nat) (hk : k < zs.length) : pre zs k * finv (pre zs (k + 1)) = finv (toF (zs.getD k 0)) ∧ finv (pre zs (k + 1)) * toF (zs.getD k 0) = finv (pre zs k) := by
  have h1 := mul_finv _ (pre_ne h (k + 1) hk)
  rw [pre_succ zs k hk] at h1 ⊢
  have b1 : toF (zs.getD k 0) * (pre zs k * finv (pre zs k * toF (zs.getD k 0))) = 1 := by
    generalize finv (pre zs k * toF (zs.getD k 0)) = y at *
    generalize pre zs k = p at *
    generalize toF (zs.getD k 0) = z at *
    rw [← h1, F_left, F_assoc]
  have b2 : pre zs k * (finv (pre zs k * toF (zs.getD k 0)) * toF (zs.getD k 0)) = 1 := by
    generalize finv (pre zs k * toF (zs.getD k 0)) = y at *
    generalize pre zs k = p at *
    generalize toF (zs.getD k 0) = z at *
    rw [← h1, F_comm y, F_assoc]
  exact ⟨finv_unique _ _ b1, finv_unique _ _ b2⟩

/-- What gives 1 with each. -/
def invs (zs : List Int) : List Int := zs.map fun z => enc (finv (toF z))
theorem invs_len (zs : List Int) : (invs zs).length = zs.length := by simp [invs]
theorem invs_at (zs : List Int) (k : Nat) (h : k < zs.length) : (invs zs).getD k 0 = enc (finv (toF (zs.getD k 0))) := by simp [invs, List.getD, h]
theorem invs_U (zs : List Int) : ∀ n ∈ invs zs, U n := by
  intro n hn
  simp only [invs, List.mem_map] at hn
  obtain ⟨z, _, rfl⟩ := hn
  exact enc_U _

theorem infoU : (Tryd.prog.info? 23).map (fun i => (i.zero, i.size, i.bytes)) = some (some (.int .u64 0), 1, 8) := by kernel_rfl
/-- The two functions, as they are handed over. -/
abbrev mulU : Value := .func (.func 30) #[] #[]
abbrev invU : Value := .func (.func 31) #[] #[]

/-- On the way up: how many are in, their product, and what the answer's row holds. -/
def UpU (w : World) (zs : List Int) (g : Nat) (o i : Value) (W : World) : Prop :=
  ∃ k : Nat, k ≤ zs.length ∧ i = .int .i64 k ∧ o = .int .u64 (enc (pre zs k)) ∧ Below w.heap.size w W ∧ Arr W g zs.length (fun j => .int .u64 (if j < k then enc (pre zs j) else 0))
/-- On the way down. -/
def DownU (w : World) (zs : List Int) (g : Nat) (o i : Value) (W : World) : Prop :=
  ∃ k : Nat, k ≤ zs.length ∧ i = .int .i64 ((k : Int) - 1) ∧ o = .int .u64 (enc (finv (pre zs k))) ∧ Below w.heap.size w W ∧ Arr W g zs.length (fun j => .int .u64 (if j < k then enc (pre zs j) else (invs zs).getD j 0))

/-- What is told: none and false, if one is 0; else of each what gives 1 with it, and true. -/
def InvPost (w : World) (zs : List Int) (e : Ending) (w' : World) : Prop :=
  Below w.heap.size w w' ∧ ((¬ Nil0 zs ∧ e = .returned (.tuple #[.slice none 0 0, .bool false])) ∨
    (Nil0 zs ∧ ∃ g : Nat, e = .returned (.tuple #[.slice (some ⟨g, 0, none⟩) zs.length zs.length, .bool true]) ∧ Row w' (.slice (some ⟨g, 0, none⟩) zs.length zs.length) (invs zs)))
theorem up_fin {zs : List Int} {k : Nat} : ∀ j, j < zs.length → (if j = k then Value.int .u64 (enc (pre zs k)) else .int .u64 (if j < k then enc (pre zs j) else 0)) = .int .u64 (if j < k + 1 then enc (pre zs j) else 0) := by
  intro j hj
  by_cases h : j = k
  · subst h; simp
  · rw [if_neg h]
    by_cases h2 : j < k
    · rw [if_pos h2, if_pos (by omega)]
    · rw [if_neg h2, if_neg (by omega)]
theorem down_fin {zs : List Int} {k : Nat} {x : Int} (hx : (invs zs).getD k 0 = x) : ∀ j, j < zs.length → (if j = k then Value.int .u64 x else .int .u64 (if j < k + 1 then enc (pre zs j) else (invs zs).getD j 0)) = .int .u64 (if j < k then enc (pre zs j) else (invs zs).getD j 0) := by
  intro j hj
  by_cases h : j = k
  · subst h; rw [if_pos rfl, if_neg (Nat.lt_irrefl _), hx]
  · rw [if_neg h]
    by_cases h2 : j < k
    · rw [if_pos h2, if_pos (by omega)]
    · rw [if_neg h2, if_neg (by omega)]

set_option maxHeartbeats 4000000 in
theorem invert_any (a : Option Addr) (len cap : Nat) (zs : List Int) (w : World) (hr : RowA w a len zs) (hu : ∀ n ∈ zs, U n) (hl : len ≤ 4294967296) :
    Calls Tryd.prog 29 #[.slice a len cap, .int .u64 1, mulU, invU] w (InvPost w zs) := by
  have hmk := fun W => run_make_row' (P := Tryd.prog) 28 23 (.int .u64 0) 8 Tryd.underlying28 infoU rfl .i64 .i64 len (by omega) (by omega) W
  obtain ⟨rfl, hlm, hcell⟩ := hr
  unfold maxLen at hlm
  have HM := Lib.hid hlm
  have HC := Lib.hid hcell; have HU := Lib.hid (U_getD hu); have HS := Lib.hid (pre_succ zs)
  have H1 := Lib.hid (pre_zero zs)
  clear hcell hu
  go_enter Tryd.func29, Tryd.ntmps29
  go_wp2_with fail
  go_loopw [11, 23] (UpU w zs w.heap.size) (fun _ i _ => zs.length - (intOf i).toNat)
  case atStart => exact ⟨0, Nat.zero_le _, rfl, by rw [H1.out]; rfl, (Below.refl _ _).alloc (Nat.le_refl _) _, (Arr.new w _ _ _).same (fun j hj => by simp [Nat.mod_one])⟩
  case round =>
    obtain ⟨k, hk, rfl, rfl, hB, hA⟩ := hrel
    by_cases hlt : k < zs.length
    · obtain ⟨b, off, rfl, g0⟩ := HC.out k hlt
      have g := bkeep hB g0
      clear g0
      have gU := HU.out k hlt
      have m1 := mul_is (enc (pre zs k)) (zs.getD k 0) (enc (pre zs (k + 1))) (enc_U _) gU (by rw [toF_enc, HS.out k hlt])
      have HA := Lib.hid (hA.set k (.int .u64 (enc (pre zs k))) hlt)
      obtain ⟨c0, f0⟩ := hA k hlt
      have HB := Lib.hid hB
      clear hA hB gU
      generalize zs.getD k 0 = z at *
      go_wp2_with (go_at_call 30; ((with_reducible refine (m1 _).mono ?_); rintro e w' ⟨rfl, rfl⟩))
      go_roundw
      case rel => exact ⟨k + 1, by omega, by go_num, rfl, HB.out.setCell (by simp) _, HA.out.same up_fin⟩
      case measure => simp [intOf]; omega
    · obtain rfl : k = zs.length := by omega
      by_cases h0 : Nil0 zs
      · have hne := pre_ne h0 zs.length (Nat.le_refl _)
        have i1 := inv_yes (enc (pre zs zs.length)) (enc_U _) (by rw [toF_enc]; exact hne)
        rw [toF_enc, show fpow (pre zs zs.length) 18446744069414584319 = finv (pre zs zs.length) from rfl] at i1
        have HB := Lib.hid hB; have HA := Lib.hid hA; have HN := Lib.hid h0
        clear hA hB hne hlt h0
        go_wp2_with (go_at_call 31; ((with_reducible refine (i1 _).mono ?_); rintro e w' ⟨rfl, rfl⟩))
        go_loopw [14, 16] (DownU w zs w.heap.size) (fun _ i _ => (intOf i + 1).toNat)
        case atStart => exact ⟨zs.length, Nat.le_refl _, rfl, rfl, HB.out, HA.out.same (fun j hj => by rw [if_pos hj, if_pos hj])⟩
        case round =>
          clear HA HB i1
          obtain ⟨k, hk, rfl, rfl, hB, hA⟩ := hrel
          cases k with
          | zero =>
            rw [show ((0 : Nat) : Int) - 1 = -1 from rfl]
            have HB := Lib.hid hB; have HA := Lib.hid hA
            clear hA hB
            go_wp2
            refine bodyPost_ret (v := .tuple #[.slice (some ⟨w.heap.size, 0, none⟩) zs.length zs.length, .bool true]) (by simp [results, Tryd.results29, go_sem]) rfl ⟨HB.out, Or.inr ⟨HN.out, w.heap.size, rfl, ?_⟩⟩
            exact Arr.row (HA.out.same (fun j hj => by rw [if_neg (by omega)])) (invs_len zs) (by have := HM.out; unfold maxLen; omega)
          | succ k =>
            rw [show ((k + 1 : Nat) : Int) - 1 = (k : Int) by omega]
            obtain ⟨b, off, rfl, g0⟩ := HC.out k (by omega)
            have g := bkeep hB g0
            have hblk : b < w.heap.size := World.block_lt_of_cell? w _ g0
            clear g0
            have gU := HU.out k (by omega)
            obtain ⟨p1, p2⟩ := pre_back HN.out k (by omega)
            have m1 := mul_is (enc (pre zs k)) (enc (finv (pre zs (k + 1)))) (enc (finv (toF (zs.getD k 0)))) (enc_U _) (enc_U _) (by rw [toF_enc, toF_enc, p1])
            have m2 := mul_is (enc (finv (pre zs (k + 1)))) (zs.getD k 0) (enc (finv (pre zs k))) (enc_U _) gU (by rw [toF_enc, p2])
            have HX := Lib.hid (invs_at zs k (by omega))
            have HA := Lib.hid (hA.set k (.int .u64 (enc (finv (toF (zs.getD k 0))))) (by omega))
            have g' : (wr.setCell ⟨w.heap.size, k, none⟩ (.int .u64 (enc (finv (toF (zs.getD k 0)))))).cell? ⟨b, off + k, none⟩ = some (.int .u64 (zs.getD k 0)) := by
              exact (World.cell?_setCell_far _ _ _ _ (show w.heap.size ≠ b by omega)).trans g
            obtain ⟨c0, f0⟩ := hA k (by omega)
            dsimp only at c0
            rw [if_pos (by omega)] at c0
            have HB := Lib.hid hB
            clear hA hB gU p1 p2 hblk
            generalize enc (finv (toF (zs.getD k 0))) = q at *
            generalize zs.getD k 0 = z at *
            go_wp2_with (first
              | (go_at_call 30; ((with_reducible refine (m1 _).mono ?_); rintro e w' ⟨rfl, rfl⟩))
              | (go_at_call 30; ((with_reducible refine (m2 _).mono ?_); rintro e w' ⟨rfl, rfl⟩)))
            go_roundw
            case rel => exact ⟨k, by omega, rfl, rfl, HB.out.setCell (by simp) _, HA.out.same (down_fin HX.out)⟩
            case measure => simp [intOf]
      · have he := pre_eq0 h0
        have i1 := inv_no (enc (pre zs zs.length)) (enc_U _) (by rw [toF_enc]; exact he)
        have HB := Lib.hid hB; have HN := Lib.hid h0
        clear hA hB he hlt h0
        go_wp2_with (go_at_call 31; ((with_reducible refine (i1 _).mono ?_); rintro e w' ⟨rfl, rfl⟩))
        exact bodyPost_ret (v := .tuple #[.slice none 0 0, .bool false]) (by simp [results, Tryd.results29, go_sem]) rfl ⟨HB.out, Or.inl ⟨HN.out, rfl⟩⟩

/-- The same, by cases. -/
def InvYes (w : World) (zs : List Int) (e : Ending) (w' : World) : Prop :=
  ∃ g : Nat, e = .returned (.tuple #[.slice (some ⟨g, 0, none⟩) zs.length zs.length, .bool true]) ∧ Below w.heap.size w w' ∧ Row w' (.slice (some ⟨g, 0, none⟩) zs.length zs.length) (invs zs)
theorem InvPost.no {w w' : World} {zs : List Int} {e : Ending} (h : InvPost w zs e w') (h0 : ¬ Nil0 zs) : e = .returned (.tuple #[.slice none 0 0, .bool false]) ∧ Below w.heap.size w w' := by
  rcases h with ⟨hb, ⟨_, he⟩ | ⟨h1, _⟩⟩
  · exact ⟨he, hb⟩
  · exact absurd h1 h0
theorem InvPost.yes {w w' : World} {zs : List Int} {e : Ending} (h : InvPost w zs e w') (h0 : Nil0 zs) : InvYes w zs e w' := by
  rcases h with ⟨hb, ⟨h1, _⟩ | ⟨_, g, he, hr⟩⟩
  · exact absurd h0 h1
  · exact ⟨g, he, hb, hr⟩

theorem rinvert_no (a : Option Addr) (len cap : Nat) (zs : List Int) (w : World) (hr : RowA w a len zs) (hu : ∀ n ∈ zs, U n) (hl : len ≤ 4294967296) (h0 : ¬ Nil0 zs) :
    Calls Tryd.prog 16 #[.slice a len cap] w fun e w' => e = .returned (.tuple #[.slice none 0 0, .bool false]) ∧ Below w.heap.size w w' := by
  have k := (invert_any a len cap zs w hr hu hl).mono fun e w' h => h.no h0
  clear hr hu hl h0
  go_enter Tryd.func16, Tryd.ntmps16
  go_wp2_with (go_at_call 29; ((with_reducible refine k.mono ?_); rintro e w' ⟨rfl, hb⟩))
  exact bodyPost_ret (v := .tuple #[.slice none 0 0, .bool false]) (by simp [results, Tryd.results16, go_sem]) rfl ⟨rfl, hb⟩
theorem rinvert_yes (a : Option Addr) (len cap : Nat) (zs : List Int) (w : World) (hr : RowA w a len zs) (hu : ∀ n ∈ zs, U n) (hl : len ≤ 4294967296) (h0 : Nil0 zs) :
    Calls Tryd.prog 16 #[.slice a len cap] w (InvYes w zs) := by
  have k := (invert_any a len cap zs w hr hu hl).mono fun e w' h => h.yes h0
  clear hr hu hl h0
  go_enter Tryd.func16, Tryd.ntmps16
  go_wp2_with (go_at_call 29; ((with_reducible refine k.mono ?_); rintro e w' ⟨g, rfl, hb, hrow⟩))
  exact bodyPost_ret (v := .tuple #[.slice (some ⟨g, 0, none⟩) zs.length zs.length, .bool true]) (by simp [results, Tryd.results16, go_sem]) rfl ⟨g, rfl, hb, hrow⟩
end Go.Proofs.YtbhnbpagjmeffaaDoor
