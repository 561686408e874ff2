/-
  The walk of NttShifts: it answers true, where the program's calls do what is asked of them.
-/
import Derived.Test.YtflabonifbhmnaaDoorNAwake
namespace Go.Proofs.YtflabonifbhmnaaDoor
open Go.RowKit Go.Sort Go.BigFrame
set_option linter.unusedVariables false

/-- Coefficients, so many times the shift's powers. -/
def shiftL (zs : List Int) (s : F) : List Int := (List.range zs.length).map fun j => enc (co zs j * fpow s j)
theorem shiftL_len (zs : List Int) (s : F) : (shiftL zs s).length = zs.length := by simp [shiftL]
theorem shiftL_at (zs : List Int) (s : F) (j : Nat) (h : j < zs.length) : (shiftL zs s).getD j 0 = enc (co zs j * fpow s j) := by simp [shiftL, List.getD, h]
theorem shiftL_U (zs : List Int) (s : F) : ∀ n ∈ shiftL zs s, U n := by
  intro n hn
  simp only [shiftL, List.mem_map] at hn
  obtain ⟨z, _, rfl⟩ := hn
  exact enc_U _
theorem forth_shift (zs : List Int) (s : F) (k : Nat) : forthL (shiftL zs s) (toF 1) k = forthL zs s k := by
  show ((List.range (2 ^ k)).map fun i => enc (ev (shiftL zs s).length (co (shiftL zs s)) (pt (toF 1) k i))) = _
  refine map_range fun i hi => ?_
  rw [shiftL_len, ev_congr (d := fun j => co zs j * fpow s j) (fun j hj => co_map _ _ _ hj), ev_shift]
  congr 1
  unfold pt
  rw [show toF 1 = 1 by decide +kernel]
  grind
theorem shift_fin {zs : List Int} {s : F} {k : Nat} {x : Int} (hx : (shiftL zs s).getD k 0 = x) : ∀ j, j < zs.length → (if j = k then Value.int .u64 x else .int .u64 (if j < k then (shiftL zs s).getD j 0 else 0)) = .int .u64 (if j < k + 1 then (shiftL zs s).getD j 0 else 0) := by
  intro j hj
  by_cases h : j = k
  · subst h; rw [if_pos rfl, if_pos (by omega), hx]
  · rw [if_neg h]
    by_cases h2 : j < k
    · rw [if_pos h2, if_pos (by omega)]
    · rw [if_neg h2, if_neg (by omega)]
def ShiftHead (w : World) (zs : List Int) (s : F) (g : Nat) (x i : Value) (W : World) : Prop :=
  ∃ k : Nat, k ≤ zs.length ∧ i = .int .i64 k ∧ x = .int .u64 (enc (fpow s k)) ∧ Below w.heap.size w W ∧ Arr W g zs.length (fun j => .int .u64 (if j < k then (shiftL zs s).getD j 0 else 0))

set_option maxHeartbeats 8000000 in
theorem nshifts_body (hF : AskForth) (hBk : AskBack) (hP : AskPoints) (a : Option Addr) (len cap : Nat) (zs : List Int) (zi : Int) (hz : U zi) (w : World) (ht : Tab w) (hr : Row w (.slice a len cap) zs) (hu : ∀ n ∈ zs, U n) :
    Calls Tryd.prog 7 #[.slice a len cap, .int .u64 zi] w fun e w' => e = .returned (.bool true) ∧ Below w.heap.size w w' := by
  have hlm := hr.at.2.1
  obtain rfl := hr.at.1
  unfold maxLen at hlm
  have aw := fun W t => nawake_any hF hBk hP W t
  have hB := Below.refl w.heap.size w
  by_cases hc : zs.length ≤ 32
  · have hmk := fun W => run_make_row' (P := Tryd.prog) 22 23 (.int .u64 0) 8 Tryd.underlying22 info64' rfl .i64 .i64 zs.length (by omega) (by omega) W
    have f1 := fun W h t => hF.yes a zs.length cap zs zi 5 W hz (by omega) h hu (by omega) t
    have f2 := fun a' c' W h t => hF.yes a' zs.length c' (shiftL zs (toF zi)) 1 5 W (U_lit _ rfl rfl) (by omega) h (shiftL_U _ _) (by rw [shiftL_len]; omega) t
    rw [forth_shift] at f2
    rw [show (((5 : Nat) : Int)) = 5 from rfl, show 2 ^ 5 = 32 from rfl] at f1 f2
    unfold NewOk at f1 f2
    generalize forthL zs (toF zi) 5 = xs at *
    have HR := Lib.hid hr
    have HU := Lib.hid (U_getD hu)
    have HX := Lib.hid (shiftL_at zs (toF zi))
    have HZ := Lib.hid hz
    have HL := Lib.hid (shiftL_len zs (toF zi))
    clear hu hF hBk hP hz hr
    go_enter Tryd.func7, Tryd.ntmps7
    go_upto_region 6 with fail
    go_loopw [6, 7] (ShiftHead w zs (toF zi) w.heap.size) (fun _ i _ => zs.length - (intOf i).toNat)
    case atStart => exact ⟨0, Nat.zero_le _, rfl, by rw [fpow_zero]; rfl, (Below.refl _ _).alloc (Nat.le_refl _) _, (Arr.new w _ _ _).same (fun j hj => by simp [Nat.mod_one])⟩
    case round =>
      obtain ⟨k, hk, rfl, rfl, hW, hA⟩ := hrel
      by_cases hlt : k < zs.length
      · obtain ⟨b, off, rfl, g0⟩ := HR.out.at.2.2 k hlt
        replace g0 := bkeep hW g0
        have gU := HU.out k hlt
        have m1 := fun W => ref_below (refmul_any (zs.getD k 0) (enc (fpow (toF zi) k)) gU (enc_U _) W)
        have m2 := fun W => ref_below (refmul_any (enc (fpow (toF zi) k)) zi (enc_U _) HZ.out W)
        rw [toF_enc, show toF (zs.getD k 0) * fpow (toF zi) k = co zs k * fpow (toF zi) k from rfl, ← HX.out k hlt] at m1
        rw [toF_enc, ← fpow_succ] at m2
        have c0 := (hA k hlt).1
        have f0 := (hA k hlt).2
        have HS := Lib.hid (shift_fin (rfl : (shiftL zs (toF zi)).getD k 0 = _))
        have HA := Lib.hid hA; have HW := Lib.hid hW
        clear hA hW gU
        obtain ⟨y, hy⟩ : ∃ y, (shiftL zs (toF zi)).getD k 0 = y := ⟨_, rfl⟩
        rw [hy] at m1
        have HY := Lib.hid hy
        clear hy
        generalize zs.getD k 0 = z at *
        obtain ⟨p, hp⟩ : ∃ y, enc (fpow (toF zi) k) = y := ⟨_, rfl⟩
        rw [hp] at m1 m2
        rw [hp]
        clear hp
        have hlt' : (k : Int) < (zs.length : Int) := by omega
        go_upto_region 9 with ((go_at_call 23; ((with_reducible refine (m1 _).mono ?_); rintro e w1 ⟨rfl, hb⟩; replace f0 := bfree hb c0 f0; replace c0 := bkeep hb c0)))
        refine wp_gen (fun W => Below w.heap.size w W ∧ Arr W w.heap.size zs.length (fun j => .int .u64 (if j < k + 1 then (shiftL zs (toF zi)).getD j 0 else 0))) ⟨(bthen HW.out hb).setCell (by simp) _, ((HA.out.keep hb).set k _ hlt).same (by rw [HY.out] at HS; exact HS.out)⟩ ?_
        clear hb c0 f0 g0 m1
        rintro W2 ⟨hW, hA⟩
        go_wp2_with ((go_at_call 23; ((with_reducible refine (m2 _).mono ?_); rintro e w2 ⟨rfl, hb⟩; replace hA := hA.keep hb; replace hW := bthen hW hb; clear hb)))
        go_roundw
        case rel => exact ⟨k + 1, by omega, by go_num, rfl, hW, hA⟩
        case measure => simp [intOf]; omega
      · obtain rfl : k = zs.length := by omega
        have h2 := Arr.row (hA.same (fun j hj => by rw [if_pos hj])) HL.out (by unfold maxLen; omega)
        replace hr := HR.out.below hW
        replace ht := ht.keep hW
        clear hA hlt
        go_upto_region 11 with ((go_at_call 10; ((with_reducible refine (f1 _ hr ht).mono ?_); rintro e w1 ⟨a1, c1, rfl, hb, h1⟩; replace h2 := h2.below hb; replace ht := ht.keep hb; replace hW := bthen hW hb; clear hb)))
        go_upto_region 12 with ((go_at_call 10; ((with_reducible refine (f2 _ _ _ h2 ht).mono ?_); rintro e w2 ⟨a2, c2, rfl, hb, h3⟩; replace h1 := h1.below hb; replace ht := ht.keep hb; replace hW := bthen hW hb; clear hb)))
        clear hr h2
        go_wp2_with (first
          | (go_at_call 9; ((with_reducible refine (aw _ ht).mono ?_); rintro e w5 ⟨rfl, hb⟩; replace h1 := h1.below hb; replace h3 := h3.below hb; replace hW := bthen hW hb; clear hb))
          | (go_at_call 14; ((with_reducible refine (same_is a1 a2 32 32 c1 c2 xs xs _ h1.at h3.at rfl).mono ?_); rintro e w6 ⟨rfl, nq, rfl⟩)))
        go_ret
        exact ⟨rfl, below_drewN hW _⟩
  · have c2 : 32 < (zs.length : Int) := by omega
    clear hr hu hF hBk hP hc
    go_enter Tryd.func7, Tryd.ntmps7
    go_wp2_with (go_at_call 9; ((with_reducible refine (aw _ ht).mono ?_); rintro e w1 ⟨rfl, hb⟩))
    go_ret
    exact ⟨rfl, hb⟩
end Go.Proofs.YtflabonifbhmnaaDoor
