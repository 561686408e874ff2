/-
  What the document's Points of layer 4 come to: a contract for the walk.
-/
import Derived.Test.YtflabonifbhmnaaDoorSums
import Derived.Test.YtflabonifbhmnaaDoorRootRef
import Derived.Test.YtflabonifbhmnaaDoorOwn
import Derived.Test.YtflabonifbhmnaaDoorPairRefB
namespace Go.Proofs.YtflabonifbhmnaaDoor
open Go.RowKit
set_option linter.unusedVariables false

/-- The points, as numbers are kept. -/
def pts (s : F) (k : Nat) : List Int := (List.range (2 ^ k)).map fun i => enc (pt s k i)
theorem pts_len (s : F) (k : Nat) : (pts s k).length = 2 ^ k := by simp [pts]
theorem pts_at (s : F) (k i : Nat) (h : i < 2 ^ k) : (pts s k).getD i 0 = enc (pt s k i) := by simp [pts, List.getD, h]
theorem pts_U (s : F) (k : Nat) : ∀ n ∈ pts s k, U n := by
  intro n hn
  simp only [pts, List.mem_map] at hn
  obtain ⟨z, _, rfl⟩ := hn
  exact enc_U _
theorem pts_snoc (s : F) (k i : Nat) (h : i < 2 ^ k) : (pts s k).take (i + 1) = (pts s k).take i ++ [enc (pt s k i)] := by
  have hl : i < (pts s k).length := by rw [pts_len]; exact h
  rw [List.take_succ_eq_append_getElem hl, ← pts_at s k i h]
  simp [List.getD, hl]
/-- A slice of numbers that the call itself made. -/
def NewRow (w : World) (n : Nat) (zs : List Int) (e : Ending) (w' : World) : Prop := ∃ a c, e = .returned (.slice a n c) ∧ Below w.heap.size w w' ∧ Row w' (.slice a n c) zs

def PtsUp (w : World) (s : F) (k : Nat) (m x i : Value) (W : World) : Prop :=
  ∃ j : Nat, j ≤ 2 ^ k ∧ i = .int .i64 j ∧ x = .int .u64 (enc (pt s k j)) ∧ MadeU w W m ((pts s k).take j)

set_option maxHeartbeats 4000000 in
theorem refpoints_any (z : Int) (hz : U z) (s : F) (hs : toF z = s) (k : Nat) (hk : k ≤ 20) (w : World) :
    Calls Tryd.prog 16 #[.int .u64 z, .int .i64 k] w (NewRow w (2 ^ k) (pts s k)) := by
  obtain ⟨i0, hi, hz0, hz1, hz2⟩ := info_parts info64'
  have o1 := fun W => ref_below (refof_is k (enc (rootOf k)) (by rw [ofv_in (by omega) (by omega)]; rfl) W)
  have r1 := rem_toF z hz
  have r2 := mod_toF z hz
  have z0 := hz.1
  have w1 := wrap64_pow k (by omega)
  have P2 : 2 ^ k ≤ 2 ^ 20 := Nat.pow_le_pow_right (by decide) hk
  have HS := Lib.hid (pts_snoc s k)
  have HP := Lib.hid (pt_succ s k)
  have H0 := Lib.hid (pt_zero s k)
  have HL := Lib.hid (pts_len s k)
  rw [hs] at r1 r2
  obtain ⟨n, hn⟩ : ∃ n, 2 ^ k = n := ⟨_, rfl⟩
  have HN := Lib.hid hn
  rw [hn] at w1 P2
  clear hs hz hn
  go_enter Tryd.func16, Tryd.ntmps16
  go_upto_region 4 with ((go_at_call 29; ((with_reducible refine (o1 _).mono ?_); rintro e W ⟨rfl, hB⟩)))
  clear r1 r2 z0
  go_upto_region 5 with fail
  go_loopw [5, 7, 8] (PtsUp w s k) (fun _ _ i _ => n - (intOf i).toNat)
  case atStart => exact ⟨0, Nat.zero_le _, rfl, by rw [H0.out], (MadeU.start w).keep hB⟩
  case round =>
    clear hB
    obtain ⟨j, hj, rfl, rfl, hM⟩ := hrel
    rw [HN.out] at hj
    by_cases hlt : j < n
    · have q1 := fun W => ref_below (refmul_any (enc (pt s k j)) (enc (rootOf k)) (enc_U _) (enc_U _) W)
      rw [toF_enc, toF_enc, ← HP.out j] at q1
      have HT := Lib.hid (HS.out j (by rw [HN.out]; exact hlt))
      have hlen : ((pts s k).take j).length ≤ 1048576 := by rw [List.length_take, HL.out, HN.out]; omega
      generalize (pts s k).take j = xs at *
      generalize enc (pt s k j) = y at *
      obtain ⟨y', hy⟩ : ∃ y', enc (pt s k (j + 1)) = y' := ⟨_, rfl⟩
      rw [hy] at q1
      have HY := Lib.hid hy
      clear hy
      have hstep := fun w1 v' => @MadeU.step w _ w1 _ v' xs y hM
      have hown := hM.1
      have hsz := hM.2.size
      have HT2 := Lib.hid hstep
      clear hstep hM
      have hlt' : (j : Int) < (n : Int) := by omega
      generalize xs.length = nn at *
      generalize xs.map (Value.int .u64) = cs at *
      go_wp2_with (at_builtin; refine wpList_append_own _ rfl _ _ 22 rfl w.heap.size 23 i0 (.int .u64 0) 1 8 Tryd.underlying22 hi hz0 hz1 hz2 rfl (by decide) _ _ _ rfl (hown.alloc _) ⟨wr.heap.size, 0, none⟩ 1 1 [.int .u64 y] rfl rfl ?c1 ?c2 ?c3 ?c4 ?c5 ?_)
      case c1 => exact one_src (by simp [go_sem])
      case c2 => first | rfl | (intro u hu; simp at hu; subst hu; rfl)
      case c3 => unfold maxLen; omega
      case c4 => omega
      case c5 => first | omega | (simp; omega)
      · intro v' w1 hown' hgrow _
        have hM := HT2.out w1 v' _ hown' hgrow
        clear hown' hgrow hown HT2
        go_wp2_with ((go_at_call 23; ((with_reducible refine (q1 _).mono ?_); rintro e W2 ⟨rfl, hb⟩; replace hM := hM.keep hb; clear hb)))
        go_roundw
        case rel => exact ⟨j + 1, by rw [HN.out]; omega, by go_num, by rw [HY.out], by rw [HT.out]; exact hM⟩
        case measure => simp [intOf]; omega
    · obtain rfl : j = n := by omega
      rw [← HN.out, ← HL.out, List.take_length] at hM
      obtain ⟨am, cm, hv, hrow⟩ := hM.row
      rw [HL.out] at hv hrow
      have hB := hM.2
      clear hM hlt
      subst hv
      go_wp2
      go_ret
      exact ⟨am, cm, rfl, hB, hrow⟩
end Go.Proofs.YtflabonifbhmnaaDoor
