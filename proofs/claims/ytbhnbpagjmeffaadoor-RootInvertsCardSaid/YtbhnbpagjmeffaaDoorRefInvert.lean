/-
  What the document's Invert comes to: contracts for the walk.
-/
import Derived.Test.YtbhnbpagjmeffaaDoorInvert
import Derived.Test.YtbhnbpagjmeffaaDoorOwn
import Derived.Test.YtbhnbpagjmeffaaDoorPairRefB
namespace Go.Proofs.YtbhnbpagjmeffaaDoor
open Go.RowKit
set_option linter.unusedVariables false

theorem invs_snoc (zs : List Int) (k : Nat) (h : k < zs.length) : (invs zs).take (k + 1) = (invs zs).take k ++ [enc (finv (toF (zs.getD k 0)))] := by
  have hl : k < (invs zs).length := by rw [invs_len]; exact h
  rw [List.take_succ_eq_append_getElem hl, ← invs_at zs k h]
  simp [List.getD, hl]
/-- How many are in, what is put together, and that none of them is 0. -/
def RefUp (w : World) (zs : List Int) (m i : Value) (W : World) : Prop :=
  ∃ k : Nat, k ≤ zs.length ∧ i = .int .i64 k ∧ MadeU w W m ((invs zs).take k) ∧ ∀ j, j < k → toF (zs.getD j 0) ≠ 0
/-- What is told. -/
def RefPost (w : World) (zs : List Int) (e : Ending) (w' : World) : Prop :=
  Below w.heap.size w w' ∧ ((¬ Nil0 zs ∧ e = .returned (.tuple #[.slice none 0 0, .bool false])) ∨
    (Nil0 zs ∧ ∃ a c, e = .returned (.tuple #[.slice a zs.length c, .bool true]) ∧ Row w' (.slice a zs.length c) (invs zs)))

set_option maxHeartbeats 4000000 in
theorem refinvert_any (a : Option Addr) (len cap : Nat) (zs : List Int) (w : World) (hr : RowA w a len zs) (hu : ∀ n ∈ zs, U n) (hl : len ≤ 4294967296) :
    Calls Tryd.prog 17 #[.slice a len cap] w (RefPost w zs) := by
  obtain ⟨i0, hi, hz0, hz1, hz2⟩ := info_parts info64'
  obtain ⟨rfl, hlm, hcell⟩ := hr
  unfold maxLen at hlm
  have HL := Lib.hid hl
  have HC := Lib.hid hcell; have HU := Lib.hid (U_getD hu)
  clear hcell hu
  go_enter Tryd.func17, Tryd.ntmps17
  go_wp2_with fail
  go_loopw [4, 5] (RefUp w zs) (fun _ i _ => zs.length - (intOf i).toNat)
  case atStart => exact ⟨0, Nat.zero_le _, rfl, MadeU.start w, fun j hj => by omega⟩
  case round =>
    obtain ⟨k, hk, rfl, hM, hne⟩ := hrel
    by_cases hlt : k < zs.length
    · obtain ⟨b, off, rfl, g0⟩ := HC.out k hlt
      have g := bkeep hM.2 g0
      clear g0
      have gU := HU.out k hlt
      by_cases h0 : toF (zs.getD k 0) = 0
      · have i1 := fun W => ref_below (refinv_no (zs.getD k 0) gU h0 W)
        have HN : Hid (¬ Nil0 zs) := Lib.hid fun h => h k hlt h0
        have hB := hM.2
        clear h0 hne hM gU
        generalize zs.getD k 0 = z at *
        go_wp2_with (go_at_call 32; ((with_reducible refine (i1 _).mono ?_); rintro e w1 ⟨rfl, hb⟩; replace hB := bthen hB hb; clear hb))
        exact bodyPost_ret (v := .tuple #[.slice none 0 0, .bool false]) (by simp [results, Tryd.results17, go_sem]) rfl ⟨hB, Or.inl ⟨HN.out, rfl⟩⟩
      · have i1 := fun W => ref_below (refinv_yes (zs.getD k 0) gU h0 W)
        rw [show fpow (toF (zs.getD k 0)) 18446744069414584319 = finv (toF (zs.getD k 0)) from rfl] at i1
        have hne' : Hid (∀ j, j < k + 1 → toF (zs.getD j 0) ≠ 0) := Lib.hid fun j hj => by
          by_cases e : j = k
          · subst e; exact h0
          · exact hne j (by omega)
        have HS := Lib.hid (invs_snoc zs k hlt)
        have hlen : ((invs zs).take k).length ≤ 4294967296 := by rw [List.length_take, invs_len]; omega
        clear h0 hne gU
        generalize enc (finv (toF (zs.getD k 0))) = y at *
        generalize zs.getD k 0 = z at *
        generalize (invs zs).take k = xs at *
        go_upto_region 8 with ((go_at_call 32; ((with_reducible refine (i1 _).mono ?_); rintro e w1 ⟨rfl, hb⟩; replace hM := hM.keep hb; clear hb g)))
        refine wp_gen (fun W => MadeU w W u4 xs) hM ?_
        clear hM
        intro W hM
        have hstep := fun w1 v' => @MadeU.step w _ w1 _ v' xs y hM
        have hown := hM.1
        have hsz := hM.2.size
        have HT := Lib.hid hstep
        clear hstep hM
        generalize xs.length = nn at *
        generalize xs.map (Value.int .u64) = cs at *
        go_wp2_with (at_builtin; refine wpList_append_own _ rfl _ _ 28 rfl w.heap.size 23 i0 (.int .u64 0) 1 8 Tryd.underlying28 hi hz0 hz1 hz2 rfl (by decide) _ _ _ rfl (hown.alloc _) ⟨W.heap.size, 0, none⟩ 1 1 [.int .u64 y] rfl rfl ?c1 ?c2 ?c3 ?c4 ?c5 ?_)
        case c1 => exact one_src (by simp [go_sem])
        case c2 => first | rfl | (intro u hu; simp at hu; subst hu; rfl)
        case c3 => unfold maxLen; omega
        case c4 => omega
        case c5 => first | omega | (simp; omega)
        · intro v' w1 hown' hgrow _
          have R := HT.out w1 v' _ hown' hgrow
          clear hown' hgrow hown HT
          go_wp2
          go_roundw
          case rel => exact ⟨k + 1, by omega, by go_num, by rw [HS.out]; exact R, hne'.out⟩
          case measure => simp [intOf]; omega
    · obtain rfl : k = zs.length := by omega
      have hN : Nil0 zs := hne
      rw [show (invs zs).take zs.length = invs zs by rw [← invs_len zs, List.take_length]] at hM
      obtain ⟨am, cm, hv, hrow⟩ := hM.row
      have hB := hM.2
      rw [invs_len] at hv hrow
      have HN := Lib.hid hN
      clear hM hN hne hlt
      subst hv
      go_wp2
      exact bodyPost_ret (v := .tuple #[.slice am zs.length cm, .bool true]) (by simp [results, Tryd.results17, go_sem]) rfl ⟨hB, Or.inr ⟨HN.out, am, cm, rfl, hrow⟩⟩
end Go.Proofs.YtbhnbpagjmeffaaDoor
