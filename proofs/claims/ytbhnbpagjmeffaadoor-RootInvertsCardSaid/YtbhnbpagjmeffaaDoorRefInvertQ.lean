/-
  What the document's InvertPairs comes to: contracts for the walk.
-/
import Derived.Test.YtbhnbpagjmeffaaDoorInvertQ
import Derived.Test.YtbhnbpagjmeffaaDoorOwnQ
import Derived.Test.YtbhnbpagjmeffaaDoorPairRefB
namespace Go.Proofs.YtbhnbpagjmeffaaDoor
open Go.RowKit
set_option linter.unusedVariables false

theorem invsq_snoc (zs : List (Int × Int)) (k : Nat) (h : k < zs.length) : (invsq zs).take (k + 1) = (invsq zs).take k ++ [encP (qinv (toQ (zs.getD k (0, 0))))] := by
  have hl : k < (invsq zs).length := by rw [invsq_len]; exact h
  rw [List.take_succ_eq_append_getElem hl, ← invsq_at zs k h]
  simp [List.getD, hl]
def RefUpQ (w : World) (zs : List (Int × Int)) (m i : Value) (W : World) : Prop :=
  ∃ k : Nat, k ≤ zs.length ∧ i = .int .i64 k ∧ MadeQ w W m ((invsq zs).take k) ∧ ∀ j, j < k → toQ (zs.getD j (0, 0)) ≠ 0
def RefPostQ (w : World) (zs : List (Int × Int)) (e : Ending) (w' : World) : Prop :=
  Below w.heap.size w w' ∧ ((¬ Nil0Q zs ∧ e = .returned (.tuple #[.slice none 0 0, .bool false])) ∨
    (Nil0Q zs ∧ ∃ a c, e = .returned (.tuple #[.slice a zs.length c, .bool true]) ∧ QRow w' (.slice a zs.length c) (invsq zs)))

set_option maxHeartbeats 4000000 in
theorem refinvertq_any (a : Option Addr) (len cap : Nat) (zs : List (Int × Int)) (w : World) (hr : QRowA w a len zs) (hu : ∀ n ∈ zs, U n.1 ∧ U n.2) (hl : len ≤ 4294967296) :
    Calls Tryd.prog 19 #[.slice a len cap] w (RefPostQ w zs) := by
  obtain ⟨i0, hi, hz0, hz1, hz2⟩ := info_parts infoQ
  obtain ⟨rfl, hlm, hcell⟩ := hr
  unfold maxLen at hlm
  have HL := Lib.hid hl
  have HC := Lib.hid hcell; have HU := Lib.hid (UU_getD hu)
  clear hcell hu
  go_enter Tryd.func19, Tryd.ntmps19
  go_wp2_with fail
  go_loopw [4, 5] (RefUpQ w zs) (fun _ i _ => zs.length - (intOf i).toNat)
  case atStart => exact ⟨0, Nat.zero_le _, rfl, MadeQ.start w, fun j hj => by omega⟩
  case round =>
    obtain ⟨k, hk, rfl, hM, hne⟩ := hrel
    by_cases hlt : k < zs.length
    · obtain ⟨b, off, rfl, g0, g1⟩ := HC.out k hlt
      replace g0 := bkeep hM.2 g0
      replace g1 := bkeep hM.2 g1
      have gU := HU.out k hlt
      by_cases h0 : toQ (zs.getD k (0, 0)) = 0
      · have i1 := rinv_no (zs.getD k (0, 0)).1 (zs.getD k (0, 0)).2 _ (rep_raw gU.1 gU.2) h0
        have HN : Hid (¬ Nil0Q zs) := Lib.hid fun h => h k hlt h0
        have hB := hM.2
        clear h0 hne hM gU
        generalize (zs.getD k (0, 0)).1 = z at *
        generalize (zs.getD k (0, 0)).2 = z' at *
        go_wp2_with (go_at_call 37; ((with_reducible refine (i1 _).mono ?_); rintro e w1 ⟨rfl, hb⟩; replace hB := bthen hB hb; clear hb g0 g1))
        exact bodyPost_ret (v := .tuple #[.slice none 0 0, .bool false]) (by simp [results, Tryd.results19, go_sem]) rfl ⟨hB.alloc hB.size _, Or.inl ⟨HN.out, rfl⟩⟩
      · have i1 := rinv_yes (zs.getD k (0, 0)).1 (zs.getD k (0, 0)).2 _ _ (rep_raw gU.1 gU.2) h0 rfl
        have hne' : Hid (∀ j, j < k + 1 → toQ (zs.getD j (0, 0)) ≠ 0) := Lib.hid fun j hj => by
          by_cases e : j = k
          · subst e; exact h0
          · exact hne j (by omega)
        have HS : Hid ((invsq zs).take (k + 1) = (invsq zs).take k ++ [(enc (qinv (toQ (zs.getD k (0, 0)))).a, enc (qinv (toQ (zs.getD k (0, 0)))).b)]) := Lib.hid (invsq_snoc zs k hlt)
        have hlen : ((invsq zs).take k).length ≤ 4294967296 := by rw [List.length_take, invsq_len]; omega
        clear h0 hne gU
        rw [show qinv ⟨toF (zs.getD k (0, 0)).1, toF (zs.getD k (0, 0)).2⟩ = qinv (toQ (zs.getD k (0, 0))) from rfl] at i1
        generalize enc (qinv (toQ (zs.getD k (0, 0)))).a = y at *
        generalize enc (qinv (toQ (zs.getD k (0, 0)))).b = y' at *
        generalize (zs.getD k (0, 0)).1 = z at *
        generalize (zs.getD k (0, 0)).2 = z' at *
        generalize (invsq zs).take k = xs at *
        go_upto_region 8 with ((go_at_call 37; ((with_reducible refine (i1 _).mono ?_); rintro e w1 ⟨rfl, hb⟩; replace hM := hM.keep hb; clear hb g0 g1)))
        refine wp_gen (fun W => MadeQ w W u4 xs ∧ Var W w1.heap.size y y') ⟨hM.keep ((Below.refl _ _).alloc (Nat.le_refl _) _), Var.new _ _ _ _⟩ ?_
        clear hM
        rintro W ⟨hM, ⟨c0, c1, f0, f1⟩⟩
        clear f0 f1
        have hstep := fun w1 v' => @MadeQ.step w _ w1 _ v' xs y y' hM
        have hown := hM.1
        have hsz := hM.2.size
        have HT := Lib.hid hstep
        clear hstep hM
        generalize xs.length = nn at *
        generalize flat xs = cs at *
        go_wp2_with (at_builtin; refine wpList_append_own _ rfl _ _ 29 rfl w.heap.size 44 i0 (.agg #[.int .u64 0, .int .u64 0]) 2 16 Tryd.underlying29 hi hz0 hz1 hz2 rfl (by decide) _ _ _ rfl (hown.alloc _) ⟨W.heap.size, 0, none⟩ 1 1 [.int .u64 y, .int .u64 y'] rfl rfl ?c1 ?c2 ?c3 ?c4 ?c5 ?_)
        case c1 => exact two_src (by simp [go_sem]) (by simp [go_sem])
        case c2 => first | rfl | (intro u hu; simp at hu; rcases hu with rfl | rfl <;> rfl)
        case c3 => unfold maxLen; omega
        case c4 => omega
        case c5 => first | omega | (simp; omega)
        · intro v' w1 hown' hgrow _
          have R := HT.out w1 v' _ hown' hgrow
          clear hown' hgrow hown HT c0 c1
          go_wp2
          go_roundw
          case rel => exact ⟨k + 1, by omega, by go_num, by rw [HS.out]; exact R, hne'.out⟩
          case measure => simp [intOf]; omega
    · obtain rfl : k = zs.length := by omega
      have hN : Nil0Q zs := hne
      rw [show (invsq zs).take zs.length = invsq zs by rw [← invsq_len zs, List.take_length]] at hM
      obtain ⟨am, cm, hv, hrow⟩ := hM.row
      have hB := hM.2
      rw [invsq_len] at hv hrow
      have HN := Lib.hid hN
      clear hM hN hne hlt
      subst hv
      go_wp2
      exact bodyPost_ret (v := .tuple #[.slice am zs.length cm, .bool true]) (by simp [results, Tryd.results19, go_sem]) rfl ⟨hB, Or.inr ⟨HN.out, am, cm, rfl, hrow⟩⟩
end Go.Proofs.YtbhnbpagjmeffaaDoor
