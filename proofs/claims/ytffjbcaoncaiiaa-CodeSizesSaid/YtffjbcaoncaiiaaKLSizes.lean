/-
  The walk of CodeSizes: it answers true, where the program's calls do what is asked of them. (Written by gen_klaws.py.)
-/
import Derived.Test.YtffjbcaoncaiiaaKAw
namespace Go.Proofs.Ytffjbcaoncaiiaa
open Go Go.RowKit
set_option linter.unusedVariables false

def KSRel (w : World) (zs : List Opn) (v i : Value) (W : World) : Prop := ∃ k : Nat, k ≤ zs.length ∧ v = .int .i64 ((codeN (zs.take k)).length : Nat) ∧ i = .int .i64 k ∧ Below w.heap.size w W ∧ ∀ j, j < k → rightO (zs.getD j (0, 0)) = true
theorem codeN_next (zs : List Opn) (k : Nat) (h : k < zs.length) : (codeN (zs.take (k + 1))).length = (codeN (zs.take k)).length + (opN (zs.getD k (0, 0))).length := by
  have e : zs.getD k (0, 0) = zs[k] := by simp [List.getD, h]
  rw [List.take_succ_eq_append_getElem h, codeN_app, codeN_one, List.length_append, e]
set_option maxRecDepth 100000 in
set_option maxHeartbeats 8000000 in
theorem ksizes_body (G : World → Prop) (hA : AskCode G) (aw : ∀ W, G W → Calls Try.prog 8 #[] W fun e w' => e = .returned (.bool true) ∧ Below W.heap.size W w') (a : Option Addr) (n cap : Nat) (zs : List Opn) (w : World) (hG0 : G w) (hO : OpA w a n zs) (hu : ∀ o ∈ zs, OkO o) :
    Calls Try.prog 7 #[.slice a n cap] w fun e w' => e = .returned (.bool true) ∧ Below w.heap.size w w' := by
  have HK := Lib.hid (fun (W W' : World) => @AskCode.keep G hA W W')
  have HG0 := Lib.hid hG0
  have hAh := Lib.hid hA
  clear hA hG0
  obtain ⟨rfl, hlm, hcell⟩ := hO
  unfold maxLen at hlm
  have HC := Lib.hid hcell
  have HO : Hid (OpA w a zs.length zs) := Lib.hid ⟨rfl, by unfold maxLen; omega, hcell⟩
  have HU : Hid (∀ k, k < zs.length → OkO (zs.getD k (0, 0))) := Lib.hid fun k hk => by
    have e : zs.getD k (0, 0) = zs[k] := by simp [List.getD, hk]
    rw [e]
    exact hu _ (List.getElem_mem hk)
  have HA2 : Hid ((∀ j, j < zs.length → rightO (zs.getD j (0, 0)) = true) → ∀ o ∈ zs, rightO o = true ∧ U o.2) := Lib.hid fun h o ho => by
    obtain ⟨j, hj, rfl⟩ := List.getElem_of_mem ho
    have e : zs.getD j (0, 0) = zs[j] := by simp [List.getD, hj]
    have := h j hj
    rw [e] at this
    exact ⟨this, (hu _ (List.getElem_mem hj)).2⟩
  clear hcell hu
  have HB : Hid (Below w.heap.size w w) := Lib.hid (Below.refl _ _)
  by_cases b1 : (300 : Int) < (zs.length : Int)
  · go_enter Try.func7, Try.ntmps7
    go_wp2_with (go_at_call 8; (with_reducible refine (aw _ (HK.out _ _ HG0.out HB.out)).mono ?_); rintro e w1 ⟨rfl, hb⟩; replace HB := Lib.hid (bthen HB.out hb); clear hb)
    go_ret
    exact ⟨rfl, HB.out⟩
  go_enter Try.func7, Try.ntmps7
  go_upto_region 5 with fail
  go_loopw [3, 4] (KSRel w zs) (fun _ i _ => zs.length - (intOf i).toNat)
  case atStart => exact ⟨0, Nat.zero_le _, rfl, rfl, Below.refl _ _, fun j hj => by omega⟩
  case round =>
    clear HB
    obtain ⟨k, hk, rfl, rfl, hB, hj⟩ := hrel
    by_cases hlt : k < zs.length
    · have hlt' : (k : Int) < (zs.length : Int) := by omega
      have hk0 : (0 : Int) ≤ (k : Int) := by omega
      obtain ⟨b, off, rfl, u0, u1⟩ := HC.out k hlt
      replace u0 := bkeep hB u0; replace u1 := bkeep hB u1
      have hok := HU.out k hlt
      have HB := Lib.hid hB
      obtain ⟨rr, hrr⟩ : ∃ rr, rightO (zs.getD k (0, 0)) = rr := ⟨_, rfl⟩
      have HJ2 : Hid (rr = true → ∀ j, j < k + 1 → rightO (zs.getD j (0, 0)) = true) := Lib.hid fun h j hj2 => by
        by_cases e : j = k
        · subst e; rw [hrr]; exact h
        · exact hj j (by omega)
      have hnx := codeN_next zs k hlt
      have hle := codeN_len_le (zs.take k)
      have hle2 : (zs.take k).length ≤ k := by rw [List.length_take]; omega
      obtain ⟨S, hS⟩ : ∃ S, (codeN (zs.take k)).length = S := ⟨_, rfl⟩
      rw [hS] at hnx hle
      have hSb : S ≤ 2700 := by omega
      rw [hS]
      generalize hz : zs.getD k (0, 0) = o at *
      obtain ⟨kx, nx⟩ := o
      have k1 := fun W hg => hAh.out.right kx nx rr W hok hrr hg
      clear hB hj hok hz hle hle2 hS
      cases rr with
      | false =>
        clear hrr hnx
        go_wp2_with (first
          | (go_at_call 9; (with_reducible refine (k1 _ (HK.out _ _ HG0.out HB.out)).mono ?_); rintro e w1 ⟨rfl, hb⟩; replace HB := Lib.hid (bthen HB.out hb); replace u0 := bkeep hb u0; replace u1 := bkeep hb u1; clear hb)
          | (go_at_call 8; (with_reducible refine (aw _ (HK.out _ _ HG0.out HB.out)).mono ?_); rintro e w1 ⟨rfl, hb⟩; replace HB := Lib.hid (bthen HB.out hb); clear hb))
        go_ret
        exact ⟨rfl, HB.out⟩
      | true =>
        have hkd := right_kind hrr
        have hol := opN_len (kx, nx)
        clear hrr
        by_cases h3 : kx = 3
        · subst h3
          have HN : Hid ((codeN (zs.take (k + 1))).length = S + 9) := Lib.hid (by rw [hnx, hol]; rfl)
          clear hnx hol hkd
          go_wp2_with (go_at_call 9; (with_reducible refine (k1 _ (HK.out _ _ HG0.out HB.out)).mono ?_); rintro e w1 ⟨rfl, hb⟩; replace HB := Lib.hid (bthen HB.out hb); replace u0 := bkeep hb u0; replace u1 := bkeep hb u1; clear hb)
          go_roundw
          case rel => exact ⟨k + 1, by omega, by rw [HN.out]; go_num, by go_num, HB.out, HJ2.out (by trivial)⟩
          case measure => simp [intOf]; omega
        · by_cases h12 : kx = 1 ∨ kx = 2
          · have HN : Hid ((codeN (zs.take (k + 1))).length = S + 2) := Lib.hid (by rw [hnx, hol, if_neg h3, if_pos h12])
            clear hnx hol hkd
            rcases h12 with rfl | rfl
            · go_wp2_with (go_at_call 9; (with_reducible refine (k1 _ (HK.out _ _ HG0.out HB.out)).mono ?_); rintro e w1 ⟨rfl, hb⟩; replace HB := Lib.hid (bthen HB.out hb); replace u0 := bkeep hb u0; replace u1 := bkeep hb u1; clear hb)
              go_roundw
              case rel => exact ⟨k + 1, by omega, by rw [HN.out]; go_num, by go_num, HB.out, HJ2.out (by trivial)⟩
              case measure => simp [intOf]; omega
            · go_wp2_with (go_at_call 9; (with_reducible refine (k1 _ (HK.out _ _ HG0.out HB.out)).mono ?_); rintro e w1 ⟨rfl, hb⟩; replace HB := Lib.hid (bthen HB.out hb); replace u0 := bkeep hb u0; replace u1 := bkeep hb u1; clear hb)
              go_roundw
              case rel => exact ⟨k + 1, by omega, by rw [HN.out]; go_num, by go_num, HB.out, HJ2.out (by trivial)⟩
              case measure => simp [intOf]; omega
          · have HN : Hid ((codeN (zs.take (k + 1))).length = S + 1) := Lib.hid (by rw [hnx, hol, if_neg h3, if_neg h12])
            have h1 : ¬ kx = 1 := fun q => h12 (Or.inl q)
            have h2 : ¬ kx = 2 := fun q => h12 (Or.inr q)
            clear hnx hol hkd h12
            go_wp2_with (go_at_call 9; (with_reducible refine (k1 _ (HK.out _ _ HG0.out HB.out)).mono ?_); rintro e w1 ⟨rfl, hb⟩; replace HB := Lib.hid (bthen HB.out hb); replace u0 := bkeep hb u0; replace u1 := bkeep hb u1; clear hb)
            go_roundw
            case rel => exact ⟨k + 1, by omega, by rw [HN.out]; go_num, by go_num, HB.out, HJ2.out (by trivial)⟩
            case measure => simp [intOf]; omega
    · obtain rfl : k = zs.length := by omega
      have hr := HA2.out hj
      have k1 := fun W hb hg => hAh.out.print a zs.length cap zs (codeB zs) W (HO.out.keep hb) hr (by omega) rfl hg
      have hsz : ((codeB zs).size : Int) = ((codeN (zs.take zs.length)).length : Nat) := by rw [List.take_length, codeB_size]
      obtain ⟨S, hS⟩ : ∃ S, ((codeN (zs.take zs.length)).length : Nat) = S := ⟨_, rfl⟩
      rw [hS] at hsz ⊢
      generalize codeB zs = z at *
      have HB := Lib.hid hB
      clear hB hj hr HA2 HU HC hS
      go_wp2_with (first
        | (go_at_call 8; (with_reducible refine (aw _ (HK.out _ _ HG0.out HB.out)).mono ?_); rintro e w1 ⟨rfl, hb⟩; replace HB := Lib.hid (bthen HB.out hb); clear hb)
        | (go_at_call 11; (with_reducible refine (k1 _ HB.out (HK.out _ _ HG0.out HB.out)).mono ?_); rintro e w1 ⟨rfl, hb⟩; replace HB := Lib.hid (bthen HB.out hb); clear hb))
      go_ret
      exact ⟨rfl, HB.out⟩
end Go.Proofs.Ytffjbcaoncaiiaa
