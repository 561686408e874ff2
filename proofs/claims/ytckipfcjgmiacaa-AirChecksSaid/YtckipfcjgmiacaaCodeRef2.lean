/-
  What the document's Print of layer 15 comes to.
-/
import Derived.Test.YtckipfcjgmiacaaCodeRef
namespace Go.Proofs.Ytckipfcjgmiacaa
open Go Go.RowKit
set_option linter.unusedVariables false

theorem strOf_cat (xs ys : List Int) : strOfNums (xs ++ ys) = strOfNums xs ++ strOfNums ys := by
  apply ByteArray.ext
  rw [ByteArray.data_append]
  simp [strOfNums]
abbrev one8 (x : Int) : ByteArray := strOfNums [x]
theorem one8_size (x : Int) : (strOfNums [x]).size = 1 := by rw [strOfNums_size]; rfl
theorem codeN_len_le : ∀ l : List Opn, (codeN l).length ≤ 9 * l.length
  | [] => by simp [codeN_nil]
  | o :: l => by
    have h := codeN_len_le l
    have h2 := opN_len o
    have e : codeN (o :: l) = opN o ++ codeN l := by simp [codeN]
    rw [e, List.length_append, List.length_cons, h2]
    split
    · omega
    · split <;> omega
theorem conv_one (x : Int) (W : World) : (convert 64 9 (.slice (some ⟨W.heap.size, 0, none⟩) 1 1)).run Try.prog (W.alloc (.cells #[.int .u8 x] 5)) = .ok (.string (strOfNums [x])) (W.alloc (.cells #[.int .u8 x] 5)) :=
  run_convert_bytes_arg (P := Try.prog) (W.alloc (.cells #[.int .u8 x] 5)) 64 5 (by kernel_rfl) (by kernel_rfl) W.heap.size 0 1 1 [x] rfl (fun j hj => by
    have : j = 0 := by omega
    subst this
    simp [go_sem]) 9 (by kernel_rfl)
def PrintRel (w : World) (zs : List Opn) (s i : Value) (W : World) : Prop := ∃ k : Nat, k ≤ zs.length ∧ s = .string (codeB (zs.take k)) ∧ i = .int .i64 k ∧ Below w.heap.size w W
theorem codeB_next (zs : List Opn) (k : Nat) (h : k < zs.length) (P : ByteArray) (hP : codeB (zs.take k) = P) (x y : Int) (hx : (zs.getD k (0, 0)).1 = x) (hy : (zs.getD k (0, 0)).2 = y) : codeB (zs.take (k + 1)) = P ++ strOfNums (opN (x, y)) := by
  have e : zs.getD k (0, 0) = zs[k] := by simp [List.getD, h]
  have e2 : zs[k] = (x, y) := by rw [← e]; exact Prod.ext hx hy
  rw [List.take_succ_eq_append_getElem h, codeB_app, hP, e2]
  unfold codeB
  rw [codeN_one]
set_option maxHeartbeats 4000000 in
set_option maxRecDepth 100000 in
theorem rprint_is (a : Option Addr) (len cap : Nat) (zs : List Opn) (z : ByteArray) (w : World) (hO : OpA w a len zs) (hr : ∀ o ∈ zs, rightO o = true ∧ U o.2) (hl : len ≤ 1000) (hz : codeB zs = z) :
    Calls Try.prog 43 #[.slice a len cap] w fun e w' => e = .returned (.string z) ∧ Below w.heap.size w w' := by
  obtain ⟨rfl, hlm, hcell⟩ := hO
  have HC := Lib.hid hcell
  have HU : Hid (∀ k, k < zs.length → rightO (zs.getD k (0, 0)) = true ∧ U (zs.getD k (0, 0)).2) := Lib.hid fun k hk => by
    have e : zs.getD k (0, 0) = zs[k] := by simp [List.getD, hk]
    rw [e]
    exact hr _ (List.getElem_mem hk)
  have HZ := Lib.hid hz
  have hcv := fun x W => conv_one x W
  clear hcell hr hz hlm
  go_enter Try.func43, Try.ntmps43
  go_upto_region 3 with fail
  go_loopw [3, 4] (PrintRel w zs) (fun _ i _ => zs.length - (intOf i).toNat)
  case atStart => exact ⟨0, Nat.zero_le _, rfl, rfl, Below.refl _ _⟩
  case round =>
    obtain ⟨k, hk, rfl, rfl, hB⟩ := hrel
    by_cases hlt : k < zs.length
    · obtain ⟨b, off, rfl, g0, g1⟩ := HC.out k hlt
      replace g0 := bkeep hB g0; replace g1 := bkeep hB g1
      have hbl := World.block_lt_of_cell? _ _ g0
      have hbne : b ≠ wr.heap.size := by have : b < wr.heap.size := hbl; omega
      have hlt' : (k : Int) < (zs.length : Int) := by omega
      have hk0 : (0 : Int) ≤ (k : Int) := by omega
      obtain ⟨hro, huo⟩ := HU.out k hlt
      have hps : (codeB (zs.take k)).size ≤ 9000 := by
        have := codeN_len_le (zs.take k)
        have h2 : (zs.take k).length ≤ k := by rw [List.length_take]; omega
        rw [codeB_size]
        omega
      have HN := Lib.hid (fun P hP x y hx hy => codeB_next zs k hlt P hP x y hx hy)
      obtain ⟨P, hP⟩ : ∃ P, codeB (zs.take k) = P := ⟨_, rfl⟩
      obtain ⟨x, hx⟩ : ∃ x, (zs.getD k (0, 0)).1 = x := ⟨_, rfl⟩
      obtain ⟨y, hy⟩ : ∃ y, (zs.getD k (0, 0)).2 = y := ⟨_, rfl⟩
      have hxy : zs.getD k (0, 0) = (x, y) := Prod.ext hx hy
      have HN2 := Lib.hid (HN.out P hP x y hx hy)
      rw [hxy] at hro
      rw [hP] at hps ⊢
      rw [hx] at g0
      rw [hy] at g1 huo
      have hkd := right_kind hro
      have hwx : IntKind.u8.wrap x = x := by rw [IntKind.wrap_u8]; have h1 := hkd.1; have h2 := hkd.2; exact Int.emod_eq_of_lt (by simp only at h1; omega) (by simp only at h2; omega)
      have hwx' : x % 256 = x := by have h1 := hkd.1; have h2 := hkd.2; exact Int.emod_eq_of_lt (by simp only at h1; omega) (by simp only at h2; omega)
      have hq1 := one8_size x
      have hq2 := one8_size y
      have hE := eightB_size y
      have ke := fun W => reight_is y huo W
      have hcx := fun W => hcv x W
      have hcy := fun W => hcv y W
      have HB := Lib.hid hB
      have hJ : Hid (∀ Q, P ++ strOfNums (opN (x, y)) = Q → codeB (zs.take (k + 1)) = Q) := Lib.hid fun Q hQ => HN2.out.trans hQ
      clear hB HN HN2 hxy hx hy hP hcv
      by_cases h3 : x = 3
      · subst h3
        have hop : P ++ strOfNums (opN (3, y)) = P ++ strOfNums [3] ++ eightB y := by
          have e : opN (3, y) = [3] ++ (List.range 8).map (oct y) := rfl
          rw [e, strOf_cat, ByteArray.append_assoc]
          rfl
        have HF := Lib.hid (hJ.out _ hop)
        clear hop hJ hro hkd hwx hwx'
        generalize strOfNums [3] = Qx at *
        generalize strOfNums [y] = Qy at *
        generalize eightB y = E at *
        go_wp2_with (go_at_call 56; ((with_reducible refine (ke _).mono ?_); rintro e w1 ⟨rfl, hb⟩))
        go_roundw
        case rel => exact ⟨k + 1, by omega, by rw [HF.out], by go_num, bthen (bthen HB.out ((Below.refl _ _).alloc (Nat.le_refl _) _)) hb⟩
        case measure => simp [intOf]; omega
      · have kt := fun W r hr => rtakes_is x r W hr
        by_cases h12 : x = 1 ∨ x = 2
        · have hop : P ++ strOfNums (opN (x, y)) = P ++ strOfNums [x] ++ strOfNums [y] := by
            have e : opN (x, y) = [x] ++ [y] := by unfold opN; rw [if_neg h3, if_pos h12]; rfl
            rw [e, strOf_cat, ByteArray.append_assoc]
          have hyb : y < 256 := by unfold rightO at hro; rw [if_pos h12] at hro; exact of_decide_eq_true hro
          have hwy : IntKind.u8.wrap y = y := by rw [IntKind.wrap_u8]; exact Int.emod_eq_of_lt huo.1 hyb
          have hwy' : y % 256 = y := Int.emod_eq_of_lt huo.1 hyb
          have kt := fun W => kt W true (decide_eq_true (by omega))
          have HF := Lib.hid (hJ.out _ hop)
          have hcy2 := hcy (wr.alloc (.cells #[.int .u8 x] 5))
          rw [show (wr.alloc (.cells #[.int .u8 x] 5)).heap.size = wr.heap.size + 1 by simp] at hcy2
          clear hop hJ hro hkd hyb h12
          generalize strOfNums [x] = Qx at *
          generalize strOfNums [y] = Qy at *
          go_wp2_with (go_at_call 41; ((with_reducible refine (kt _).mono ?_); rintro e w1 ⟨rfl, rfl⟩))
          go_roundw
          case rel => exact ⟨k + 1, by omega, by rw [HF.out], by go_num, (HB.out.alloc HB.out.size _).alloc (by have := HB.out.size; simp; omega) _⟩
          case measure => simp [intOf]; omega
        · have hop : P ++ strOfNums (opN (x, y)) = P ++ strOfNums [x] := by
            have e : opN (x, y) = [x] := by unfold opN; rw [if_neg h3, if_neg h12]
            rw [e]
          have kt := fun W => kt W false (decide_eq_false (by omega))
          have HF := Lib.hid (hJ.out _ hop)
          clear hop hJ hro hkd h12
          generalize strOfNums [x] = Qx at *
          go_wp2_with (go_at_call 41; ((with_reducible refine (kt _).mono ?_); rintro e w1 ⟨rfl, rfl⟩))
          go_roundw
          case rel => exact ⟨k + 1, by omega, by rw [HF.out], by go_num, bthen HB.out ((Below.refl _ _).alloc (Nat.le_refl _) _)⟩
          case measure => simp [intOf]; omega
    · obtain rfl : k = zs.length := by omega
      have hZ : codeB (zs.take zs.length) = z := by rw [List.take_length]; exact HZ.out
      rw [hZ]
      have HB := Lib.hid hB
      clear hB hZ HZ HC HU hcv
      go_wp2_with fail
      go_ret
      exact ⟨rfl, HB.out⟩
end Go.Proofs.Ytckipfcjgmiacaa
