/-
  The program's Sum.
-/
import Derived.Test.YtajjfonodfncmaaDoorBGEnd
import Derived.Test.YtajjfonodfncmaaDoorBAsk
import Derived.Great.BuildSlice
namespace Go.Proofs.YtajjfonodfncmaaDoor
open Go Go.RowKit
set_option linter.unusedVariables false

theorem sumC_set0 (s : ByteArray) (j : Nat) (hj : j < 74) : (if j = 0 then Value.int .u32 (bits .xor .u32 (beg 0) 16842784) else sumC beg (fun _ => 0) 0 0 j) = sumC (hseq s 0) (fun _ => 0) 0 0 j := by
  show _ = sumC h0 (fun _ => 0) 0 0 j
  unfold sumC h0 upd xor32
  by_cases h : j = 0
  · subst h; rfl
  · rw [if_neg h]; simp only [if_neg h]
theorem start_built : Tryd.prog.built 37 [(0, .agg (cellsA 8 fun j => .int .u32 (beg j)))] = some (cellsA 74 (sumC beg (fun _ => 0) 0 0)) := by kernel_rfl
theorem start_all : (cellsA 74 (sumC beg (fun _ => 0) 0 0)).all (·.oneCell') = true := by kernel_rfl
theorem lens_get (f : Nat → ByteArray) (len j : Nat) (h : j < len) : lens f j + (f j).size ≤ lens f len := by
  have := lens_mono f (j + 1) (len - (j + 1))
  rw [show j + 1 + (len - (j + 1)) = len by omega, lens] at this
  exact this
theorem byt_append (s t : ByteArray) (i : Nat) : byt (s ++ t) i = if i < s.size then byt s i else byt t (i - s.size) := by
  unfold byt
  have hs : s.data.toList.length = s.size := (Go.Lib.size_eq s).symm
  rw [ByteArray.data_append, Array.toList_append]
  by_cases h : i < s.size
  · rw [if_pos h]
    simp only [List.getD]
    rw [List.getElem?_append_left (by omega)]
  · rw [if_neg h]
    simp only [List.getD]
    rw [List.getElem?_append_right (by omega), hs]
/-- The bytes of the texts put together. -/
theorem byt_cat (f : Nat → ByteArray) (j i : Nat) : ∀ n, j < n → i < (f j).size → byt (cat f n) (lens f j + i) = byt (f j) i
  | 0, h, _ => by omega
  | n + 1, h, hi => by
    rw [cat, byt_append, cat_size]
    by_cases hj : j < n
    · rw [if_pos (by have := lens_get f n j hj; omega)]
      exact byt_cat f j i n hj hi
    · obtain rfl : j = n := by omega
      rw [if_neg (by omega)]
      congr 1
      omega
def SumLoop (w : World) (s : ByteArray) (f : Nat → ByteArray) (len g : Nat) (i : Value) (W : World) : Prop := ∃ j : Nat, j ≤ len ∧ i = .int .i64 j ∧ Below w.heap.size w W ∧ SumSt s g (lens f j) W

set_option maxRecDepth 100000 in
set_option maxHeartbeats 8000000 in
theorem gsum_is (a : Option Addr) (len cap : Nat) (f : Nat → ByteArray) (w : World) (hr : StrA w a len f) (hl : lens f len ≤ 1000000) (hT : TabB w) :
    Calls Tryd.prog 7 #[.slice a len cap] w fun e w' => e = .returned (.string (sumB (cat f len))) ∧ Below w.heap.size w w' := by
  have HR := Lib.hid hr
  have hml := hr.1
  unfold maxLen at hml
  have HT := Lib.hid hT
  have HL := Lib.hid hl
  have hg1 : w.heap.size ≠ 0 := by have := hT.lt.1; omega
  have hg2 : w.heap.size ≠ 1 := by have := hT.lt.2; omega
  have hz : ∀ w, (zeroValue 37).run Tryd.prog w = .ok (.agg (cellsA 74 (sumC (fun _ => 0) (fun _ => 0) 0 0))) w := fun w => run_zeroA _ _ (by kernel_rfl)
  obtain ⟨s, hs⟩ : ∃ s, cat f len = s := ⟨_, rfl⟩
  have hsz : s.size = lens f len := by rw [← hs, cat_size]
  have HCat := Lib.hid (fun j i hj hi => byt_cat f j i len hj hi)
  rw [hs] at HCat ⊢
  have ke := gend_is s w.heap.size (by omega) hg1 hg2
  obtain ⟨O, hO⟩ : ∃ O, sumB s = O := ⟨_, rfl⟩
  rw [hO] at ke ⊢
  clear hr hT hl hO hs
  go_enter Tryd.func7, Tryd.ntmps7
  go_upto_region 2 with (first
    | refine wpList_loadT rfl 27 26 _ rfl 0 8 .u32 beg rfl HT.out.1 (by kernel_rfl) (by kernel_rfl) ?_
    | refine wpList_buildTo rfl 37 _ rfl (some 7) rfl (cellsA 74 (sumC beg (fun _ => 0) 0 0)) (by kernel_rfl) ?_
    | refine wpList_storeA rfl 37 _ _ rfl rfl w.heap.size 74 _ _ rfl rfl (Arr.box w 74 _ _) (cellsA_size _ _) (by kernel_rfl) start_all ?_)
  refine wp_gen (fun W => Below w.heap.size w W ∧ Arr W w.heap.size 74 (sumC beg (fun _ => 0) 0 0)) ⟨belowCells ((Below.refl _ _).alloc (Nat.le_refl _) _) _ (Nat.le_refl _) _ _, (Arr.box w 74 _ _).stored _⟩ ?_
  rintro W1 ⟨hB, hA⟩
  obtain ⟨c0, f0⟩ := hA 0 (by decide)
  have HB := Lib.hid hB; have HA := Lib.hid hA
  replace c0 : W1.cell? ⟨w.heap.size, 0, none⟩ = some (.int .u32 (beg 0)) := c0
  clear hB hA hz
  go_upto_region 3 with fail
  refine wp_gen (fun W => Below w.heap.size w W ∧ SumSt s w.heap.size (lens f 0) W) ⟨HB.out.setCell (Nat.le_refl _) _, 0, 0, fun _ => 0, ⟨rfl, Nat.zero_le _, by decide, fun j hj => by omega, (HA.out.set 0 _ (by decide)).same fun j hj => sumC_set0 s j hj⟩, Or.inl rfl⟩ ?_
  clear HB HA c0 f0
  rintro W2 ⟨hB, hS⟩
  go_upto_region 4 with fail
  go_loopw [16] (SumLoop w s f len w.heap.size) (fun i _ => len - (intOf i).toNat)
  case atStart => exact ⟨0, Nat.zero_le _, rfl, hB, hS⟩
  case round =>
    clear hB hS
    obtain ⟨j, hj, rfl, hB, hS⟩ := hrel
    by_cases hlt : j < len
    · obtain ⟨b, off, rfl, c⟩ := HR.out.2 j hlt
      have hlt' : (j : Int) < (len : Int) := by omega
      replace c := bkeep hB c
      have hle := lens_get f len j hlt
      have kw := gwrite_is s (f j) w.heap.size (lens f j) (fun i hi => (HCat.out j i hlt hi).symm) (by omega) (by have := HL.out; omega) hg1 hg2
      have HB := Lib.hid hB; have HS := Lib.hid hS
      have HX := Lib.hid (show lens f (j + 1) = lens f j + (f j).size from rfl)
      clear hB hS
      generalize f j = t at *
      generalize lens f j = p at *
      go_upto_region 7 with (go_at_call 11; ((with_reducible refine (kw _ (HT.out.keep HB.out) HS.out).mono ?_); rintro e w1 ⟨rfl, hb, hS⟩))
      refine wp_gen (fun W => Below w.heap.size w W ∧ SumSt s w.heap.size (lens f (j + 1)) W) ⟨But.below HB.out hb (Nat.le_refl _) HB.out.size, by rw [HX.out]; exact hS⟩ ?_
      clear HB HS HX hb hS kw c
      rintro W3 ⟨hB, hS⟩
      go_wp2
      go_roundw
      case rel => exact ⟨j + 1, by omega, by go_num, hB, hS⟩
      case measure => simp [intOf]; omega
    · obtain rfl : j = len := by omega
      rw [← hsz] at hS
      go_wp2_with (go_at_call 12; ((with_reducible refine (ke _ (HT.out.keep hB) hS).mono ?_); rintro e w1 ⟨rfl, hb⟩))
      go_ret
      exact ⟨rfl, But.below hB hb (Nat.le_refl _) hB.size⟩
end Go.Proofs.YtajjfonodfncmaaDoor
