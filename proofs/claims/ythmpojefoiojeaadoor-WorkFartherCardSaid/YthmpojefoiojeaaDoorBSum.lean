/-
  What the document's Sum comes to. (Written by gen_bsum.py.)
-/
import Derived.Test.YthmpojefoiojeaaDoorGBlk
import Derived.Test.YthmpojefoiojeaaDoorBPress
import Derived.BigRegion
namespace Go.Proofs.YthmpojefoiojeaaDoor
open Go Go.RowKit
set_option linter.unusedVariables false

def szOf : Value → Nat
  | .string s => s.size
  | _ => 0
theorem ext_all (s : ByteArray) : s.extract 0 s.size = s := by
  apply ByteArray.ext
  apply Array.toList_inj.1
  simp
theorem ext_size (s : ByteArray) (o : Nat) (h : o ≤ s.size) : (s.extract o s.size).size = s.size - o := by
  rw [ByteArray.size_extract]; omega
theorem ext_ext (s : ByteArray) (o p : Nat) (h : o + p ≤ s.size) : (s.extract o s.size).extract p (s.extract o s.size).size = s.extract (o + p) s.size := by
  rw [ext_size s o (by omega)]
  apply ByteArray.ext
  apply Array.toList_inj.1
  simp only [ByteArray.data_extract, Array.toList_extract, List.extract_eq_drop_take']
  have e1 : List.take s.size s.data.toList = s.data.toList := List.take_of_length_le (by simp)
  simp only [e1]
  rw [List.drop_drop]
/-- The bytes of a block, laid into noughts. -/
theorem cop_blk (s : ByteArray) (o : Nat) (T : ByteArray) (m : Nat) (hT : T = s.extract o m) (hm : m ≤ s.size) (h64 : T.size ≤ 64) (hend : T.size = 64 ∨ m = s.size) (ho : o ≤ m) :
    ∀ j, j < 64 → cop (fun _ => Value.int .u8 0) 0 (T.data.toList.map fun x => Value.int .u8 (x.toNat : Int)) j = w8 (blkOf s o) j := by
  intro j hj
  have hsz : T.size = m - o := by rw [hT, ByteArray.size_extract]; omega
  have hl : (T.data.toList.map fun x => Value.int .u8 (x.toNat : Int)).length = T.size := strCs_len T
  unfold cop
  rw [hl]
  by_cases h : j < T.size
  · rw [if_pos (by omega), Nat.sub_zero]
    have := strCs_at T j h
    unfold strCs at this
    rw [this]
    show Value.int .u8 (byt T j) = Value.int .u8 (byt s (o + j))
    rw [hT, byt_extract s o m j hm (by omega)]
  · rw [if_neg (by omega)]
    show Value.int .u8 0 = Value.int .u8 (byt s (o + j))
    rw [byt_out s (o + j) (by omega)]
def SumR12 (g8 : Nat) (T T0 : ByteArray) (sl : Nat) (v : Value) (W : World) : Prop :=
  match sl with
  | 35 => v = .slice (some ⟨g8, 0, none⟩) 64 64
  | 36 => v = .string T
  | _ => v = .string T0
theorem SumR12.keep {g8 : Nat} {T T0 : ByteArray} {sl : Nat} {v : Value} {W W' : World} (h : SumR12 g8 T T0 sl v W) (hb : Below W.heap.size W W') : SumR12 g8 T T0 sl v W' := h
def SLoop2 (w : World) (s : ByteArray) (g5 : Nat) (x d : Value) (W : World) : Prop :=
  ∃ k : Nat, (k = 0 ∨ 64 * k < s.size) ∧ x = .string (s.extract (64 * k) s.size) ∧ d = .int .u64 (64 * (k : Int)) ∧ Below w.heap.size w W ∧ Arr W g5 8 (w32 (hseq s k))
theorem four_cells (W : World) (t : TypeId) (b0 b1 b2 b3 : Int) : ∀ i, i < 4 → (W.alloc (.cells #[.int .u8 b0, .int .u8 b1, .int .u8 b2, .int .u8 b3] t)).cell? ⟨W.heap.size, 0 + i, none⟩ = some (.int .u8 ([b0, b1, b2, b3].getD i 0)) := by
  intro i hi
  have : i = 0 ∨ i = 1 ∨ i = 2 ∨ i = 3 := by omega
  rcases this with rfl | rfl | rfl | rfl <;> simp [go_sem]
def SLoop3 (w : World) (h : Nat → Int) (g5 : Nat) (x i : Value) (W : World) : Prop :=
  ∃ j : Nat, j ≤ 8 ∧ x = .string (outS h (4 * j)) ∧ i = .int .i64 j ∧ Below w.heap.size w W ∧ Arr W g5 8 (w32 h)
def OutR (O : ByteArray) (j g5 : Nat) (x b0 b1 b2 b3 : Int) (sl : Nat) (v : Value) (W : World) : Prop :=
  match sl with
  | 58 => v = .string O
  | 59 => v = .int .i64 j
  | 60 => v = .pointer (some ⟨g5, j, none⟩)
  | 61 => v = .int .u32 x
  | 62 => v = .int .u8 b0
  | 63 => v = .int .i64 j
  | 64 => v = .pointer (some ⟨g5, j, none⟩)
  | 65 => v = .int .u32 x
  | 66 => v = .int .u32 (x / 256)
  | 67 => v = .int .u8 b1
  | 68 => v = .int .i64 j
  | 69 => v = .pointer (some ⟨g5, j, none⟩)
  | 70 => v = .int .u32 x
  | 71 => v = .int .u32 (x / 65536)
  | 72 => v = .int .u8 b2
  | 73 => v = .int .i64 j
  | 74 => v = .pointer (some ⟨g5, j, none⟩)
  | 75 => v = .int .u32 x
  | 76 => v = .int .u32 (x / 16777216)
  | 77 => v = .int .u8 b3
  | 78 => ∃ g c : Nat, v = .slice (some ⟨g, 0, none⟩) 4 c ∧ ∀ i, i < 4 → W.cell? ⟨g, 0 + i, none⟩ = some (.int .u8 ([b0, b1, b2, b3].getD i 0))
  | 79 => v = .string (strOfNums [b0, b1, b2, b3])
  | _ => v = .string (O ++ strOfNums [b0, b1, b2, b3])
theorem OutR.keep {O : ByteArray} {j g5 : Nat} {x b0 b1 b2 b3 : Int} {sl : Nat} {v : Value} {W W' : World} (h : OutR O j g5 x b0 b1 b2 b3 sl v W) (hb : Below W.heap.size W W') : OutR O j g5 x b0 b1 b2 b3 sl v W' := by
  unfold OutR at *
  split at h
  all_goals first | exact h | (obtain ⟨g, c, h1, h2⟩ := h; exact ⟨g, c, h1, fun i hi => bkeep hb (h2 i hi)⟩)
set_option maxRecDepth 100000 in
set_option maxHeartbeats 8000000 in
theorem rsum_is (a : Option Addr) (len cap : Nat) (f : Nat → ByteArray) (w : World) (hr : StrA w a len f) (hl : lens f len ≤ 1000000) :
    Calls Tryd.prog 21 #[.slice a len cap] w fun e w' => e = .returned (.string (sumB (cat f len))) ∧ Below w.heap.size w w' := by
  have HC := Lib.hid hr.2
  have hml := hr.1
  unfold maxLen at hml
  have HL := Lib.hid hl
  clear hr hl
  go_enter Tryd.func21, Tryd.ntmps21
  go_upto_region 3 with fail
  go_loop [3, 4] (fun s i => ∃ j : Nat, j ≤ len ∧ s = .string (cat f j) ∧ i = .int .i64 j) (fun _ i => len - (intOf i).toNat)
  case atStart => exact ⟨0, Nat.zero_le _, rfl, rfl⟩
  case round =>
    obtain ⟨j, hj, rfl, rfl⟩ := hrel
    by_cases hlt : j < len
    · obtain ⟨b, off, rfl, c⟩ := HC.out j hlt
      have hlt' : (j : Int) < (len : Int) := by omega
      have hsz : (cat f j).size + (f j).size ≤ 1000000 := by
        have := lens_mono f (j + 1) (len - (j + 1))
        rw [show j + 1 + (len - (j + 1)) = len by omega, lens] at this
        rw [cat_size]
        have := HL.out
        omega
      go_wp2
      go_round
      case rel => exact ⟨j + 1, by omega, rfl, by go_num⟩
      case measure => simp [intOf]; omega
    · obtain rfl : j = len := by omega
      have hsz : (cat f j).size ≤ 1000000 := by rw [cat_size]; exact HL.out
      obtain ⟨s, hs⟩ : ∃ s, cat f j = s := ⟨_, rfl⟩
      rw [hs] at hsz ⊢
      have HSS := Lib.hid hs
      clear HC HL hs
      go_upto_region 7 with (first
        | (go_at_call 27; ((with_reducible refine (rbegin_is _).mono ?_); rintro e w1 ⟨rfl, hb⟩))
        | refine wpList_storeA rfl 42 _ _ rfl rfl w1.heap.size 8 _ _ rfl rfl (Arr.zeros w1 8 (.int .u32 0) _ _ (by rfl)) (cellsA_size _ _) (by kernel_rfl) (w32_all _ _) ?_)
      refine wp_gen (fun W => Below w.heap.size w W ∧ Arr W w1.heap.size 8 (w32 beg)) ⟨belowCells (hb.alloc hb.size _) _ hb.size _ _, (Arr.zeros w1 8 (.int .u32 0) _ _ (by rfl)).stored _⟩ ?_
      have lt5 := hb.size
      generalize w1.heap.size = g5 at *
      clear hb
      rintro W1 ⟨hB, hA⟩
      have HB := Lib.hid hB; have HA := Lib.hid hA
      obtain ⟨c0, f0⟩ := hA 0 (by decide)
      simp only [w32] at c0
      clear hB hA
      go_upto_region 8 with fail
      refine wp_gen (fun W => Below w.heap.size w W ∧ Arr W g5 8 (w32 (hseq s 0))) ⟨HB.out.setCell lt5 _, (HA.out.set 0 _ (by decide)).same (fun j _ => w32_upd _ _ _ _)⟩ ?_
      clear HB HA c0 f0
      rintro W2 ⟨hB, hA⟩
      go_upto_region 10 with fail
      go_loopw [3, 7] (SLoop2 w s g5) (fun x _ _ => szOf x)
      case atStart => exact ⟨0, Or.inl rfl, by rw [Nat.mul_zero, ext_all], rfl, hB, hA⟩
      case round =>
        clear hB hA
        obtain ⟨k, hk, rfl, rfl, hB, hA⟩ := hrel
        have hT := ext_size s (64 * k) (by omega)
        by_cases hlt : 64 * k + 64 < s.size
        · obtain ⟨T, hTT⟩ : ∃ T, s.extract (64 * k) s.size = T := ⟨_, rfl⟩
          obtain ⟨T0, hT0⟩ : ∃ T0, T.extract 0 64 = T0 := ⟨_, rfl⟩
          have hT0e : T0 = s.extract (64 * k) (64 * k + 64) := by
            rw [← hT0, ← hTT]
            apply ByteArray.ext
            apply Array.toList_inj.1
            simp only [ByteArray.data_extract, Array.toList_extract, List.extract_eq_drop_take', List.drop_zero]
            rw [List.take_drop, List.take_take]
            congr 2
            omega
          have hT0s : T0.size = 64 := by rw [hT0e, ByteArray.size_extract]; omega
          have hT1 : T.extract 64 T.size = s.extract (64 * (k + 1)) s.size := by rw [← hTT, ext_ext s (64 * k) 64 (by omega)]; congr 1
          rw [hTT] at hT ⊢
          have hTl : 64 < T.size := by omega
          have hTl' : (64 : Int) < (T.size : Int) := by omega
          have hTu : T.size ≤ 1000000 := by omega
          have HT := Lib.hid hT; have HT0 := Lib.hid hT0; have HT1 := Lib.hid hT1; have HT0E := Lib.hid hT0e
          clear hT hT0 hT1 hT0e hTT
          have HB := Lib.hid hB; have HA := Lib.hid hA
          have lt5 := hA.lt (by decide)
          clear hB hA
          go_upto_region 12 with fail
          refine wp_gen (fun W => Below w.heap.size w W ∧ Arr W g5 8 (w32 (hseq s k)) ∧ Arr W wr.heap.size 64 (fun _ => .int .u8 0)) ⟨HB.out.alloc HB.out.size _, HA.out.alloc _, Arr.zeros _ 64 (.int .u8 0) _ _ (by rfl)⟩ ?_
          have lt8 := HB.out.size
          generalize wr.heap.size = g8 at *
          clear HB HA
          rintro W3 ⟨hB, hA, hE⟩
          have HB := Lib.hid hB; have HA := Lib.hid hA; have HE := Lib.hid hE
          clear hB hA hE
          have hk64 : 64 * (k : Int) + 64 < 18446744073709551616 := by omega
          have kp := rpress_is (hseq s k) (blkOf s (64 * k)) (64 * (k : Int) + 64) false (blkOf_bytes _ _) ⟨by omega, hk64⟩
          have hkp : press (hseq s k) (blkOf s (64 * k)) (64 * (k : Int) + 64) false = hseq s (k + 1) := by
            show _ = press (hseq s k) (blkOf s (64 * k)) (64 * ((k : Int) + 1)) false
            rw [show 64 * ((k : Int) + 1) = 64 * (k : Int) + 64 by omega]
          rw [hkp] at kp
          clear hkp
          refine wp_loose [(35, []), (36, []), (37, [36])]
            (SumR12 g8 T T0) (fun d => false) (by kernel_rfl) (by kernel_rfl) (fun _ _ _ _ h hb => h.keep hb) ?_ ?_
          · refine opsrun_cons ?_ (opsrun_cons ?_ (opsrun_cons ?_ opsrun_nil))
            all_goals
              refine OpRuns.any ?_
              intro Q0 σ W' K hb hn hK
              simp only [fill, List.map, Act.put, List.setIfInBounds_toArray, List.set_cons_zero, List.set_cons_succ] at hK ⊢
            · clear hn
              go_simp
              exact hK _ _ rfl (Below.refl _ _) (fun h => absurd h (by decide))
            · clear hn
              go_simp
              exact hK _ _ rfl (Below.refl _ _) (fun h => absurd h (by decide))
            · have h36 : σ 36 = _ := hn 36 (by decide)
              clear hn
              simp only [h36] at hK
              have hTl2 : (64 : Int) ≤ (T.size : Int) := by omega
              go_simp
              exact hK _ _ (congrArg Value.string HT0.out) (Below.refl _ _) (fun h => absurd h (by decide))
          · intro σ W' hb hR' hF
            have h35 : σ 35 = _ := hR' 35 (by decide)
            have h37 : σ 37 = _ := hR' 37 (by decide)
            replace HB := Lib.hid (bthen HB.out hb); replace HA := Lib.hid (HA.out.keep hb); replace HE := Lib.hid (HE.out.keep hb)
            clear hR' hF hb
            simp only [fill, List.map, Act.put, List.setIfInBounds_toArray, List.set_cons_zero, List.set_cons_succ, List.length_cons, List.length_nil, List.drop_succ_cons, List.drop_zero, Nat.reduceAdd, h35, h37]
            go_upto_region 13 with (refine wpList_copy_strA rfl _ _ 51 9 rfl 5 (by kernel_rfl) (by kernel_rfl) g8 64 64 64 rfl T0 rfl (by omega) (fun _ => .int .u8 0) HE.out (by omega) ?_)
            refine wp_gen (fun W => Below w.heap.size w W ∧ Arr W g5 8 (w32 (hseq s k)) ∧ Arr W g8 64 (w8 (blkOf s (64 * k)))) ⟨belowCells HB.out _ lt8 _ _, Arr.farCells (by omega) _ _ HA.out, (HE.out.setCells _ 0 (by simp; omega)).same (cop_blk s (64 * k) T0 (64 * k + 64) HT0E.out (by omega) (by omega) (Or.inl hT0s) (by omega))⟩ ?_
            clear HB HA HE h35 h37
            rintro W4 ⟨hB, hA, hE⟩
            have HB := Lib.hid hB; have HA := Lib.hid hA; have HE := Lib.hid hE
            clear hB hA hE
            go_upto_region 15 with (first
              | refine wpList_loadA rfl 42 41 _ rfl g5 8 (w32 (hseq s k)) rfl HA.out (by kernel_rfl) (by kernel_rfl) ?_
              | refine wpList_loadA rfl 43 5 _ rfl g8 64 (w8 (blkOf s (64 * k))) rfl HE.out (by kernel_rfl) (by kernel_rfl) ?_
              | (go_at_call 28; ((with_reducible refine (kp _).mono ?_); rintro e w5 ⟨rfl, hb⟩; replace HB := Lib.hid (bthen HB.out hb); replace HA := Lib.hid (HA.out.keep hb); clear hb))
              | refine wpList_storeA rfl 42 _ _ rfl rfl g5 8 _ _ rfl rfl HA.out (cellsA_size _ _) (by kernel_rfl) (w32_all _ _) ?_)
            refine wp_gen (fun W => Below w.heap.size w W ∧ Arr W g5 8 (w32 (hseq s (k + 1)))) ⟨belowCells HB.out _ (by omega) _ _, HA.out.stored _⟩ ?_
            clear HB HA HE kp
            rintro W6 ⟨hB, hA⟩
            go_wp2
            go_roundw
            case rel => exact ⟨k + 1, Or.inr (by omega), by rw [← HT1.out], by go_num, hB, hA⟩
            case measure => simp [szOf]; omega
        · have hnb : nbl s = k := nbl_is (by omega) hk
          obtain ⟨T, hTT⟩ : ∃ T, s.extract (64 * k) s.size = T := ⟨_, rfl⟩
          rw [hTT] at hT ⊢
          have hTl : T.size ≤ 64 := by omega
          have hTl' : (T.size : Int) ≤ 64 := by omega
          have hko : 64 * k ≤ s.size := by omega
          have HT := Lib.hid hT; have HTT := Lib.hid hTT
          clear hT hTT hlt
          have HB := Lib.hid hB; have HA := Lib.hid hA
          have lt5 := hA.lt (by decide)
          clear hB hA
          go_upto_region 17 with fail
          refine wp_gen (fun W => Below w.heap.size w W ∧ Arr W g5 8 (w32 (hseq s k)) ∧ Arr W wr.heap.size 64 (fun _ => .int .u8 0)) ⟨HB.out.alloc HB.out.size _, HA.out.alloc _, Arr.zeros _ 64 (.int .u8 0) _ _ (by rfl)⟩ ?_
          have lt8 := HB.out.size
          generalize wr.heap.size = g8 at *
          clear HB HA
          rintro W3 ⟨hB, hA, hE⟩
          have HB := Lib.hid hB; have HA := Lib.hid hA; have HE := Lib.hid hE
          clear hB hA hE
          go_upto_region 18 with (refine wpList_copy_strA rfl _ _ 51 9 rfl 5 (by kernel_rfl) (by kernel_rfl) g8 64 64 64 rfl T rfl (by omega) (fun _ => .int .u8 0) HE.out (by omega) ?_)
          refine wp_gen (fun W => Below w.heap.size w W ∧ Arr W g5 8 (w32 (hseq s k)) ∧ Arr W g8 64 (w8 (blkOf s (64 * k)))) ⟨belowCells HB.out _ lt8 _ _, Arr.farCells (by omega) _ _ HA.out, (HE.out.setCells _ 0 (by simp; omega)).same (cop_blk s (64 * k) T s.size HTT.out.symm (Nat.le_refl _) hTl (Or.inr rfl) hko)⟩ ?_
          clear HB HA HE
          rintro W4 ⟨hB, hA, hE⟩
          have HB := Lib.hid hB; have HA := Lib.hid hA; have HE := Lib.hid hE
          clear hB hA hE
          have kp := rpress_is (hseq s k) (blkOf s (64 * k)) s.size true (blkOf_bytes _ _) ⟨by omega, by omega⟩
          have hkp : press (hseq s k) (blkOf s (64 * k)) s.size true = hend s := by unfold hend; rw [hnb]
          rw [hkp] at kp
          go_upto_region 19 with (first
            | refine wpList_loadA rfl 42 41 _ rfl g5 8 (w32 (hseq s k)) rfl HA.out (by kernel_rfl) (by kernel_rfl) ?_
            | refine wpList_loadA rfl 43 5 _ rfl g8 64 (w8 (blkOf s (64 * k))) rfl HE.out (by kernel_rfl) (by kernel_rfl) ?_
            | (go_at_call 28; ((with_reducible refine (kp _).mono ?_); rintro e w5 ⟨rfl, hb⟩; replace HB := Lib.hid (bthen HB.out hb); replace HA := Lib.hid (HA.out.keep hb); clear hb))
            | refine wpList_storeA rfl 42 _ _ rfl rfl g5 8 _ _ rfl rfl HA.out (cellsA_size _ _) (by kernel_rfl) (w32_all _ _) ?_)
          refine wp_gen (fun W => Below w.heap.size w W ∧ Arr W g5 8 (w32 (hend s))) ⟨belowCells HB.out _ (by omega) _ _, HA.out.stored _⟩ ?_
          clear HB HA HE kp hkp
          rintro W6 ⟨hB, hA⟩
          have hsum : sumB s = outS (hend s) 32 := rfl
          go_upto_region 21 with fail
          go_loopw [10, 11] (SLoop3 w (hend s) g5) (fun _ i _ => 8 - (intOf i).toNat)
          case atStart => exact ⟨0, by omega, rfl, rfl, hB, hA⟩
          case round =>
            clear hB hA
            obtain ⟨i, hi, rfl, rfl, hB, hA⟩ := hrel
            by_cases hlt : i < 8
            · have hi8 : (i : Int) < 8 := by omega
              obtain ⟨cx, _⟩ := hA i hlt
              simp only [w32] at cx
              have HO := Lib.hid (outS_next (hend s) i)
              have HB := Lib.hid hB; have HA := Lib.hid hA
              have hos : (outS (hend s) (4 * i)).size ≤ 32 := by unfold outS; rw [strOfNums_size]; simp; omega
              clear hB hA hsum
              obtain ⟨O2, hO2⟩ : ∃ O2, outS (hend s) (4 * (i + 1)) = O2 := ⟨_, rfl⟩
              rw [hO2] at HO
              generalize outS (hend s) (4 * i) = O at *
              generalize hend s = hh at *
              have HO2 := Lib.hid hO2
              clear hO2
              have hcs : O.size + (strOfNums [hh i % 256, hh i / 256 % 256, hh i / 65536 % 256, hh i / 16777216 % 256]).size ≤ 1000 := by rw [strOfNums_size]; simp; omega
              generalize hh i = x at *
              clear hTl hTl' hos
              go_upto_region 23 with fail
              refine wp_loose [(58, []), (59, []), (60, [59]), (61, [60]), (62, [61]), (63, []), (64, [63]), (65, [64]), (66, [65]), (67, [66]), (68, []), (69, [68]), (70, [69]), (71, [70]), (72, [71]), (73, []), (74, [73]), (75, [74]), (76, [75]), (77, [76]), (78, [62, 67, 72, 77]), (79, [78]), (80, [58, 79])]
                (OutR O i g5 x (x % 256) (x / 256 % 256) (x / 65536 % 256) (x / 16777216 % 256)) (fun d => false) (by kernel_rfl) (by kernel_rfl) (fun _ _ _ _ h hb => h.keep hb) ?_ ?_
              · refine opsrun_cons ?_ (opsrun_cons ?_ (opsrun_cons ?_ (opsrun_cons ?_ (opsrun_cons ?_ (opsrun_cons ?_ (opsrun_cons ?_ (opsrun_cons ?_ (opsrun_cons ?_ (opsrun_cons ?_ (opsrun_cons ?_ (opsrun_cons ?_ (opsrun_cons ?_ (opsrun_cons ?_ (opsrun_cons ?_ (opsrun_cons ?_ (opsrun_cons ?_ (opsrun_cons ?_ (opsrun_cons ?_ (opsrun_cons ?_ (opsrun_cons ?_ (opsrun_cons ?_ (opsrun_cons ?_ opsrun_nil))))))))))))))))))))))
                all_goals
                  refine OpRuns.any ?_
                  intro Q0 σ W' K hb hn hK
                  simp only [fill, List.map, Act.put, List.setIfInBounds_toArray, List.set_cons_zero, List.set_cons_succ] at hK ⊢
                · clear hn
                  go_simp
                  exact hK _ _ rfl (Below.refl _ _) (fun h => absurd h (by decide))
                · clear hn
                  go_simp
                  exact hK _ _ rfl (Below.refl _ _) (fun h => absurd h (by decide))
                · have h59 : σ 59 = _ := hn 59 (by decide)
                  clear hn
                  simp only [h59] at hK
                  go_simp
                  exact hK _ _ rfl (Below.refl _ _) (fun h => absurd h (by decide))
                · have h60 : σ 60 = _ := hn 60 (by decide)
                  clear hn
                  simp only [h60] at hK
                  have cx' := bkeep hb cx
                  clear cx
                  go_simp
                  exact hK _ _ rfl (Below.refl _ _) (fun h => absurd h (by decide))
                · have h61 : σ 61 = _ := hn 61 (by decide)
                  clear hn
                  simp only [h61] at hK
                  go_simp
                  exact hK _ _ rfl (Below.refl _ _) (fun h => absurd h (by decide))
                · clear hn
                  go_simp
                  exact hK _ _ rfl (Below.refl _ _) (fun h => absurd h (by decide))
                · have h63 : σ 63 = _ := hn 63 (by decide)
                  clear hn
                  simp only [h63] at hK
                  go_simp
                  exact hK _ _ rfl (Below.refl _ _) (fun h => absurd h (by decide))
                · have h64 : σ 64 = _ := hn 64 (by decide)
                  clear hn
                  simp only [h64] at hK
                  have cx' := bkeep hb cx
                  clear cx
                  go_simp
                  exact hK _ _ rfl (Below.refl _ _) (fun h => absurd h (by decide))
                · have h65 : σ 65 = _ := hn 65 (by decide)
                  clear hn
                  simp only [h65] at hK
                  go_simp
                  exact hK _ _ rfl (Below.refl _ _) (fun h => absurd h (by decide))
                · have h66 : σ 66 = _ := hn 66 (by decide)
                  clear hn
                  simp only [h66] at hK
                  go_simp
                  exact hK _ _ rfl (Below.refl _ _) (fun h => absurd h (by decide))
                · clear hn
                  go_simp
                  exact hK _ _ rfl (Below.refl _ _) (fun h => absurd h (by decide))
                · have h68 : σ 68 = _ := hn 68 (by decide)
                  clear hn
                  simp only [h68] at hK
                  go_simp
                  exact hK _ _ rfl (Below.refl _ _) (fun h => absurd h (by decide))
                · have h69 : σ 69 = _ := hn 69 (by decide)
                  clear hn
                  simp only [h69] at hK
                  have cx' := bkeep hb cx
                  clear cx
                  go_simp
                  exact hK _ _ rfl (Below.refl _ _) (fun h => absurd h (by decide))
                · have h70 : σ 70 = _ := hn 70 (by decide)
                  clear hn
                  simp only [h70] at hK
                  go_simp
                  exact hK _ _ rfl (Below.refl _ _) (fun h => absurd h (by decide))
                · have h71 : σ 71 = _ := hn 71 (by decide)
                  clear hn
                  simp only [h71] at hK
                  go_simp
                  exact hK _ _ rfl (Below.refl _ _) (fun h => absurd h (by decide))
                · clear hn
                  go_simp
                  exact hK _ _ rfl (Below.refl _ _) (fun h => absurd h (by decide))
                · have h73 : σ 73 = _ := hn 73 (by decide)
                  clear hn
                  simp only [h73] at hK
                  go_simp
                  exact hK _ _ rfl (Below.refl _ _) (fun h => absurd h (by decide))
                · have h74 : σ 74 = _ := hn 74 (by decide)
                  clear hn
                  simp only [h74] at hK
                  have cx' := bkeep hb cx
                  clear cx
                  go_simp
                  exact hK _ _ rfl (Below.refl _ _) (fun h => absurd h (by decide))
                · have h75 : σ 75 = _ := hn 75 (by decide)
                  clear hn
                  simp only [h75] at hK
                  go_simp
                  exact hK _ _ rfl (Below.refl _ _) (fun h => absurd h (by decide))
                · have h76 : σ 76 = _ := hn 76 (by decide)
                  clear hn
                  simp only [h76] at hK
                  go_simp
                  exact hK _ _ rfl (Below.refl _ _) (fun h => absurd h (by decide))
                · have h62 : σ 62 = _ := hn 62 (by decide)
                  have h67 : σ 67 = _ := hn 67 (by decide)
                  have h72 : σ 72 = _ := hn 72 (by decide)
                  have h77 : σ 77 = _ := hn 77 (by decide)
                  clear hn
                  simp only [h62, h67, h72, h77] at hK
                  go_simp
                  exact hK _ _ ⟨_, _, rfl, four_cells _ _ _ _ _ _⟩ ((Below.refl _ _).alloc (Nat.le_refl _) _) (fun h => absurd h (by decide))
                · obtain ⟨g, c, h78, hcs78⟩ : ∃ g c : Nat, σ 78 = .slice (some ⟨g, 0, none⟩) 4 c ∧ ∀ i, i < 4 → W'.cell? ⟨g, 0 + i, none⟩ = some (.int .u8 ([x % 256, x / 256 % 256, x / 65536 % 256, x / 16777216 % 256].getD i 0)) := hn 78 (by decide)
                  clear hn
                  simp only [h78] at hK ⊢
                  have hcv := run_convert_bytes_arg (P := Tryd.prog) W' 51 5 (by kernel_rfl) (by kernel_rfl) g 0 4 c [x % 256, x / 256 % 256, x / 65536 % 256, x / 16777216 % 256] rfl hcs78 9 (by kernel_rfl)
                  clear hcs78
                  go_simp
                  exact hK _ _ rfl (Below.refl _ _) (fun h => absurd h (by decide))
                · have h58 : σ 58 = _ := hn 58 (by decide)
                  have h79 : σ 79 = _ := hn 79 (by decide)
                  clear hn
                  simp only [h58, h79] at hK
                  have hcs2 : ¬ (9223372036854775807 < O.size + (strOfNums [x % 256, x / 256 % 256, x / 65536 % 256, x / 16777216 % 256]).size) := by omega
                  go_simp
                  exact hK _ _ rfl (Below.refl _ _) (fun h => absurd h (by decide))
              · intro σ W' hb hR' hF
                have h80 : σ 80 = _ := hR' 80 (by decide)
                replace HB := Lib.hid (bthen HB.out hb); replace HA := Lib.hid (HA.out.keep hb)
                clear hR' hF hb cx
                simp only [fill, List.map, Act.put, List.setIfInBounds_toArray, List.set_cons_zero, List.set_cons_succ, List.length_cons, List.length_nil, List.drop_succ_cons, List.drop_zero, Nat.reduceAdd, h80]
                clear h80
                go_wp2
                go_roundw
                case rel => exact ⟨i + 1, by omega, by rw [HO.out, HO2.out], by go_num, HB.out, HA.out⟩
                case measure => simp [intOf]; omega
            · obtain rfl : i = 8 := by omega
              go_wp2
              go_ret
              exact ⟨by rw [HSS.out]; rfl, hB⟩
end Go.Proofs.YthmpojefoiojeaaDoor
