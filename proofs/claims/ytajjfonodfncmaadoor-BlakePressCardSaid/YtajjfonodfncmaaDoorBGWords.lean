/-
  The program's words (of a block), ordered (of a round): rows by value.
-/
import Derived.Test.YtajjfonodfncmaaDoorBGRound
import Derived.Test.YtajjfonodfncmaaDoorTabs
import Derived.BigRegion
namespace Go.Proofs.YtajjfonodfncmaaDoor
open Go Go.RowKit
set_option linter.unusedVariables false

def wrow (f : Nat → Int) (i j : Nat) : Int := if j < i then f j else 0
theorem wrow_zero (f : Nat → Int) : ∀ j, Value.int .u32 0 = w32 (wrow f 0) j := by
  intro j; show Value.int .u32 0 = Value.int .u32 (wrow f 0 j); unfold wrow; rw [if_neg (by omega)]
theorem wrow_set (f : Nat → Int) (i : Nat) : ∀ j, (if j = i then Value.int .u32 (f i) else w32 (wrow f i) j) = w32 (wrow f (i + 1)) j := by
  intro j
  show _ = Value.int .u32 (wrow f (i + 1) j)
  unfold wrow
  by_cases h1 : j = i
  · subst h1; rw [if_pos rfl, if_pos (by omega)]
  · rw [if_neg h1]
    show Value.int .u32 (wrow f i j) = _
    unfold wrow
    by_cases h2 : j < i
    · rw [if_pos h2, if_pos (by omega)]
    · rw [if_neg h2, if_neg (by omega)]
theorem wrow_end (f : Nat → Int) (n : Nat) : ∀ j, j < n → w32 (wrow f n) j = w32 f j := by
  intro j hj
  show Value.int .u32 (wrow f n j) = Value.int .u32 (f j)
  unfold wrow; rw [if_pos hj]
/-- What stands through: what came, the result's place, the row under way. -/
def WSt (w : World) (c : Nat → Value) (n : Nat) (f : Nat → Int) (i : Nat) (W : World) : Prop := Below w.heap.size w W ∧ Arr W w.heap.size n c ∧ Arr W (w.heap.size + 1) 16 (fun _ => .int .u32 0) ∧ Arr W (w.heap.size + 2) 16 (w32 (wrow f i))
theorem WSt.start (w : World) (c : Nat → Value) (n : Nat) (f : Nat → Int) (t1 t2 t3 : TypeId) (z : Array Value) (hz : z = Array.replicate 16 (.int .u32 0)) : WSt w c n f 0 (((w.alloc (.cells (cellsA n c) t1)).alloc (.cells z t2)).alloc (.cells z t3)) := by
  have a1 := Arr.box w n c t1
  have b1 := (Below.refl w.heap.size w).alloc (Nat.le_refl _) (.cells (cellsA n c) t1)
  have s1 : (w.alloc (.cells (cellsA n c) t1)).heap.size = w.heap.size + 1 := by simp
  generalize w.alloc (.cells (cellsA n c) t1) = w1 at *
  have a2 := Arr.zeros w1 16 (.int .u32 0) z t2 hz
  have s2 : (w1.alloc (.cells z t2)).heap.size = w.heap.size + 2 := by simp [s1]
  have b2 := b1.alloc (by omega) (.cells z t2)
  replace a1 := a1.alloc (.cells z t2)
  generalize w1.alloc (.cells z t2) = w2 at *
  have a3 := Arr.zeros w2 16 (.int .u32 0) z t3 hz
  rw [s1] at a2
  rw [s2] at a3
  exact ⟨b2.alloc (by omega) _, a1.alloc _, a2.alloc _, (a3.same fun j _ => wrow_zero f j)⟩
theorem WSt.next {w W : World} {c : Nat → Value} {n : Nat} {f : Nat → Int} {i : Nat} (s : WSt w c n f i W) (hi : i < 16) : WSt w c n f (i + 1) (W.setCell ⟨w.heap.size + 2, i, none⟩ (.int .u32 (f i))) :=
  ⟨s.1.setCell (by show w.heap.size ≤ w.heap.size + 2; omega) _, s.2.1.far (by omega) _ _, s.2.2.1.far (by omega) _ _, (s.2.2.2.set i _ hi).same fun j _ => wrow_set f i j⟩
theorem WSt.drew {w W : World} {c : Nat → Value} {n : Nat} {f : Nat → Int} {i : Nat} (s : WSt w c n f i W) : WSt w c n f i W.drew := ⟨s.1.drew, s.2.1, s.2.2.1, s.2.2.2⟩
def WLoop (w : World) (c : Nat → Value) (n : Nat) (f : Nat → Int) (s : Value) (W : World) : Prop := ∃ i : Nat, i ≤ 16 ∧ s = .int .i64 i ∧ WSt w c n f i W

set_option maxRecDepth 100000 in
set_option maxHeartbeats 8000000 in
theorem gwords_is (b : Nat → Int) (hb : IsBytes 64 b) (w : World) :
    Calls Tryd.prog 14 #[.agg (cellsA 64 (w8 b))] w fun e w' => e = .returned (.agg (cellsA 16 (w32 (le4 b)))) ∧ Below w.heap.size w w' := by
  have HBY := Lib.hid hb
  clear hb
  go_enter Tryd.func14, Tryd.ntmps14
  go_upto_region 2 with fail
  refine wp_gen (fun W => WSt w (w8 b) 64 (le4 b) 0 W) (WSt.start w _ _ _ _ _ _ _ (by rfl)) ?_
  rintro W0 hS
  go_upto_region 3 with fail
  go_loopw [6] (WLoop w (w8 b) 64 (le4 b)) (fun i _ => 16 - (intOf i).toNat)
  case atStart => exact ⟨0, by omega, rfl, hS⟩
  case round =>
    clear hS
    obtain ⟨i, hi, rfl, hS⟩ := hrel
    by_cases hlt : i < 16
    · have hi16 : (i : Int) < 16 := by omega
      have hwr : IntKind.i64.wrap (4 * (i : Int)) = ((4 * i : Nat) : Int) := by rw [IntWalk.i64_in _ (by omega)]; omega
      have HS := Lib.hid hS
      obtain ⟨c0, _⟩ := hS.2.1 (4 * i) (by omega)
      obtain ⟨c1, _⟩ := hS.2.1 (4 * i + 1) (by omega)
      obtain ⟨c2, _⟩ := hS.2.1 (4 * i + 2) (by omega)
      obtain ⟨c3, _⟩ := hS.2.1 (4 * i + 3) (by omega)
      obtain ⟨cm, fm⟩ := hS.2.2.2 i (by omega)
      have h0 := HBY.out (4 * i) (by omega); have h1 := HBY.out (4 * i + 1) (by omega); have h2 := HBY.out (4 * i + 2) (by omega); have h3 := HBY.out (4 * i + 3) (by omega)
      have HW := Lib.hid (word_up _ _ _ _ h0 h1 h2 h3)
      have hz : le4 b i = b (4 * i) + 256 * (b (4 * i + 1) + 256 * (b (4 * i + 2) + 256 * b (4 * i + 3))) := rfl
      have HZ := Lib.hid hz
      simp only [w8, w32] at c0 c1 c2 c3 cm
      clear hS hz
      generalize hq : 4 * i = q at *
      generalize b q = z0 at *
      generalize b (q + 1) = z1 at *
      generalize b (q + 2) = z2 at *
      generalize b (q + 3) = z3 at *
      have hq1 : (q : Int) + 3 < 64 := by omega
      have hq2 : (q : Int) + 2 < 64 := by omega
      have hq3 : (q : Int) + 1 < 64 := by omega
      have hq4 : (q : Int) < 64 := by omega
      have w1 : IntKind.i64.wrap ((q : Int) + 1) = (q : Int) + 1 := IntWalk.i64_in _ (by omega)
      have w2 : IntKind.i64.wrap ((q : Int) + 2) = (q : Int) + 2 := IntWalk.i64_in _ (by omega)
      have w3 : IntKind.i64.wrap ((q : Int) + 3) = (q : Int) + 3 := IntWalk.i64_in _ (by omega)
      clear hq
      have HW2 : bits .or .u32 (bits .or .u32 (bits .or .u32 z0 (z1 * 256)) (z2 * 65536)) (z3 * 16777216) = le4 b i := by
        rw [HZ.out, ← HW.out, IntKind.wrap_u32, IntKind.wrap_u32, IntKind.wrap_u32, Int.emod_eq_of_lt (by omega) (by omega), Int.emod_eq_of_lt (by omega) (by omega), Int.emod_eq_of_lt (by omega) (by omega)]
      have HX := Lib.hid HW2
      clear HW HZ HW2
      go_upto_region 6 with fail
      go_region
      go_upto_region 7 with fail
      refine wp_gen (fun W => WSt w (w8 b) 64 (le4 b) (i + 1) W) (by rw [HX.out]; exact (HS.out.next hlt).drew) ?_
      clear HS HX c0 c1 c2 c3 cm fm w1 w2 w3 hwr
      rintro W4 hS
      go_wp2
      go_roundw
      case rel => exact ⟨i + 1, by omega, by go_num, hS⟩
      case measure => simp [intOf]; omega
    · obtain rfl : i = 16 := by omega
      have HP := Lib.hid (hS.2.2.2.same (wrow_end (le4 b) 16)); have HR := Lib.hid hS.2.2.1; have HB := Lib.hid hS.1
      clear hS
      go_wp2_with (first
        | refine wpList_loadA rfl 43 26 _ rfl (w.heap.size + 2) 16 (w32 (le4 b)) rfl HP.out (by kernel_rfl) (by kernel_rfl) ?_
        | refine wpList_storeA rfl 43 _ _ rfl rfl (w.heap.size + 1) 16 _ _ rfl rfl HR.out (cellsA_size _ _) (by kernel_rfl) (g32_all _ _) ?_)
      have ld := run_loadVarA (P := Tryd.prog) (HR.out.stored (w32 (le4 b))) 43 26 (by kernel_rfl) (by kernel_rfl)
      exact bodyPost_ret (v := .agg (cellsA 16 (w32 (le4 b)))) (results_cellA rfl rfl ld) rfl ⟨rfl, belowCells HB.out _ (by omega) _ _⟩

/-- What is known of the program's own tables. -/
def TabB (W : World) : Prop := Tabs W 0 8 .u32 beg ∧ Tabs W 1 160 .u8 (fun j => (ord (j / 16) (j % 16) : Nat))
theorem TabB.keep {W W' : World} (h : TabB W) (hb : Below W.heap.size W W') : TabB W' := ⟨h.1.keep hb, h.2.keep hb⟩
theorem TabB.lt {W : World} (h : TabB W) : 0 < W.heap.size ∧ 1 < W.heap.size := ⟨World.block_lt_of_cell? W _ (h.1 0 (by decide)), World.block_lt_of_cell? W _ (h.2 0 (by decide))⟩
/-- A store into another block. -/
theorem TabB.but {W W' : World} {g : Nat} (h : TabB W) (hb : But g W W') (h1 : g ≠ 0) (h2 : g ≠ 1) : TabB W' := ⟨fun j hj => hb.keep (h.1 j hj) (Ne.symm h1), fun j hj => hb.keep (h.2 j hj) (Ne.symm h2)⟩

set_option maxRecDepth 100000 in
set_option maxHeartbeats 8000000 in
theorem gordered_is (m : Nat → Int) (r : Nat) (hr : r < 10) (w : World) (hT : TabB w) :
    Calls Tryd.prog 16 #[.agg (cellsA 16 (w32 m)), .int .i64 r] w fun e w' => e = .returned (.agg (cellsA 16 (w32 fun k => m (ord r k)))) ∧ Below w.heap.size w w' := by
  have HT := Lib.hid hT
  have hr10 : (r : Int) < 10 := by omega
  clear hT
  go_enter Tryd.func16, Tryd.ntmps16
  go_upto_region 2 with fail
  refine wp_gen (fun W => WSt w (w32 m) 16 (fun k => m (ord r k)) 0 W) (WSt.start w _ _ _ _ _ _ _ (by rfl)) ?_
  rintro W0 hS
  go_upto_region 3 with fail
  go_loopw [7] (WLoop w (w32 m) 16 (fun k => m (ord r k))) (fun i _ => 16 - (intOf i).toNat)
  case atStart => exact ⟨0, by omega, rfl, hS⟩
  case round =>
    clear hS
    obtain ⟨i, hi, rfl, hS⟩ := hrel
    by_cases hlt : i < 16
    · have hi16 : (i : Int) < 16 := by omega
      have HS := Lib.hid hS
      have cT := (HT.out.keep hS.1).2 (r * 16 + i) (by omega)
      simp only [] at cT
      rw [show (r * 16 + i) / 16 = r by omega, show (r * 16 + i) % 16 = i by omega] at cT
      have ho := ord_lt r i hr hlt
      obtain ⟨co, _⟩ := hS.2.1 (ord r i) ho
      obtain ⟨cm, fm⟩ := hS.2.2.2 i (by omega)
      simp only [w32] at co cm
      clear hS
      obtain ⟨q, hq⟩ : ∃ q, ord r i = q := ⟨_, rfl⟩
      have HX := Lib.hid (show m q = (fun k => m (ord r k)) i by rw [← hq])
      rw [hq] at cT co ho
      generalize m q = z at *
      have hq16 : (q : Int) < 16 := by omega
      clear hq
      go_upto_region 6 with fail
      refine wp_gen (fun W => WSt w (w32 m) 16 (fun k => m (ord r k)) (i + 1) W) (by rw [HX.out]; exact (HS.out.next hlt)) ?_
      clear HS HX cT co cm fm
      rintro W4 hS
      go_wp2
      go_roundw
      case rel => exact ⟨i + 1, by omega, by go_num, hS⟩
      case measure => simp [intOf]; omega
    · obtain rfl : i = 16 := by omega
      have HP := Lib.hid (hS.2.2.2.same (wrow_end (fun k => m (ord r k)) 16)); have HR := Lib.hid hS.2.2.1; have HB := Lib.hid hS.1
      clear hS
      go_wp2_with (first
        | refine wpList_loadA rfl 43 26 _ rfl (w.heap.size + 2) 16 (w32 fun k => m (ord r k)) rfl HP.out (by kernel_rfl) (by kernel_rfl) ?_
        | refine wpList_storeA rfl 43 _ _ rfl rfl (w.heap.size + 1) 16 _ _ rfl rfl HR.out (cellsA_size _ _) (by kernel_rfl) (g32_all _ _) ?_)
      have ld := run_loadVarA (P := Tryd.prog) (HR.out.stored (w32 fun k => m (ord r k))) 43 26 (by kernel_rfl) (by kernel_rfl)
      exact bodyPost_ret (v := .agg (cellsA 16 (w32 fun k => m (ord r k)))) (results_cellA rfl rfl ld) rfl ⟨rfl, belowCells HB.out _ (by omega) _ _⟩
theorem gRound_is (m : Nat → Int) (r : Nat) (v : Nat → Int) : gRound (fun k => m (ord r k)) v = roundf m r v := rfl
end Go.Proofs.YtajjfonodfncmaaDoor
