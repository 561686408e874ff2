/-
  What the document's begin, order come to. (Written by gen_bord.py.)
-/
import Derived.Test.YthmpojefoiojeaaDoorGBlk
import Derived.Test.YthmpojefoiojeaaDoorGRow
import Derived.Deep.WholeRow
import Derived.Great.BuildSlice
namespace Go.Proofs.YthmpojefoiojeaaDoor
open Go Go.RowKit
set_option linter.unusedVariables false

theorem beg_cells : (#[.int .u32 1779033703, .int .u32 3144134277, .int .u32 1013904242, .int .u32 2773480762, .int .u32 1359893119, .int .u32 2600822924, .int .u32 528734635, .int .u32 1541459225] : Array Value) = cellsA 8 (w32 beg) := by kernel_rfl
set_option maxRecDepth 100000 in
theorem rbegin_is (w : World) : Calls Tryd.prog 27 #[] w fun e w' => e = .returned (.agg (cellsA 8 (w32 beg))) ∧ Below w.heap.size w w' := by
  rw [← beg_cells]
  go_enter Tryd.func27, Tryd.ntmps27
  go_wp2_with fail
  exact bodyPost_ret (v := .agg #[.int .u32 1779033703, .int .u32 3144134277, .int .u32 1013904242, .int .u32 2773480762, .int .u32 1359893119, .int .u32 2600822924, .int .u32 528734635, .int .u32 1541459225]) (by simp [results, Tryd.results27, go_sem]) rfl ⟨rfl, (Below.refl _ _).alloc (Nat.le_refl _) _⟩

def ordW (j : Nat) : Value := .int .i64 (ord (j / 16) (j % 16))
def ordI (r j : Nat) : Value := .int .i64 (ord r j)
theorem ordW_at (r j : Nat) (hj : j < 16) : ordW (r * 16 + j) = ordI r j := by
  unfold ordW ordI
  rw [show (r * 16 + j) / 16 = r by omega, show (r * 16 + j) % 16 = j by omega]
theorem ord_built : Tryd.prog.built 66 [(0, .agg #[.int .i64 0, .int .i64 1, .int .i64 2, .int .i64 3, .int .i64 4, .int .i64 5, .int .i64 6, .int .i64 7, .int .i64 8, .int .i64 9, .int .i64 10, .int .i64 11, .int .i64 12, .int .i64 13, .int .i64 14, .int .i64 15]), (1, .agg #[.int .i64 14, .int .i64 10, .int .i64 4, .int .i64 8, .int .i64 9, .int .i64 15, .int .i64 13, .int .i64 6, .int .i64 1, .int .i64 12, .int .i64 0, .int .i64 2, .int .i64 11, .int .i64 7, .int .i64 5, .int .i64 3]), (2, .agg #[.int .i64 11, .int .i64 8, .int .i64 12, .int .i64 0, .int .i64 5, .int .i64 2, .int .i64 15, .int .i64 13, .int .i64 10, .int .i64 14, .int .i64 3, .int .i64 6, .int .i64 7, .int .i64 1, .int .i64 9, .int .i64 4]), (3, .agg #[.int .i64 7, .int .i64 9, .int .i64 3, .int .i64 1, .int .i64 13, .int .i64 12, .int .i64 11, .int .i64 14, .int .i64 2, .int .i64 6, .int .i64 5, .int .i64 10, .int .i64 4, .int .i64 0, .int .i64 15, .int .i64 8]), (4, .agg #[.int .i64 9, .int .i64 0, .int .i64 5, .int .i64 7, .int .i64 2, .int .i64 4, .int .i64 10, .int .i64 15, .int .i64 14, .int .i64 1, .int .i64 11, .int .i64 12, .int .i64 6, .int .i64 8, .int .i64 3, .int .i64 13]), (5, .agg #[.int .i64 2, .int .i64 12, .int .i64 6, .int .i64 10, .int .i64 0, .int .i64 11, .int .i64 8, .int .i64 3, .int .i64 4, .int .i64 13, .int .i64 7, .int .i64 5, .int .i64 15, .int .i64 14, .int .i64 1, .int .i64 9]), (6, .agg #[.int .i64 12, .int .i64 5, .int .i64 1, .int .i64 15, .int .i64 14, .int .i64 13, .int .i64 4, .int .i64 10, .int .i64 0, .int .i64 7, .int .i64 6, .int .i64 3, .int .i64 9, .int .i64 2, .int .i64 8, .int .i64 11]), (7, .agg #[.int .i64 13, .int .i64 11, .int .i64 7, .int .i64 14, .int .i64 12, .int .i64 1, .int .i64 3, .int .i64 9, .int .i64 5, .int .i64 0, .int .i64 15, .int .i64 4, .int .i64 8, .int .i64 6, .int .i64 2, .int .i64 10]), (8, .agg #[.int .i64 6, .int .i64 15, .int .i64 14, .int .i64 9, .int .i64 11, .int .i64 3, .int .i64 0, .int .i64 8, .int .i64 12, .int .i64 2, .int .i64 13, .int .i64 7, .int .i64 1, .int .i64 4, .int .i64 10, .int .i64 5]), (9, .agg #[.int .i64 10, .int .i64 2, .int .i64 8, .int .i64 4, .int .i64 7, .int .i64 6, .int .i64 1, .int .i64 5, .int .i64 15, .int .i64 11, .int .i64 9, .int .i64 14, .int .i64 3, .int .i64 12, .int .i64 13, .int .i64 0])] = some (cellsA 160 ordW) := by kernel_rfl
theorem ord_all : (cellsA 160 ordW).all (·.oneCell') = true := by kernel_rfl
theorem ord16_all (r : Nat) : (cellsA 16 (ordI r)).all (·.oneCell') = true := by
  rw [Array.all_eq_true]
  intro i hi
  simp [cellsA, ordI]
  rfl
set_option maxRecDepth 100000 in
set_option maxHeartbeats 4000000 in
theorem rorder_is (r : Nat) (hr : r < 10) (w : World) : Calls Tryd.prog 31 #[.int .i64 r] w fun e w' => e = .returned (.agg (cellsA 16 (ordI r))) ∧ Below w.heap.size w w' := by
  have hz : ∀ w, (zeroValue 66).run Tryd.prog w = .ok (.agg (cellsA 160 fun _ => .int .i64 0)) w := fun w => run_zeroA _ _ (by kernel_rfl)
  go_enter Tryd.func31, Tryd.ntmps31
  go_upto_region 1 with fail
  refine wp_gen (fun W => Below w.heap.size w W ∧ Arr W w.heap.size 16 (fun _ => .int .i64 0)) ⟨(Below.refl _ _).alloc (Nat.le_refl _) _, Arr.zeros _ _ _ _ _ (by rfl)⟩ ?_
  rintro W ⟨hB, hR⟩
  have HB := Lib.hid hB; have HR := Lib.hid hR
  clear hR
  go_upto_region 2 with (first
    | refine wpList_buildTo rfl 66 _ rfl (some 14) rfl (cellsA 160 ordW) (by kernel_rfl) ?_
    | refine wpList_storeA rfl 66 _ _ rfl rfl W.heap.size 160 _ _ rfl rfl (Arr.box W 160 _ _) (cellsA_size _ _) (by kernel_rfl) ord_all ?_)
  refine wp_gen (fun W' => Below w.heap.size w W' ∧ Arr W' w.heap.size 16 (fun _ => .int .i64 0) ∧ Arr W' W.heap.size 160 ordW) ⟨belowCells (HB.out.alloc HB.out.size _) _ HB.out.size _ _, Arr.farCells (by have := HR.out.lt (by decide); omega) _ _ (HR.out.alloc _), (Arr.box W 160 _ _).stored _⟩ ?_
  have ltg : w.heap.size < W.heap.size := HR.out.lt (by decide)
  generalize W.heap.size = g at *
  clear HB HR hB hz
  rintro W2 ⟨hB, hR, hO⟩
  have hr0 : (r : Int) < 10 := by omega
  have HB := Lib.hid hB; have HR := Lib.hid hR; have HO := Lib.hid hO
  clear hB hR hO
  go_wp2_with (first
    | refine wpList_pieceA rfl 57 3 _ rfl g (r * 16) 160 16 ordW (ordI r) rfl HO.out (by omega) (ordW_at r) (by kernel_rfl) (by kernel_rfl) ?_
    | refine wpList_storeA rfl 57 _ _ rfl rfl w.heap.size 16 _ _ rfl rfl HR.out (cellsA_size _ _) (by kernel_rfl) (ord16_all r) ?_)
  have ld := run_loadVarA (P := Tryd.prog) (HR.out.stored (ordI r)) 57 3 (by kernel_rfl) (by kernel_rfl)
  exact bodyPost_ret (v := .agg (cellsA 16 (ordI r))) (results_cellA rfl rfl ld) rfl ⟨rfl, belowCells HB.out _ (Nat.le_refl _) _ _⟩
end Go.Proofs.YthmpojefoiojeaaDoor
