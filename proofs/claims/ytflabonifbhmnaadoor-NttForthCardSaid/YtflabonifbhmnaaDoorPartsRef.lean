/-
  What the document's parts and join of layer 4 come to, and its ForthPairs and BackPairs: contracts for the walk.
-/
import Derived.Test.YtflabonifbhmnaaDoorBackRef
import Derived.Test.YtflabonifbhmnaaDoorOwnQ
namespace Go.Proofs.YtflabonifbhmnaaDoor
open Go.RowKit Go.Sort Go.BigFrame
set_option linter.unusedVariables false

/-- The parts of pairs. -/
def fsts (zs : List (Int × Int)) : List Int := zs.map (·.1)
def snds (zs : List (Int × Int)) : List Int := zs.map (·.2)
theorem fsts_len (zs : List (Int × Int)) : (fsts zs).length = zs.length := by simp [fsts]
theorem snds_len (zs : List (Int × Int)) : (snds zs).length = zs.length := by simp [snds]
theorem fsts_at (zs : List (Int × Int)) (k : Nat) (h : k < zs.length) : (fsts zs).getD k 0 = (zs.getD k (0, 0)).1 := by simp [fsts, List.getD, h]
theorem snds_at (zs : List (Int × Int)) (k : Nat) (h : k < zs.length) : (snds zs).getD k 0 = (zs.getD k (0, 0)).2 := by simp [snds, List.getD, h]
theorem fsts_U {zs : List (Int × Int)} (h : ∀ n ∈ zs, U n.1 ∧ U n.2) : ∀ n ∈ fsts zs, U n := by
  intro n hn
  simp only [fsts, List.mem_map] at hn
  obtain ⟨z, hz, rfl⟩ := hn
  exact (h z hz).1
theorem snds_U {zs : List (Int × Int)} (h : ∀ n ∈ zs, U n.1 ∧ U n.2) : ∀ n ∈ snds zs, U n := by
  intro n hn
  simp only [snds, List.mem_map] at hn
  obtain ⟨z, hz, rfl⟩ := hn
  exact (h z hz).2
/-- Two slices of numbers that the call itself made. -/
def NewTwo (w : World) (n : Nat) (xs ys : List Int) (e : Ending) (w' : World) : Prop :=
  ∃ a c b d, e = .returned (.tuple #[.slice a n c, .slice b n d]) ∧ Below w.heap.size w w' ∧ Row w' (.slice a n c) xs ∧ Row w' (.slice b n d) ys
def upto (xs : List Int) (k j : Nat) : Value := .int .u64 (if j < k then xs.getD j 0 else 0)
theorem upto_step (xs : List Int) (k : Nat) (n : Nat) {x : Int} (hx : xs.getD k 0 = x) : ∀ j, j < n → (if j = k then Value.int .u64 x else upto xs k j) = upto xs (k + 1) j := by
  intro j hj
  unfold upto
  by_cases e : j = k
  · subst e; rw [if_pos rfl, if_pos (by omega), hx]
  · rw [if_neg e]
    by_cases h : j < k
    · rw [if_pos h, if_pos (by omega)]
    · rw [if_neg h, if_neg (by omega)]
theorem upto_all (xs : List Int) (n : Nat) (h : xs.length = n) : ∀ j, j < n → upto xs n j = .int .u64 (xs.getD j 0) := by
  intro j hj; unfold upto; rw [if_pos hj]
def PartsHead (w : World) (zs : List (Int × Int)) (g1 g2 : Nat) (i : Value) (W : World) : Prop :=
  ∃ k : Nat, k ≤ zs.length ∧ i = .int .i64 k ∧ Below w.heap.size w W ∧ Arr W g1 zs.length (upto (fsts zs) k) ∧ Arr W g2 zs.length (upto (snds zs) k)
theorem parts_start (w : World) (zs : List (Int × Int)) (t : TypeId) : Below w.heap.size w ((w.alloc (.cells (madeCells #[.int .u64 0] zs.length) t)).alloc (.cells (madeCells #[.int .u64 0] zs.length) t)).drew ∧
    (∀ xs, Arr ((w.alloc (.cells (madeCells #[.int .u64 0] zs.length) t)).alloc (.cells (madeCells #[.int .u64 0] zs.length) t)).drew w.heap.size zs.length (upto xs 0)) ∧
    (∀ xs, Arr ((w.alloc (.cells (madeCells #[.int .u64 0] zs.length) t)).alloc (.cells (madeCells #[.int .u64 0] zs.length) t)).drew (w.heap.size + 1) zs.length (upto xs 0)) := by
  have h1 := (Arr.new w #[.int .u64 0] zs.length t).alloc (.cells (madeCells #[.int .u64 0] zs.length) t)
  have h2 := Arr.new (w.alloc (.cells (madeCells #[.int .u64 0] zs.length) t)) #[.int .u64 0] zs.length t
  rw [show (w.alloc (.cells (madeCells #[.int .u64 0] zs.length) t)).heap.size = w.heap.size + 1 by simp] at h2
  exact ⟨(((Below.refl _ _).alloc (Nat.le_refl _) _).alloc (by simp) _).drew, fun xs => h1.same (fun j hj => by simp [upto, Nat.mod_one]), fun xs => h2.same (fun j hj => by simp [upto, Nat.mod_one])⟩

set_option maxHeartbeats 4000000 in
theorem refparts_any (a : Option Addr) (len cap : Nat) (zs : List (Int × Int)) (w : World) (hr : QRowA w a len zs) (hl : len ≤ 4294967296) :
    Calls Tryd.prog 38 #[.slice a len cap] w (NewTwo w len (fsts zs) (snds zs)) := by
  have hmk := fun W => run_make_row' (P := Tryd.prog) 22 23 (.int .u64 0) 8 Tryd.underlying22 info64' rfl .i64 .i64 len (by omega) (by omega) W
  obtain ⟨rfl, hlm, hcell⟩ := hr
  have HC := Lib.hid hcell; have HM := Lib.hid hlm
  have HF := Lib.hid (fsts_at zs); have HS := Lib.hid (snds_at zs)
  clear hcell hlm
  go_enter Tryd.func38, Tryd.ntmps38
  go_upto_region 1 with fail
  go_region
  all_goals
    go_upto_region 3 with fail
    first
      | (go_loopw [6] (PartsHead w zs w.heap.size (w.heap.size + 1)) (fun i _ => zs.length - (intOf i).toNat)
         case atStart => exact ⟨0, Nat.zero_le _, rfl, (parts_start w zs _).1, (parts_start w zs _).2.1 _, (parts_start w zs _).2.2 _⟩
         case round =>
           obtain ⟨k, hk, rfl, hB, hA1, hA2⟩ := hrel
           by_cases hlt : k < zs.length
           · obtain ⟨b, off, rfl, c0, c1⟩ := HC.out k hlt
             replace c0 := bkeep hB c0
             replace c1 := bkeep hB c1
             obtain ⟨p0, q0⟩ := hA1 k hlt
             obtain ⟨p1, q1⟩ := hA2 k hlt
             have S1 := Lib.hid (upto_step (fsts zs) k zs.length (HF.out k hlt))
             have S2 := Lib.hid (upto_step (snds zs) k zs.length (HS.out k hlt))
             have H1 := Lib.hid hA1; have H2 := Lib.hid hA2; have HB := Lib.hid hB
             clear hA1 hA2 hB
             generalize (zs.getD k (0, 0)).1 = z at *
             generalize (zs.getD k (0, 0)).2 = z' at *
             have hlt' : (k : Int) < (zs.length : Int) := by omega
             go_upto_region 5 with fail
             go_region
             all_goals
               go_wp2
               go_roundw
               case rel =>
                 refine ⟨k + 1, by omega, by go_num, ?_, ?_, ?_⟩
                 · first | exact ((HB.out.setCell (show w.heap.size ≤ w.heap.size by omega) _).setCell (show w.heap.size ≤ (w.heap.size + 1) by omega) _).drew | exact ((HB.out.setCell (show w.heap.size ≤ (w.heap.size + 1) by omega) _).setCell (show w.heap.size ≤ w.heap.size by omega) _).drew
                 · first | exact ((H1.out.set k (.int .u64 z) hlt).far (show (w.heap.size + 1) ≠ w.heap.size by omega) k (.int .u64 z')).same S1.out | exact ((H1.out.far (show (w.heap.size + 1) ≠ w.heap.size by omega) k (.int .u64 z')).set k (.int .u64 z) hlt).same S1.out
                 · first | exact ((H2.out.set k (.int .u64 z') hlt).far (show w.heap.size ≠ (w.heap.size + 1) by omega) k (.int .u64 z)).same S2.out | exact ((H2.out.far (show w.heap.size ≠ (w.heap.size + 1) by omega) k (.int .u64 z)).set k (.int .u64 z') hlt).same S2.out
               case measure => simp [intOf]; omega
           · obtain rfl : k = zs.length := by omega
             have R1 := Lib.hid (Arr.row (hA1.same (upto_all (fsts zs) _ (fsts_len zs))) (fsts_len zs) HM.out)
             have R2 := Lib.hid (Arr.row (hA2.same (upto_all (snds zs) _ (snds_len zs))) (snds_len zs) HM.out)
             clear hA1 hA2 hlt
             go_wp2
             exact bodyPost_ret (v := .tuple #[.slice (some ⟨w.heap.size, 0, none⟩) zs.length zs.length, .slice (some ⟨(w.heap.size + 1), 0, none⟩) zs.length zs.length]) (by simp [results, Tryd.results38, go_sem]) rfl ⟨_, _, _, _, rfl, hB, R1.out, R2.out⟩)
      | (go_loopw [6] (PartsHead w zs (w.heap.size + 1) w.heap.size) (fun i _ => zs.length - (intOf i).toNat)
         case atStart => exact ⟨0, Nat.zero_le _, rfl, (parts_start w zs _).1, (parts_start w zs _).2.2 _, (parts_start w zs _).2.1 _⟩
         case round =>
           obtain ⟨k, hk, rfl, hB, hA1, hA2⟩ := hrel
           by_cases hlt : k < zs.length
           · obtain ⟨b, off, rfl, c0, c1⟩ := HC.out k hlt
             replace c0 := bkeep hB c0
             replace c1 := bkeep hB c1
             obtain ⟨p0, q0⟩ := hA1 k hlt
             obtain ⟨p1, q1⟩ := hA2 k hlt
             have S1 := Lib.hid (upto_step (fsts zs) k zs.length (HF.out k hlt))
             have S2 := Lib.hid (upto_step (snds zs) k zs.length (HS.out k hlt))
             have H1 := Lib.hid hA1; have H2 := Lib.hid hA2; have HB := Lib.hid hB
             clear hA1 hA2 hB
             generalize (zs.getD k (0, 0)).1 = z at *
             generalize (zs.getD k (0, 0)).2 = z' at *
             have hlt' : (k : Int) < (zs.length : Int) := by omega
             go_upto_region 5 with fail
             go_region
             all_goals
               go_wp2
               go_roundw
               case rel =>
                 refine ⟨k + 1, by omega, by go_num, ?_, ?_, ?_⟩
                 · first | exact ((HB.out.setCell (show w.heap.size ≤ (w.heap.size + 1) by omega) _).setCell (show w.heap.size ≤ w.heap.size by omega) _).drew | exact ((HB.out.setCell (show w.heap.size ≤ w.heap.size by omega) _).setCell (show w.heap.size ≤ (w.heap.size + 1) by omega) _).drew
                 · first | exact ((H1.out.set k (.int .u64 z) hlt).far (show w.heap.size ≠ (w.heap.size + 1) by omega) k (.int .u64 z')).same S1.out | exact ((H1.out.far (show w.heap.size ≠ (w.heap.size + 1) by omega) k (.int .u64 z')).set k (.int .u64 z) hlt).same S1.out
                 · first | exact ((H2.out.set k (.int .u64 z') hlt).far (show (w.heap.size + 1) ≠ w.heap.size by omega) k (.int .u64 z)).same S2.out | exact ((H2.out.far (show (w.heap.size + 1) ≠ w.heap.size by omega) k (.int .u64 z)).set k (.int .u64 z') hlt).same S2.out
               case measure => simp [intOf]; omega
           · obtain rfl : k = zs.length := by omega
             have R1 := Lib.hid (Arr.row (hA1.same (upto_all (fsts zs) _ (fsts_len zs))) (fsts_len zs) HM.out)
             have R2 := Lib.hid (Arr.row (hA2.same (upto_all (snds zs) _ (snds_len zs))) (snds_len zs) HM.out)
             clear hA1 hA2 hlt
             go_wp2
             exact bodyPost_ret (v := .tuple #[.slice (some ⟨(w.heap.size + 1), 0, none⟩) zs.length zs.length, .slice (some ⟨w.heap.size, 0, none⟩) zs.length zs.length]) (by simp [results, Tryd.results38, go_sem]) rfl ⟨_, _, _, _, rfl, hB, R1.out, R2.out⟩)

/-- Two rows of numbers as one of pairs. -/
def joinL (xs ys : List Int) : List (Int × Int) := (List.range xs.length).map fun i => encP (toQ (xs.getD i 0, ys.getD i 0))
theorem joinL_len (xs ys : List Int) : (joinL xs ys).length = xs.length := by simp [joinL]
theorem joinL_at (xs ys : List Int) (k : Nat) (h : k < xs.length) : (joinL xs ys).getD k (0, 0) = encP (toQ (xs.getD k 0, ys.getD k 0)) := by simp [joinL, List.getD, h]
theorem joinL_U (xs ys : List Int) : ∀ n ∈ joinL xs ys, U n.1 ∧ U n.2 := by
  intro n hn
  simp only [joinL, List.mem_map] at hn
  obtain ⟨z, _, rfl⟩ := hn
  exact ⟨enc_U _, enc_U _⟩
theorem infoQ' : (Tryd.prog.info? 60).map (fun i => (i.zero, i.size, i.bytes)) = some (some (.agg #[.int .u64 0, .int .u64 0]), 2, 16) := by kernel_rfl
def uptoq (zs : List (Int × Int)) (k i : Nat) : Int × Int := if i < k then zs.getD i (0, 0) else (0, 0)
theorem uptoq_step (zs : List (Int × Int)) (k : Nat) {p q : Int} (h : zs.getD k (0, 0) = (p, q)) : ∀ i : Nat, (if i = k then (p, q) else uptoq zs k i) = uptoq zs (k + 1) i := by
  intro i
  unfold uptoq
  by_cases e : i = k
  · subst e; rw [if_pos rfl, if_pos (by omega), h]
  · rw [if_neg e]
    by_cases h2 : i < k
    · rw [if_pos h2, if_pos (by omega)]
    · rw [if_neg h2, if_neg (by omega)]
theorem uptoq_all (zs : List (Int × Int)) (n : Nat) : ∀ i, i < n → uptoq zs n i = zs.getD i (0, 0) := by
  intro i hi; unfold uptoq; rw [if_pos hi]
def JoinHead (w : World) (n g : Nat) (zs : List (Int × Int)) (i : Value) (W : World) : Prop :=
  ∃ k : Nat, k ≤ n ∧ i = .int .i64 k ∧ Below w.heap.size w W ∧ Arr W g (n * 2) (pc (uptoq zs k))
/-- A slice of pairs that the call itself made. -/
def NewRowQ (w : World) (n : Nat) (zs : List (Int × Int)) (e : Ending) (w' : World) : Prop := ∃ a c, e = .returned (.slice a n c) ∧ Below w.heap.size w w' ∧ QRow w' (.slice a n c) zs
def JoinR (g n k b1 o1 c1 b2 o2 c2 : Nat) (x y p q : Int) (sl : Nat) (v : Value) (W : World) : Prop :=
  match sl with
  | 16 => v = .slice (some ⟨g, 0, none⟩) n n
  | 17 => v = .int .i64 k
  | 18 => v = .slice (some ⟨b1, o1, none⟩) n c1
  | 19 => v = .int .i64 k
  | 20 => v = .pointer (some ⟨b1, o1 + k, none⟩)
  | 21 => v = .int .u64 x
  | 22 => v = .slice (some ⟨b2, o2, none⟩) n c2
  | 23 => v = .int .i64 k
  | 24 => v = .pointer (some ⟨b2, o2 + k, none⟩)
  | 25 => v = .int .u64 y
  | 26 => v = .agg #[.int .u64 x, .int .u64 y]
  | 27 => v = .agg #[.int .u64 0, .int .u64 0]
  | 28 => v = .agg #[.int .u64 p, .int .u64 q]
  | _ => v = .pointer (some ⟨g, k * 2, none⟩)
theorem JoinR.keep {g n k b1 o1 c1 b2 o2 c2 : Nat} {x y p q : Int} {sl : Nat} {v : Value} {W W' : World} (h : JoinR g n k b1 o1 c1 b2 o2 c2 x y p q sl v W) (hb : Below W.heap.size W W') : JoinR g n k b1 o1 c1 b2 o2 c2 x y p q sl v W' := h

set_option maxHeartbeats 4000000 in
theorem refjoin_any (a b : Option Addr) (len ca cb : Nat) (xs ys : List Int) (w : World) (hx : RowA w a len xs) (hy : RowA w b len ys) (ux : ∀ n ∈ xs, U n) (uy : ∀ n ∈ ys, U n) (hl : len ≤ 4294967296) :
    Calls Tryd.prog 39 #[.slice a len ca, .slice b len cb] w (NewRowQ w len (joinL xs ys)) := by
  have hmk := fun W => run_make_pairs (P := Tryd.prog) 32 60 (.agg #[.int .u64 0, .int .u64 0]) Tryd.underlying32 infoQ' rfl len hl W
  obtain ⟨rfl, hlm, hcx⟩ := hx
  obtain ⟨hly, _, hcy⟩ := hy
  have HX := Lib.hid hcx; have HY := Lib.hid hcy; have HM := Lib.hid hlm; have HLY := Lib.hid hly
  have UX := Lib.hid (U_getD ux); have UY := Lib.hid (U_getD uy)
  have HJ := Lib.hid (joinL_at xs ys)
  unfold maxLen at hlm
  clear hcx hcy ux uy hly
  go_enter Tryd.func39, Tryd.ntmps39
  go_upto_region 3 with fail
  go_loopw [6] (JoinHead w xs.length w.heap.size (joinL xs ys)) (fun i _ => xs.length - (intOf i).toNat)
  case atStart => exact ⟨0, Nat.zero_le _, rfl, (Below.refl _ _).alloc (Nat.le_refl _) _, (Arr.newq w _ _).same (pc_same (fun i hi => by unfold uptoq; rw [if_neg (by omega)]))⟩
  case round =>
    obtain ⟨k, hk, rfl, hW, hA⟩ := hrel
    by_cases hlt : k < xs.length
    · obtain ⟨b1, o1, rfl, g0⟩ := HX.out k hlt
      obtain ⟨b2, o2, rfl, g1⟩ := HY.out k hlt
      replace g0 := bkeep hW g0
      replace g1 := bkeep hW g1
      have gx := UX.out k hlt
      have gy := UY.out k (by rw [HLY.out]; exact hlt)
      have m1 := radd_q (xs.getD k 0) (ys.getD k 0) 0 0 (toQ (xs.getD k 0, ys.getD k 0)) 0 (toQ (xs.getD k 0, ys.getD k 0)) (rep_raw gx gy) rep_zero (F2.add_zero _)
      obtain ⟨p, hp⟩ : ∃ v, enc (toQ (xs.getD k 0, ys.getD k 0)).a = v := ⟨_, rfl⟩
      obtain ⟨q, hq⟩ : ∃ v, enc (toQ (xs.getD k 0, ys.getD k 0)).b = v := ⟨_, rfl⟩
      have HU := Lib.hid (uptoq_step (joinL xs ys) k (p := p) (q := q) (by rw [HJ.out k hlt, ← hp, ← hq]; rfl))
      rw [hp, hq] at m1
      obtain ⟨c0, c1, f0, f1⟩ := hA.cells k hlt
      have HA := Lib.hid hA; have HW := Lib.hid hW
      clear hA hW gx gy hp hq
      generalize xs.getD k 0 = x at *
      generalize ys.getD k 0 = y at *
      have hlt' : (k : Int) < (xs.length : Int) := by omega
      have hk0 : (0 : Int) ≤ (k : Int) := by omega
      go_upto_region 5 with fail
      refine wp_loose [(16, []), (17, []), (18, []), (19, []), (20, [18, 19]), (21, [20]), (22, []), (23, []), (24, [22, 23]), (25, [24]), (26, [21, 25]), (27, []), (28, [26, 27]), (29, [16, 17])]
        (JoinR w.heap.size xs.length k b1 o1 ca b2 o2 cb x y p q) (fun d => false) (by kernel_rfl) (by kernel_rfl) (fun _ _ _ _ h hb => h.keep hb) ?_ ?_
      · refine opsrun_cons ?_ (opsrun_cons ?_ (opsrun_cons ?_ (opsrun_cons ?_ (opsrun_cons ?_ (opsrun_cons ?_ (opsrun_cons ?_ (opsrun_cons ?_ (opsrun_cons ?_ (opsrun_cons ?_ (opsrun_cons ?_ (opsrun_cons ?_ (opsrun_cons ?_ (opsrun_cons ?_ opsrun_nil)))))))))))))
        all_goals
          refine OpRuns.any ?_
          intro Q0 σ W' K hb hn hK
          simp only [fill, List.map, Act.put, List.setIfInBounds_toArray, List.set_cons_zero, List.set_cons_succ] at hK ⊢
        · clear hn
          go_simp
          exact hK _ _ rfl (Below.refl _ _) (fun h => absurd h (by decide))
        · clear hn
          go_simp
          exact hK _ _ rfl (Below.refl _ _) (fun h => absurd h (by decide))
        · clear hn
          go_simp
          exact hK _ _ rfl (Below.refl _ _) (fun h => absurd h (by decide))
        · clear hn
          go_simp
          exact hK _ _ rfl (Below.refl _ _) (fun h => absurd h (by decide))
        · have h18 : σ 18 = _ := hn 18 (by decide)
          have h19 : σ 19 = _ := hn 19 (by decide)
          clear hn
          simp only [h18, h19] at hK
          go_simp
          exact hK _ _ rfl (Below.refl _ _) (fun h => absurd h (by decide))
        · have h20 : σ 20 = _ := hn 20 (by decide)
          clear hn
          simp only [h20] at hK
          have g0' := bkeep hb g0
          clear g0
          go_simp
          exact hK _ _ rfl (Below.refl _ _) (fun h => absurd h (by decide))
        · clear hn
          go_simp
          exact hK _ _ rfl (Below.refl _ _) (fun h => absurd h (by decide))
        · clear hn
          go_simp
          exact hK _ _ rfl (Below.refl _ _) (fun h => absurd h (by decide))
        · have h22 : σ 22 = _ := hn 22 (by decide)
          have h23 : σ 23 = _ := hn 23 (by decide)
          clear hn
          simp only [h22, h23] at hK
          go_simp
          exact hK _ _ rfl (Below.refl _ _) (fun h => absurd h (by decide))
        · have h24 : σ 24 = _ := hn 24 (by decide)
          clear hn
          simp only [h24] at hK
          have g1' := bkeep hb g1
          clear g1
          go_simp
          exact hK _ _ rfl (Below.refl _ _) (fun h => absurd h (by decide))
        · have h21 : σ 21 = _ := hn 21 (by decide)
          have h25 : σ 25 = _ := hn 25 (by decide)
          clear hn
          simp only [h21, h25] at hK
          go_simp
          exact hK _ _ rfl (Below.refl _ _) (fun h => absurd h (by decide))
        · clear hn
          go_simp
          exact hK _ _ rfl (Below.refl _ _) (fun h => absurd h (by decide))
        · have h26 : σ 26 = _ := hn 26 (by decide)
          have h27 : σ 27 = _ := hn 27 (by decide)
          clear hn
          simp only [h26, h27] at hK
          go_simp
          go_at_call 58
          refine (m1 _).mono ?_
          rintro e w1 ⟨rfl, hb1⟩
          exact hK _ _ rfl hb1 (fun h => absurd h (by decide))
        · have h16 : σ 16 = _ := hn 16 (by decide)
          have h17 : σ 17 = _ := hn 17 (by decide)
          clear hn
          simp only [h16, h17] at hK
          go_simp
          exact hK _ _ rfl (Below.refl _ _) (fun h => absurd h (by decide))
      · intro σ W' hb hR' hF
        have h28 : σ 28 = _ := hR' 28 (by decide)
        have h29 : σ 29 = _ := hR' 29 (by decide)
        have c0' := bkeep hb c0
        have c1' := bkeep hb c1
        have f0' := bfree hb c0 f0
        have f1' := bfree hb c1 f1
        have HB2 := Lib.hid (bthen HW.out hb)
        have HA2 := Lib.hid hb
        clear hR' hF c0 c1 f0 f1 g0 g1 m1 hb
        simp only [fill, List.map, Act.put, List.setIfInBounds_toArray, List.set_cons_zero, List.set_cons_succ, List.length_cons, List.length_nil, List.drop_succ_cons, List.drop_zero, Nat.reduceAdd, h28, h29]
        clear h28 h29
        go_wp2
        go_roundw
        case rel => exact ⟨k + 1, by omega, by go_num, (HB2.out.setCell (by simp) _).setCell (by simp) _, ((HA.out.keep HA2.out).setq k p q hlt).same (pc_same (fun i _ => HU.out i))⟩
        case measure => simp [intOf]; omega
    · obtain rfl : k = xs.length := by omega
      have R1 := Lib.hid (Arr.qrow (hA.same (pc_same (y := fun i => (joinL xs ys).getD i (0, 0)) (uptoq_all (joinL xs ys) xs.length))) (joinL_len xs ys) HM.out)
      clear hA hlt
      go_wp2
      go_ret
      exact ⟨_, _, rfl, hW, R1.out⟩

/-- What pairs come to at the points, and back. -/
def forthQ (zs : List (Int × Int)) (s : F) (k : Nat) : List (Int × Int) := joinL (forthL (fsts zs) s k) (forthL (snds zs) s k)
def backQ (zs : List (Int × Int)) (s : F) (k : Nat) : List (Int × Int) := joinL (backL (fsts zs) s k) (backL (snds zs) s k)
theorem forthQ_len (zs : List (Int × Int)) (s : F) (k : Nat) : (forthQ zs s k).length = 2 ^ k := by unfold forthQ; rw [joinL_len, forthL_len]
theorem backQ_len (zs : List (Int × Int)) (s : F) (k : Nat) : (backQ zs s k).length = 2 ^ k := by unfold backQ; rw [joinL_len, backL_len]
/-- A slice of pairs that the call itself made, beside OK. -/
def NewOkQ (w : World) (n : Nat) (zs : List (Int × Int)) (e : Ending) (w' : World) : Prop := ∃ a c, e = .returned (.tuple #[.slice a n c, .int .i64 0]) ∧ Below w.heap.size w w' ∧ QRow w' (.slice a n c) zs

set_option maxHeartbeats 4000000 in
theorem refforthq_yes (a : Option Addr) (len cap : Nat) (zs : List (Int × Int)) (zi : Int) (hz : U zi) (s : F) (hs : toF zi = s) (k : Nat) (hk : k ≤ 20) (w : World) (hr : QRowA w a len zs) (hu : ∀ n ∈ zs, U n.1 ∧ U n.2) (hl : len ≤ 2 ^ k) :
    Calls Tryd.prog 18 #[.slice a len cap, .int .u64 zi, .int .i64 k] w (NewOkQ w (2 ^ k) (forthQ zs s k)) := by
  have P2 : 2 ^ k ≤ 2 ^ 20 := Nat.pow_le_pow_right (by decide) hk
  have p1 := refparts_any a len cap zs w hr (by omega)
  have k1 := fun a c W h => refforth_yes a len c (fsts zs) zi hz s hs k hk W h (fsts_U hu) hl
  have k2 := fun a c W h => refforth_yes a len c (snds zs) zi hz s hs k hk W h (snds_U hu) hl
  have j1 := fun a b ca cb W hx hy => refjoin_any a b (2 ^ k) ca cb (forthL (fsts zs) s k) (forthL (snds zs) s k) W hx hy (forthL_U _ _ _) (forthL_U _ _ _) (by omega)
  unfold NewTwo at p1
  unfold NewOk at k1 k2
  unfold NewRowQ at j1
  generalize hn : 2 ^ k = n at *
  have HN := Lib.hid hn
  clear hr hu hl hz hs P2 hn
  go_enter Tryd.func18, Tryd.ntmps18
  go_upto_region 2 with ((go_at_call 38; ((with_reducible refine p1.mono ?_); rintro e w1 ⟨a1, c1, a2, c2, rfl, hB, h1, h2⟩)))
  go_upto_region 3 with ((go_at_call 11; ((with_reducible refine (k1 _ _ _ h1.at).mono ?_); rintro e w2 ⟨a3, c3, rfl, hb, h3⟩; replace h2 := h2.below hb; replace hB := bthen hB hb; clear hb h1)))
  go_upto_region 4 with ((go_at_call 11; ((with_reducible refine (k2 _ _ _ h2.at).mono ?_); rintro e w3 ⟨a4, c4, rfl, hb, h4⟩; replace h3 := h3.below hb; replace hB := bthen hB hb; clear hb h2)))
  go_wp2_with ((go_at_call 39; ((with_reducible refine (j1 _ _ _ _ _ h3.at h4.at).mono ?_); rintro e w4 ⟨a5, c5, rfl, hb, h5⟩; replace hB := bthen hB hb)))
  exact bodyPost_ret (v := .tuple #[.slice a5 n c5, .int .i64 0]) (by simp [results, Tryd.results18, go_sem]) rfl ⟨_, _, rfl, hB, h5⟩
theorem refforthq_no (a : Option Addr) (len cap : Nat) (zs : List (Int × Int)) (zi k : Int) (w : World) (hr : QRowA w a len zs) (hl : len ≤ 4294967296) (h : ¬ (0 ≤ k ∧ k ≤ 20 ∧ len ≤ 2 ^ k.toNat)) :
    Calls Tryd.prog 18 #[.slice a len cap, .int .u64 zi, .int .i64 k] w (ErrArg w) := by
  have p1 := refparts_any a len cap zs w hr hl
  have k1 := fun a c W => refforth_no a len c zi k hr.2.1 W h
  unfold NewTwo at p1
  unfold ErrArg at k1
  clear hr hl h
  go_enter Tryd.func18, Tryd.ntmps18
  go_upto_region 2 with ((go_at_call 38; ((with_reducible refine p1.mono ?_); rintro e w1 ⟨a1, c1, a2, c2, rfl, hB, h1, h2⟩)))
  go_upto_region 3 with ((go_at_call 11; ((with_reducible refine (k1 _ _ _).mono ?_); rintro e w2 ⟨rfl, hb⟩; replace hB := bthen hB hb; clear hb)))
  go_wp2_with ((go_at_call 11; ((with_reducible refine (k1 _ _ _).mono ?_); rintro e w3 ⟨rfl, hb⟩; replace hB := bthen hB hb; clear hb)))
  exact bodyPost_ret (v := .tuple #[.slice none 0 0, .int .i64 1]) (by simp [results, Tryd.results18, go_sem]) rfl ⟨rfl, hB⟩
set_option maxHeartbeats 4000000 in
theorem refbackq_yes (a : Option Addr) (len cap : Nat) (zs : List (Int × Int)) (zi : Int) (hz : U zi) (s : F) (hs : toF zi = s) (hs0 : s ≠ 0) (k : Nat) (hk : k ≤ 20) (w : World) (hr : QRowA w a len zs) (hu : ∀ n ∈ zs, U n.1 ∧ U n.2) (hl : len = 2 ^ k) :
    Calls Tryd.prog 20 #[.slice a len cap, .int .u64 zi] w (NewOkQ w (2 ^ k) (backQ zs s k)) := by
  have P2 : 2 ^ k ≤ 2 ^ 20 := Nat.pow_le_pow_right (by decide) hk
  have p1 := refparts_any a len cap zs w hr (by omega)
  have k1 := fun a c W h => refback_yes a len c (fsts zs) zi hz s hs hs0 k hk W h (fsts_U hu) hl
  have k2 := fun a c W h => refback_yes a len c (snds zs) zi hz s hs hs0 k hk W h (snds_U hu) hl
  have j1 := fun a b ca cb W hx hy => refjoin_any a b (2 ^ k) ca cb (backL (fsts zs) s k) (backL (snds zs) s k) W hx hy (backL_U _ _ _) (backL_U _ _ _) (by omega)
  unfold NewTwo at p1
  unfold NewOk at k1 k2
  unfold NewRowQ at j1
  generalize hn : 2 ^ k = n at *
  have HN := Lib.hid hn
  clear hr hu hz hs hs0 P2 hn hl
  go_enter Tryd.func20, Tryd.ntmps20
  go_upto_region 2 with ((go_at_call 38; ((with_reducible refine p1.mono ?_); rintro e w1 ⟨a1, c1, a2, c2, rfl, hB, h1, h2⟩)))
  go_upto_region 3 with ((go_at_call 13; ((with_reducible refine (k1 _ _ _ h1.at).mono ?_); rintro e w2 ⟨a3, c3, rfl, hb, h3⟩; replace h2 := h2.below hb; replace hB := bthen hB hb; clear hb h1)))
  go_upto_region 4 with ((go_at_call 13; ((with_reducible refine (k2 _ _ _ h2.at).mono ?_); rintro e w3 ⟨a4, c4, rfl, hb, h4⟩; replace h3 := h3.below hb; replace hB := bthen hB hb; clear hb h2)))
  go_wp2_with ((go_at_call 39; ((with_reducible refine (j1 _ _ _ _ _ h3.at h4.at).mono ?_); rintro e w4 ⟨a5, c5, rfl, hb, h5⟩; replace hB := bthen hB hb)))
  exact bodyPost_ret (v := .tuple #[.slice a5 n c5, .int .i64 0]) (by simp [results, Tryd.results20, go_sem]) rfl ⟨_, _, rfl, hB, h5⟩
theorem refbackq_no (a : Option Addr) (len cap : Nat) (zs : List (Int × Int)) (zi : Int) (hz : U zi) (s : F) (hs : toF zi = s) (w : World) (hr : QRowA w a len zs) (hl : len ≤ 4294967296) (h : ¬ (0 ≤ lg len ∧ lg len ≤ 20 ∧ s ≠ 0)) :
    Calls Tryd.prog 20 #[.slice a len cap, .int .u64 zi] w (ErrArg w) := by
  have p1 := refparts_any a len cap zs w hr hl
  have k1 := fun a c W => refback_no a len c zi hz s hs hr.2.1 W h
  unfold NewTwo at p1
  unfold ErrArg at k1
  clear hr hl h
  go_enter Tryd.func20, Tryd.ntmps20
  go_upto_region 2 with ((go_at_call 38; ((with_reducible refine p1.mono ?_); rintro e w1 ⟨a1, c1, a2, c2, rfl, hB, h1, h2⟩)))
  go_upto_region 3 with ((go_at_call 13; ((with_reducible refine (k1 _ _ _).mono ?_); rintro e w2 ⟨rfl, hb⟩; replace hB := bthen hB hb; clear hb)))
  go_wp2_with ((go_at_call 13; ((with_reducible refine (k1 _ _ _).mono ?_); rintro e w3 ⟨rfl, hb⟩; replace hB := bthen hB hb; clear hb)))
  exact bodyPost_ret (v := .tuple #[.slice none 0 0, .int .i64 1]) (by simp [results, Tryd.results20, go_sem]) rfl ⟨rfl, hB⟩
end Go.Proofs.YtflabonifbhmnaaDoor
