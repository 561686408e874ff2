/-
  What is asked of the program's calls of layer 8; the law's awake.
-/
import Derived.Test.YtmgbdccfgbflnaaOctBack
import Derived.Test.YtmgbdccfgbflnaaLay
namespace Go.Proofs.Ytmgbdccfgbflnaa
open Go Go.RowKit
set_option linter.unusedVariables false

structure AskOct : Prop where
  eight : ∀ (n : Int), U n → ∀ W, Calls Try.prog 8 #[.int .u64 n] W fun e w' => e = .returned (.string (eightB n)) ∧ Below W.heap.size W w'
  num : ∀ (s : ByteArray) (x : Int) (ok : Bool), s.size ≤ 1000000000 → (if 8 ≤ s.size then numB s 0 else 0) = x → decide (8 ≤ s.size) = ok → ∀ W, Calls Try.prog 14 #[.string s] W fun e w' => e = .returned (.tuple #[.int .u64 x, .bool ok]) ∧ Below W.heap.size W w'
  row : ∀ (a : Option Addr) (len cap : Nat) (zs : List Int) (W : World), RowA W a len zs → (∀ n ∈ zs, U n) → len ≤ 100000 → Calls Try.prog 10 #[.slice a len cap] W fun e w' => e = .returned (.string (rowB zs)) ∧ Below W.heap.size W w'
  pairs : ∀ (a : Option Addr) (len cap : Nat) (zs : List (Int × Int)) (W : World), QRowA W a len zs → (∀ n ∈ zs, U n.1 ∧ U n.2) → len ≤ 100000 → Calls Try.prog 12 #[.slice a len cap] W fun e w' => e = .returned (.string (pairB zs)) ∧ Below W.heap.size W w'
  readRow : ∀ (s : ByteArray) (n : Int) (W : World), s.size ≤ 1000000000 → Calls Try.prog 16 #[.string s, .int .i64 n] W (ReadPost s n W)
  readPairs : ∀ (s : ByteArray) (n : Int) (W : World), s.size ≤ 1000000000 → Calls Try.prog 18 #[.string s, .int .i64 n] W (ReadPostQ s n W)
def InP (l : List Int) : Prop := ∀ x ∈ l, 0 ≤ x ∧ x < 18446744069414584321
theorem InP.u {l : List Int} (h : InP l) : ∀ x ∈ l, U x := fun x hx => by have := h x hx; unfold U; omega
/-- Rows of the field are read as they were. -/
theorem AskOct.readRow_ok (hA : AskOct) (l : List Int) (hl : InP l) (hm : l.length ≤ 100000) (W : World) : Calls Try.prog 16 #[.string (rowB l), .int .i64 l.length] W fun e w' => ∃ a c, e = .returned (.tuple #[.slice a l.length c, .bool true]) ∧ RowA w' a l.length l ∧ Below W.heap.size W w' := by
  refine (hA.readRow (rowB l) l.length W (by rw [rowB_size]; omega)).mono ?_
  rintro e w' ⟨hb, ⟨hno, _⟩ | ⟨hok, a, c, rfl, hr⟩⟩
  · exfalso
    refine hno ((okR_row l hl.u (by omega)).2 fun k hk => ?_)
    simp only [List.getD, List.getElem?_eq_getElem hk, Option.getD_some]
    exact (hl _ (List.getElem_mem hk)).2
  · rw [Int.toNat_natCast, nums_row l hl.u] at hr
    exact ⟨a, c, by rw [Int.toNat_natCast], hr.at, hb⟩
theorem AskOct.readRow_no (hA : AskOct) (s : ByteArray) (n : Int) (hs : s.size ≤ 1000000000) (hno : ¬ OkR s n) (W : World) : Calls Try.prog 16 #[.string s, .int .i64 n] W fun e w' => e = .returned (.tuple #[.slice none 0 0, .bool false]) ∧ Below W.heap.size W w' := by
  refine (hA.readRow s n W hs).mono ?_
  rintro e w' ⟨hb, ⟨_, rfl⟩ | ⟨hok, _⟩⟩
  · exact ⟨rfl, hb⟩
  · exact absurd hok hno
theorem flatN_mem : ∀ (zs : List (Int × Int)) (x : Int), x ∈ flatN zs → ∃ z ∈ zs, x = z.1 ∨ x = z.2
  | [], x, h => by simp [flatN] at h
  | z :: l, x, h => by
    simp only [flatN, List.mem_cons] at h
    rcases h with rfl | rfl | h
    · exact ⟨z, by simp, Or.inl rfl⟩
    · exact ⟨z, by simp, Or.inr rfl⟩
    · obtain ⟨y, hy, h'⟩ := flatN_mem l x h
      exact ⟨y, by simp [hy], h'⟩
def InPQ (l : List (Int × Int)) : Prop := ∀ z ∈ l, (0 ≤ z.1 ∧ z.1 < 18446744069414584321) ∧ 0 ≤ z.2 ∧ z.2 < 18446744069414584321
theorem InPQ.u {l : List (Int × Int)} (h : InPQ l) : ∀ z ∈ l, U z.1 ∧ U z.2 := fun z hz => by have := h z hz; unfold U; omega
theorem InPQ.flat {l : List (Int × Int)} (h : InPQ l) : InP (flatN l) := fun x hx => by
  obtain ⟨z, hz, rfl | rfl⟩ := flatN_mem l x hx
  · exact (h z hz).1
  · exact (h z hz).2
theorem okQ_row (l : List (Int × Int)) (hl : ∀ z ∈ l, U z.1 ∧ U z.2) (hm : l.length ≤ 500000) : OkR (pairB l) (2 * (l.length : Int)) ↔ ∀ k, k < (flatN l).length → (flatN l).getD k 0 < 18446744069414584321 := by
  rw [pairB_row, show (2 * (l.length : Int)) = ((flatN l).length : Int) by rw [flatN_len]; omega]
  refine okR_row (flatN l) (fun x hx => ?_) (by rw [flatN_len]; omega)
  obtain ⟨z, hz, rfl | rfl⟩ := flatN_mem l x hx
  · exact (hl z hz).1
  · exact (hl z hz).2
theorem AskOct.readPairs_ok (hA : AskOct) (l : List (Int × Int)) (hl : InPQ l) (hm : l.length ≤ 100000) (W : World) : Calls Try.prog 18 #[.string (pairB l), .int .i64 l.length] W fun e w' => ∃ a c, e = .returned (.tuple #[.slice a l.length c, .bool true]) ∧ QRowA w' a l.length l ∧ Below W.heap.size W w' := by
  refine (hA.readPairs (pairB l) l.length W (by unfold pairB; rw [pairT_size]; omega)).mono ?_
  rintro e w' ⟨hb, ⟨hno, _⟩ | ⟨hok, a, c, rfl, hr⟩⟩
  · exfalso
    refine hno ((okQ_row l hl.u (by omega)).2 fun k hk => ?_)
    simp only [List.getD, List.getElem?_eq_getElem hk, Option.getD_some]
    exact (hl.flat _ (List.getElem_mem hk)).2
  · rw [Int.toNat_natCast, prs_flat l hl.u] at hr
    exact ⟨a, c, by rw [Int.toNat_natCast], hr.at, hb⟩
theorem eight_513 : eightB 513 = ⟨#[1, 2, 0, 0, 0, 0, 0, 0]⟩ := by decide +kernel
theorem eight_P : ¬ OkR (eightB 18446744069414584321) 1 := by
  rintro ⟨_, _, _, h⟩
  have := h 0 (by decide)
  rw [show numB (eightB 18446744069414584321) (8 * 0) = 18446744069414584321 by decide +kernel] at this
  omega
theorem in56 : InP [5, 6] := by unfold InP; decide
theorem in12 : InPQ [(1, 2)] := by unfold InPQ; decide
set_option maxRecDepth 100000 in
set_option maxHeartbeats 4000000 in
theorem oawake (hA : AskOct) (w : World) : Calls Try.prog 7 #[] w fun e w' => e = .returned (.bool true) ∧ Below w.heap.size w w' := by
  have k1 := hA.num ⟨#[1, 2, 0, 0, 0, 0, 0, 0, 120]⟩ 513 true (by decide) (by decide +kernel) (by decide)
  have k2 := hA.num ⟨#[49, 50, 51, 52, 53, 54, 55]⟩ 0 false (by decide) (by decide +kernel) (by decide)
  have k3 := fun (W : World) => hA.row (some ⟨W.heap.size, 0, none⟩) 2 2 [5, 6] (W.alloc (.cells #[.int .u64 5, .int .u64 6] 22)) (row_two (by simp [go_sem]) (by simp [go_sem])).at in56.u (by decide)
  have k4 := fun W => hA.readRow_ok [5, 6] in56 (by decide) W
  have k5 := hA.eight 18446744069414584321 (by unfold U; decide)
  have k6 := hA.readRow_no (eightB 18446744069414584321) 1 (by rw [eightB_size]; decide) eight_P
  have k7 := fun (W : World) => hA.pairs (some ⟨W.heap.size, 0, none⟩) 1 1 [(1, 2)] (W.alloc (.cells #[.int .u64 1, .int .u64 2] 41)) (qrow_one (by simp [go_sem]) (by simp [go_sem])).at in12.u (by decide)
  have k8 := fun W => hA.readPairs_ok [(1, 2)] in12 (by decide) W
  have k9 := hA.eight 513 (by unfold U; decide)
  rw [eight_513] at k9
  simp only [List.length_cons, List.length_nil, Nat.zero_add, Nat.reduceAdd, Int.cast_ofNat_Int] at k4 k8
  generalize eightB 18446744069414584321 = e1 at *
  generalize rowB [5, 6] = e2 at *
  generalize pairB [(1, 2)] = e3 at *
  clear hA
  go_enter Try.func7, Try.ntmps7
  go_upto_region 2 with (go_at_call 14; ((with_reducible refine (k1 _).mono ?_); rintro e w1 ⟨rfl, hb1⟩))
  go_upto_region 3 with (go_at_call 14; ((with_reducible refine (k2 _).mono ?_); rintro e w2 ⟨rfl, hb2⟩))
  refine wp_gen (fun W => Below w.heap.size w W) (bthen hb1 hb2) ?_
  clear hb1 hb2 k1 k2
  rintro W1 hB
  go_upto_region 4 with (first
    | (go_at_call 10; ((with_reducible refine (k3 W1).mono ?_); rintro e w1 ⟨rfl, hb1⟩))
    | (go_at_call 16; ((with_reducible refine (k4 _).mono ?_); rintro e w2 ⟨aL, cL, rfl, hL, hb2⟩)))
  refine wp_gen (fun W => Below w.heap.size w W ∧ RowA W aL 2 [5, 6]) ⟨bthen (bthen (hB.alloc hB.size _) hb1) hb2, hL⟩ ?_
  clear hB hb1 hb2 hL k3 k4
  rintro W2 ⟨hB, hL⟩
  go_upto_region 5 with (first
    | (go_at_call 8; ((with_reducible refine (k5 _).mono ?_); rintro e w1 ⟨rfl, hb1⟩))
    | (go_at_call 16; ((with_reducible refine (k6 _).mono ?_); rintro e w2 ⟨rfl, hb2⟩)))
  refine wp_gen (fun W => Below w.heap.size w W ∧ RowA W aL 2 [5, 6]) ⟨bthen (bthen hB hb1) hb2, (hL.keep hb1).keep hb2⟩ ?_
  clear hB hb1 hb2 hL k5 k6
  rintro W3 ⟨hB, hL⟩
  go_upto_region 6 with (first
    | (go_at_call 12; ((with_reducible refine (k7 W3).mono ?_); rintro e w1 ⟨rfl, hb1⟩))
    | (go_at_call 18; ((with_reducible refine (k8 _).mono ?_); rintro e w2 ⟨aM, cM, rfl, hM, hb2⟩)))
  refine wp_gen (fun W => Below w.heap.size w W ∧ RowA W aL 2 [5, 6] ∧ QRowA W aM 1 [(1, 2)]) ⟨bthen (bthen (hB.alloc hB.size _) hb1) hb2, ((hL.keep ((Below.refl _ _).alloc (Nat.le_refl _) _)).keep hb1).keep hb2, hM⟩ ?_
  clear hB hb1 hb2 hL hM k7 k8
  rintro W4 ⟨hB, hL, hM⟩
  obtain ⟨bL, oL, rfl, cl⟩ := hL.2.2 1 (by decide)
  obtain ⟨bM, oM, rfl, ca, cb⟩ := hM.2.2 0 (by decide)
  replace cl : W4.cell? ⟨bL, oL + 1, none⟩ = some (.int .u64 6) := cl
  replace ca : W4.cell? ⟨bM, oM, none⟩ = some (.int .u64 1) := by simpa using ca
  replace cb : W4.cell? ⟨bM, oM + 1, none⟩ = some (.int .u64 2) := by simpa using cb
  have HB := Lib.hid hB
  clear hL hM hB
  go_wp2_with (go_at_call 8; ((with_reducible refine (k9 _).mono ?_); rintro e w1 ⟨rfl, hb1⟩; replace cl := bkeep hb1 cl; replace ca := bkeep hb1 ca; replace cb := bkeep hb1 cb))
  go_ret
  exact ⟨rfl, bthen HB.out hb1⟩
end Go.Proofs.Ytmgbdccfgbflnaa
