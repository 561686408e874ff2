/-
  What the document's Press comes to. (Written by gen_bpress.py.)
-/
import Derived.Test.YthmpojefoiojeaaDoorBMix
import Derived.Test.YthmpojefoiojeaaDoorBOrd
import Derived.Test.YthmpojefoiojeaaDoorGBlk
import Derived.IntWalk
namespace Go.Proofs.YthmpojefoiojeaaDoor
open Go Go.RowKit
set_option linter.unusedVariables false

def PressR8 (g5 gm i q : Nat) (k p z p' : Int) (sl : Nat) (v : Value) (W : World) : Prop :=
  match sl with
  | 26 => v = .int .i64 i
  | 27 => v = .int .i64 i
  | 28 => v = .pointer (some ⟨gm, i, none⟩)
  | 29 => v = .int .u32 p
  | 30 => v = .int .u32 (IntKind.u32.wrap (p * 256))
  | 31 => v = .int .i64 i
  | 32 => v = .int .i64 (4 * (i : Int))
  | 33 => v = .int .i64 k
  | 34 => v = .int .i64 q
  | 35 => v = .pointer (some ⟨g5, q, none⟩)
  | 36 => v = .int .u8 z
  | 37 => v = .int .u32 z
  | 38 => v = .int .u32 p'
  | _ => v = .pointer (some ⟨gm, i, none⟩)
theorem PressR8.keep {g5 gm i q : Nat} {k p z p' : Int} {sl : Nat} {v : Value} {W W' : World} (h : PressR8 g5 gm i q k p z p' sl v W) (hb : Below W.heap.size W W') : PressR8 g5 gm i q k p z p' sl v W' := h
def PressR14 (g4 gb gv i : Nat) (x y : Int) (sl : Nat) (v : Value) (W : World) : Prop :=
  match sl with
  | 45 => v = .int .i64 i
  | 46 => v = .int .i64 i
  | 47 => v = .int .i64 ((i : Int) + 8)
  | 48 => v = .int .i64 i
  | 49 => v = .pointer (some ⟨g4, i, none⟩)
  | 50 => v = .int .u32 x
  | 51 => v = .int .i64 i
  | 52 => v = .pointer (some ⟨gb, i, none⟩)
  | 53 => v = .int .u32 y
  | 54 => v = .pointer (some ⟨gv, i, none⟩)
  | _ => v = .pointer (some ⟨gv, i + 8, none⟩)
theorem PressR14.keep {g4 gb gv i : Nat} {x y : Int} {sl : Nat} {v : Value} {W W' : World} (h : PressR14 g4 gb gv i x y sl v W) (hb : Below W.heap.size W W') : PressR14 g4 gb gv i x y sl v W' := h
def PressM0 (go gm p1 p2 : Nat) (x1 x2 : Int) (sl : Nat) (v : Value) (W : World) : Prop :=
  match sl with
  | 80 => v = .pointer (some ⟨go, 0, none⟩)
  | 81 => v = .int .i64 p1
  | 82 => v = .pointer (some ⟨gm, p1, none⟩)
  | 83 => v = .int .u32 x1
  | 84 => v = .pointer (some ⟨go, 1, none⟩)
  | 85 => v = .int .i64 p2
  | 86 => v = .pointer (some ⟨gm, p2, none⟩)
  | _ => v = .int .u32 x2
theorem PressM0.keep {go gm p1 p2 : Nat} {x1 x2 : Int} {sl : Nat} {v : Value} {W W' : World} (h : PressM0 go gm p1 p2 x1 x2 sl v W) (hb : Below W.heap.size W W') : PressM0 go gm p1 p2 x1 x2 sl v W' := h
def PressM1 (go gm p1 p2 : Nat) (x1 x2 : Int) (sl : Nat) (v : Value) (W : World) : Prop :=
  match sl with
  | 89 => v = .pointer (some ⟨go, 2, none⟩)
  | 90 => v = .int .i64 p1
  | 91 => v = .pointer (some ⟨gm, p1, none⟩)
  | 92 => v = .int .u32 x1
  | 93 => v = .pointer (some ⟨go, 3, none⟩)
  | 94 => v = .int .i64 p2
  | 95 => v = .pointer (some ⟨gm, p2, none⟩)
  | _ => v = .int .u32 x2
theorem PressM1.keep {go gm p1 p2 : Nat} {x1 x2 : Int} {sl : Nat} {v : Value} {W W' : World} (h : PressM1 go gm p1 p2 x1 x2 sl v W) (hb : Below W.heap.size W W') : PressM1 go gm p1 p2 x1 x2 sl v W' := h
def PressM2 (go gm p1 p2 : Nat) (x1 x2 : Int) (sl : Nat) (v : Value) (W : World) : Prop :=
  match sl with
  | 98 => v = .pointer (some ⟨go, 4, none⟩)
  | 99 => v = .int .i64 p1
  | 100 => v = .pointer (some ⟨gm, p1, none⟩)
  | 101 => v = .int .u32 x1
  | 102 => v = .pointer (some ⟨go, 5, none⟩)
  | 103 => v = .int .i64 p2
  | 104 => v = .pointer (some ⟨gm, p2, none⟩)
  | _ => v = .int .u32 x2
theorem PressM2.keep {go gm p1 p2 : Nat} {x1 x2 : Int} {sl : Nat} {v : Value} {W W' : World} (h : PressM2 go gm p1 p2 x1 x2 sl v W) (hb : Below W.heap.size W W') : PressM2 go gm p1 p2 x1 x2 sl v W' := h
def PressM3 (go gm p1 p2 : Nat) (x1 x2 : Int) (sl : Nat) (v : Value) (W : World) : Prop :=
  match sl with
  | 107 => v = .pointer (some ⟨go, 6, none⟩)
  | 108 => v = .int .i64 p1
  | 109 => v = .pointer (some ⟨gm, p1, none⟩)
  | 110 => v = .int .u32 x1
  | 111 => v = .pointer (some ⟨go, 7, none⟩)
  | 112 => v = .int .i64 p2
  | 113 => v = .pointer (some ⟨gm, p2, none⟩)
  | _ => v = .int .u32 x2
theorem PressM3.keep {go gm p1 p2 : Nat} {x1 x2 : Int} {sl : Nat} {v : Value} {W W' : World} (h : PressM3 go gm p1 p2 x1 x2 sl v W) (hb : Below W.heap.size W W') : PressM3 go gm p1 p2 x1 x2 sl v W' := h
def PressM4 (go gm p1 p2 : Nat) (x1 x2 : Int) (sl : Nat) (v : Value) (W : World) : Prop :=
  match sl with
  | 116 => v = .pointer (some ⟨go, 8, none⟩)
  | 117 => v = .int .i64 p1
  | 118 => v = .pointer (some ⟨gm, p1, none⟩)
  | 119 => v = .int .u32 x1
  | 120 => v = .pointer (some ⟨go, 9, none⟩)
  | 121 => v = .int .i64 p2
  | 122 => v = .pointer (some ⟨gm, p2, none⟩)
  | _ => v = .int .u32 x2
theorem PressM4.keep {go gm p1 p2 : Nat} {x1 x2 : Int} {sl : Nat} {v : Value} {W W' : World} (h : PressM4 go gm p1 p2 x1 x2 sl v W) (hb : Below W.heap.size W W') : PressM4 go gm p1 p2 x1 x2 sl v W' := h
def PressM5 (go gm p1 p2 : Nat) (x1 x2 : Int) (sl : Nat) (v : Value) (W : World) : Prop :=
  match sl with
  | 125 => v = .pointer (some ⟨go, 10, none⟩)
  | 126 => v = .int .i64 p1
  | 127 => v = .pointer (some ⟨gm, p1, none⟩)
  | 128 => v = .int .u32 x1
  | 129 => v = .pointer (some ⟨go, 11, none⟩)
  | 130 => v = .int .i64 p2
  | 131 => v = .pointer (some ⟨gm, p2, none⟩)
  | _ => v = .int .u32 x2
theorem PressM5.keep {go gm p1 p2 : Nat} {x1 x2 : Int} {sl : Nat} {v : Value} {W W' : World} (h : PressM5 go gm p1 p2 x1 x2 sl v W) (hb : Below W.heap.size W W') : PressM5 go gm p1 p2 x1 x2 sl v W' := h
def PressM6 (go gm p1 p2 : Nat) (x1 x2 : Int) (sl : Nat) (v : Value) (W : World) : Prop :=
  match sl with
  | 134 => v = .pointer (some ⟨go, 12, none⟩)
  | 135 => v = .int .i64 p1
  | 136 => v = .pointer (some ⟨gm, p1, none⟩)
  | 137 => v = .int .u32 x1
  | 138 => v = .pointer (some ⟨go, 13, none⟩)
  | 139 => v = .int .i64 p2
  | 140 => v = .pointer (some ⟨gm, p2, none⟩)
  | _ => v = .int .u32 x2
theorem PressM6.keep {go gm p1 p2 : Nat} {x1 x2 : Int} {sl : Nat} {v : Value} {W W' : World} (h : PressM6 go gm p1 p2 x1 x2 sl v W) (hb : Below W.heap.size W W') : PressM6 go gm p1 p2 x1 x2 sl v W' := h
def PressM7 (go gm p1 p2 : Nat) (x1 x2 : Int) (sl : Nat) (v : Value) (W : World) : Prop :=
  match sl with
  | 143 => v = .pointer (some ⟨go, 14, none⟩)
  | 144 => v = .int .i64 p1
  | 145 => v = .pointer (some ⟨gm, p1, none⟩)
  | 146 => v = .int .u32 x1
  | 147 => v = .pointer (some ⟨go, 15, none⟩)
  | 148 => v = .int .i64 p2
  | 149 => v = .pointer (some ⟨gm, p2, none⟩)
  | _ => v = .int .u32 x2
theorem PressM7.keep {go gm p1 p2 : Nat} {x1 x2 : Int} {sl : Nat} {v : Value} {W W' : World} (h : PressM7 go gm p1 p2 x1 x2 sl v W) (hb : Below W.heap.size W W') : PressM7 go gm p1 p2 x1 x2 sl v W' := h

set_option maxRecDepth 100000 in
set_option maxHeartbeats 8000000 in
theorem rpress_is (h b : Nat → Int) (n : Int) (last : Bool) (hb : IsBytes 64 b) (hn : U n) (w : World) :
    Calls Tryd.prog 28 #[.agg (cellsA 8 (w32 h)), .agg (cellsA 64 (w8 b)), .int .u64 n, .bool last] w fun e w' => e = .returned (.agg (cellsA 8 (w32 (press h b n last)))) ∧ Below w.heap.size w w' := by
  have HBY := Lib.hid hb
  clear hb
  go_enter Tryd.func28, Tryd.ntmps28
  go_upto_region 1 with fail
  refine wp_gen (fun W => PSt w h b W) (PSt.start w h b _ _ _ _ (by rfl)) ?_
  rintro W hS
  go_upto_region 2 with fail
  refine wp_gen (fun W' => PSt w h b W' ∧ Arr W' W.heap.size 16 (w32 (mrow b 0 0))) ⟨hS.alloc _, (Arr.zeros _ 16 (.int .u32 0) _ _ (by rfl)).same (fun j _ => by show Value.int .u32 0 = Value.int .u32 (mrow b 0 0 j); unfold mrow; rw [if_neg (by omega)]; split <;> rfl)⟩ ?_
  have ltm := hS.2.2.2.2
  generalize W.heap.size = gm at *
  clear hS
  rintro W1 ⟨hS, hM⟩
  go_upto_region 3 with fail
  go_loopw [10] (PLoop1 w h b gm) (fun i _ => 16 - (intOf i).toNat)
  case atStart => exact ⟨0, by omega, rfl, hS, hM⟩
  case round =>
    clear hS hM
    obtain ⟨i, hi, rfl, hS, hM⟩ := hrel
    by_cases hlt : i < 16
    · have hi16 : (i : Int) < 16 := by omega
      go_upto_region 6 with fail
      go_loopw [11] (PLoop2 w h b gm i) (fun k _ => (intOf k + 1).toNat)
      case atStart => exact ⟨0, by omega, rfl, hS, hM⟩
      case round =>
        clear hS hM
        obtain ⟨t, ht, rfl, hS, hM⟩ := hrel
        by_cases hlt2 : t < 4
        · obtain ⟨kk, hkk⟩ : ∃ kk : Int, 3 - (t : Int) = kk := ⟨_, rfl⟩
          obtain ⟨q, hq⟩ : ∃ q : Nat, 4 * i + (3 - t) = q := ⟨_, rfl⟩
          have hq64 : (q : Int) < 64 := by omega
          have hw1 := Lib.hid (IntWalk.i64_in (4 * (i : Int)) (by omega))
          have hq2 : Hid (IntKind.i64.wrap (4 * (i : Int) + kk) = (q : Int)) := Lib.hid (by rw [IntWalk.i64_in _ (by omega)]; omega)
          have hk0 : 0 ≤ kk := by omega
          have hk3 : kk ≤ 3 := by omega
          have hp := part_lt HBY.out hlt t (by omega)
          have hz := HBY.out q (by omega)
          have e1 : part b i (t + 1) = part b i t * 256 + b q := by rw [part, hq]
          have hp3 : part b i t < 16777216 := by
            have : (256 : Int) ^ t ≤ 256 ^ 3 := by
              have : t = 0 ∨ t = 1 ∨ t = 2 ∨ t = 3 := by omega
              rcases this with rfl | rfl | rfl | rfl <;> decide
            omega
          have e2 := or_byte (part b i t) (b q) hp.1 hp3 hz.1 hz.2
          rw [← e1] at e2
          have e3 : Hid (bits .or .u32 (IntKind.u32.wrap (part b i t * 256)) (b q) = part b i (t + 1)) := Lib.hid (by rw [IntKind.wrap_u32, show part b i t * 256 % 4294967296 = part b i t * 256 by omega]; exact e2)
          clear e2
          obtain ⟨cm, _⟩ := hM i hlt
          obtain ⟨cb, _⟩ := hS.2.2.1 q (by omega)
          simp only [w32, w8, mrow_at] at cm cb
          obtain ⟨hz0, hz1⟩ := hz
          obtain ⟨hp0, _⟩ := hp
          have hw2 : Hid (IntKind.u32.wrap (b q) = b q) := Lib.hid (by rw [IntKind.wrap_u32]; omega)
          have HS := Lib.hid hS; have HM := Lib.hid hM; have HT := Lib.hid hkk
          have ex : (fun j => w32 (mrow b i (t + 1)) j) = w32 (mrow b i (t + 1)) := rfl
          rw [hkk]
          clear hS hM e1 hkk hq
          generalize hP : part b i (t + 1) = p' at *
          generalize part b i t = p at *
          generalize b q = z at *
          go_upto_region 8 with fail
          refine wp_loose [(26, []), (27, []), (28, [27]), (29, [28]), (30, [29]), (31, []), (32, [31]), (33, []), (34, [32, 33]), (35, [34]), (36, [35]), (37, [36]), (38, [30, 37]), (39, [26])]
            (PressR8 (w.heap.size + 1) gm i q kk p z p') (fun d => false) (by kernel_rfl) (by kernel_rfl) (fun _ _ _ _ h hb => h.keep hb) ?_ ?_
          · refine opsrun_cons ?_ (opsrun_cons ?_ (opsrun_cons ?_ (opsrun_cons ?_ (opsrun_cons ?_ (opsrun_cons ?_ (opsrun_cons ?_ (opsrun_cons ?_ (opsrun_cons ?_ (opsrun_cons ?_ (opsrun_cons ?_ (opsrun_cons ?_ (opsrun_cons ?_ (opsrun_cons ?_ opsrun_nil)))))))))))))
            all_goals
              refine OpRuns.any ?_
              intro Q0 σ W' K hb hn hK
              simp only [fill, List.map, Act.put, List.setIfInBounds_toArray, List.set_cons_zero, List.set_cons_succ] at hK ⊢
            · clear hn
              go_simp
              exact hK _ _ rfl (Below.refl _ _) (fun h => absurd h (by decide))
            · clear hn
              go_simp
              exact hK _ _ rfl (Below.refl _ _) (fun h => absurd h (by decide))
            · have h27 : σ 27 = _ := hn 27 (by decide)
              clear hn
              simp only [h27] at hK
              go_simp
              exact hK _ _ rfl (Below.refl _ _) (fun h => absurd h (by decide))
            · have h28 : σ 28 = _ := hn 28 (by decide)
              clear hn
              simp only [h28] at hK
              have cm' := bkeep hb cm
              clear cm
              go_simp
              exact hK _ _ rfl (Below.refl _ _) (fun h => absurd h (by decide))
            · have h29 : σ 29 = _ := hn 29 (by decide)
              clear hn
              simp only [h29] at hK
              go_simp
              exact hK _ _ rfl (Below.refl _ _) (fun h => absurd h (by decide))
            · clear hn
              go_simp
              exact hK _ _ rfl (Below.refl _ _) (fun h => absurd h (by decide))
            · have h31 : σ 31 = _ := hn 31 (by decide)
              clear hn
              simp only [h31] at hK
              go_simp
              first | exact hK _ _ rfl (Below.refl _ _) (fun h => absurd h (by decide)) | exact hK _ _ (congrArg (Value.int .i64) hw1.out) (Below.refl _ _) (fun h => absurd h (by decide))
            · clear hn
              go_simp
              exact hK _ _ rfl (Below.refl _ _) (fun h => absurd h (by decide))
            · have h32 : σ 32 = _ := hn 32 (by decide)
              have h33 : σ 33 = _ := hn 33 (by decide)
              clear hn
              simp only [h32, h33] at hK
              go_simp
              first | exact hK _ _ rfl (Below.refl _ _) (fun h => absurd h (by decide)) | exact hK _ _ (congrArg (Value.int .i64) hq2.out) (Below.refl _ _) (fun h => absurd h (by decide))
            · have h34 : σ 34 = _ := hn 34 (by decide)
              clear hn
              simp only [h34] at hK
              go_simp
              exact hK _ _ rfl (Below.refl _ _) (fun h => absurd h (by decide))
            · have h35 : σ 35 = _ := hn 35 (by decide)
              clear hn
              simp only [h35] at hK
              have cb' := bkeep hb cb
              clear cb
              go_simp
              exact hK _ _ rfl (Below.refl _ _) (fun h => absurd h (by decide))
            · have h36 : σ 36 = _ := hn 36 (by decide)
              clear hn
              simp only [h36] at hK
              go_simp
              first | exact hK _ _ rfl (Below.refl _ _) (fun h => absurd h (by decide)) | exact hK _ _ (congrArg (Value.int .u32) hw2.out) (Below.refl _ _) (fun h => absurd h (by decide))
            · have h30 : σ 30 = _ := hn 30 (by decide)
              have h37 : σ 37 = _ := hn 37 (by decide)
              clear hn
              simp only [h30, h37] at hK
              go_simp
              first | exact hK _ _ rfl (Below.refl _ _) (fun h => absurd h (by decide)) | exact hK _ _ (congrArg (Value.int .u32) e3.out) (Below.refl _ _) (fun h => absurd h (by decide))
            · have h26 : σ 26 = _ := hn 26 (by decide)
              clear hn
              simp only [h26] at hK
              go_simp
              exact hK _ _ rfl (Below.refl _ _) (fun h => absurd h (by decide))
          · intro σ W' hb hR' hF
            have h38 : σ 38 = _ := hR' 38 (by decide)
            have h39 : σ 39 = _ := hR' 39 (by decide)
            have hM2 := HM.out.keep hb
            replace HS := Lib.hid (HS.out.keep hb)
            replace HM := Lib.hid hM2
            obtain ⟨c', f'⟩ := hM2 i hlt
            clear hR' hF hb cm cb
            simp only [fill, List.map, Act.put, List.setIfInBounds_toArray, List.set_cons_zero, List.set_cons_succ, List.length_cons, List.length_nil, List.drop_succ_cons, List.drop_zero, Nat.reduceAdd, h38, h39]
            go_upto_region 7 with fail
            refine wp_gen (fun W => PSt w h b W ∧ Arr W gm 16 (w32 (mrow b i (t + 1)))) ⟨HS.out.far ltm _ _, (HM.out.set i _ hlt).same (fun j _ => by rw [← hP]; exact mrow_set b i t j)⟩ ?_
            clear HS HM hM2 c' f'
            rintro W3 ⟨hS, hM⟩
            go_wp2
            go_roundw
            case rel => exact ⟨t + 1, by omega, by have := HT.out; go_num, hS, hM⟩
            case measure => have := HT.out; simp [intOf]; omega
        · obtain rfl : t = 4 := by omega
          go_upto_region 4 with fail
          go_wp2
          go_roundw
          case rel => exact ⟨i + 1, by omega, by go_num, hS, hM.same (fun j _ => mrow_next b i j)⟩
          case measure => simp [intOf]; omega
    · obtain rfl : i = 16 := by omega
      replace hM : Arr wr gm 16 (w32 (le4 b)) := hM.same (fun j hj => by show Value.int .u32 (mrow b 16 0 j) = Value.int .u32 (le4 b j); unfold mrow; rw [if_pos hj])
      have ltgm := hM.lt (by decide)
      go_upto_region 10 with fail
      refine wp_gen (fun W => PSt w h b W ∧ Arr W gm 16 (w32 (le4 b)) ∧ Arr W wr.heap.size 16 (w32 (vrow h 0))) ⟨hS.alloc _, hM.alloc _, (Arr.zeros _ 16 (.int .u32 0) _ _ (by rfl)).same (fun j _ => by show Value.int .u32 0 = Value.int .u32 (vrow h 0 j); unfold vrow; rw [if_neg (by omega), if_neg (by omega)])⟩ ?_
      have ltv := hS.2.2.2.2
      generalize wr.heap.size = gv at *
      have hmv : gm ≠ gv := by omega
      clear hS hM ltgm
      rintro W2 ⟨hS, hM, hV⟩
      have HS := Lib.hid hS; have HM := Lib.hid hM; have HV := Lib.hid hV
      have ltv2 := hV.lt (by decide)
      clear hS hM hV
      go_upto_region 11 with (first
        | (go_at_call 27; ((with_reducible refine (rbegin_is _).mono ?_); rintro e w1 ⟨rfl, hb⟩; replace HS := Lib.hid (HS.out.keep hb); replace HM := Lib.hid (HM.out.keep hb); replace HV := Lib.hid (HV.out.keep hb); have hsz := hb.size; clear hb))
        | refine wpList_storeA rfl 42 _ _ rfl rfl w1.heap.size 8 _ _ rfl rfl (Arr.zeros w1 8 (.int .u32 0) _ _ (by rfl)) (cellsA_size _ _) (by kernel_rfl) (w32_all _ _) ?_)
      refine wp_gen (fun W => PSt w h b W ∧ Arr W gm 16 (w32 (le4 b)) ∧ Arr W gv 16 (w32 (vrow h 0)) ∧ Arr W w1.heap.size 8 (w32 beg)) ⟨?_, ?_, ?_, ?_⟩ ?_
      · have := HS.out.alloc (.cells (Array.replicate 8 (.int .u32 0)) 42)
        exact this.cells (by have := HS.out.2.2.2.2; omega) _
      · exact Arr.farCells (by have := HM.out.lt (by decide); omega) _ _ (HM.out.alloc _)
      · exact Arr.farCells (by have := HV.out.lt (by decide); omega) _ _ (HV.out.alloc _)
      · exact (Arr.zeros w1 8 (.int .u32 0) _ _ (by rfl)).stored _
      have hgv : gv ≠ w1.heap.size := by have := HV.out.lt (by decide); omega
      generalize w1.heap.size = gb at *
      clear HS HM HV
      rintro W3 ⟨hS, hM, hV, hE⟩
      go_upto_region 12 with fail
      go_loopw [14] (PLoop3 w h b gm gv gb) (fun i _ => 8 - (intOf i).toNat)
      case atStart => exact ⟨0, by omega, rfl, hS, hM, hV, hE⟩
      case round =>
        clear hS hM hV hE
        obtain ⟨i, hi, rfl, hS, hM, hV, hE⟩ := hrel
        by_cases hlt : i < 8
        · have hi8 : (i : Int) < 8 := by omega
          have hw1 : IntKind.i64.wrap ((i : Int) + 8) = (i : Int) + 8 := IntWalk.i64_in _ (by omega)
          obtain ⟨ch, _⟩ := hS.2.1 i hlt
          obtain ⟨ce, _⟩ := hE i hlt
          obtain ⟨cv, fv⟩ := hV i (by omega)
          obtain ⟨cv8, fv8⟩ := hV (i + 8) (by omega)
          simp only [w32] at ch ce cv cv8
          have HS := Lib.hid hS; have HM := Lib.hid hM; have HV := Lib.hid hV; have HE := Lib.hid hE
          clear hS hM hV hE
          go_upto_region 14 with fail
          go_region
          go_upto_region 13 with fail
          refine wp_gen (fun W => PSt w h b W ∧ Arr W gm 16 (w32 (le4 b)) ∧ Arr W gv 16 (w32 (vrow h (i + 1))) ∧ Arr W gb 8 (w32 beg)) ⟨PSt.drew ((HS.out.far ltv _ _).far ltv _ _), Arr.drew ((HM.out.far (Ne.symm hmv) _ _).far (Ne.symm hmv) _ _), Arr.drew ?_, Arr.drew ((HE.out.far hgv _ _).far hgv _ _)⟩ ?_
          · exact ((HV.out.set i (.int .u32 (h i)) (by omega)).set (i + 8) (.int .u32 (beg i)) (by omega)).same (fun j _ => vrow_set h i hlt j)
          clear HS HM HV HE ch ce cv cv8 fv fv8 hw1
          rintro W4 ⟨hS, hM, hV, hE⟩
          go_wp2
          go_roundw
          case rel => exact ⟨i + 1, by omega, by go_num, hS, hM, hV, hE⟩
          case measure => simp [intOf]; omega
        · obtain rfl : i = 8 := by omega
          have hB3 : Arr wr gv 16 (w32 (vbase h)) := hV.same (vrow_end h)
          clear hV hE
          generalize hv0 : vbase h = v0 at *
          obtain ⟨v1, hv1⟩ : ∃ v1, upd v0 12 (xor32 (v0 12) (n % 4294967296)) = v1 := ⟨_, rfl⟩
          obtain ⟨v2, hv2⟩ : ∃ v2, upd v1 13 (xor32 (v1 13) (n / 4294967296)) = v2 := ⟨_, rfl⟩
          obtain ⟨v3, hv3⟩ : ∃ v3, (if last = true then upd v2 14 (not32 (v2 14)) else v2) = v3 := ⟨_, rfl⟩
          have hfirst : vfirst h n last = v3 := by unfold vfirst; rw [hv0]; simp only [hv1, hv2, hv3]
          have HS := Lib.hid hS; have HM := Lib.hid hM; have HV := Lib.hid hB3
          obtain ⟨c12, f12⟩ := hB3 12 (by decide)
          clear hS hM hB3
          simp only [w32] at c12
          go_upto_region 16 with fail
          refine wp_gen (fun W => PSt w h b W ∧ Arr W gm 16 (w32 (le4 b)) ∧ Arr W gv 16 (w32 v1)) ⟨HS.out.far ltv _ _, HM.out.far (Ne.symm hmv) _ _, (HV.out.set 12 _ (by decide)).same (fun j _ => by rw [← hv1]; exact w32_upd _ _ _ _)⟩ ?_
          clear HS HM HV c12 f12
          rintro W4 ⟨hS, hM, hV⟩
          have HS := Lib.hid hS; have HM := Lib.hid hM; have HV := Lib.hid hV
          obtain ⟨c13, f13⟩ := hV 13 (by decide)
          clear hS hM hV
          simp only [w32] at c13
          have hn0 := hn.1; have hn1 := hn.2
          go_upto_region 17 with fail
          refine wp_gen (fun W => PSt w h b W ∧ Arr W gm 16 (w32 (le4 b)) ∧ Arr W gv 16 (w32 v2)) ⟨HS.out.far ltv _ _, HM.out.far (Ne.symm hmv) _ _, (HV.out.set 13 _ (by decide)).same (fun j _ => by rw [← hv2]; exact w32_upd _ _ _ _)⟩ ?_
          clear HS HM HV c13 f13 hn0 hn1
          rintro W5 ⟨hS, hM, hV⟩
          go_upto_if 69 with fail
          go_cut [14] (fun s W => s = .int .i64 8 ∧ PSt w h b W ∧ Arr W gm 16 (w32 (le4 b)) ∧ Arr W gv 16 (w32 v3))
          case first =>
            cases last
            case false =>
              simp only [Bool.false_eq_true, if_false] at hv3
              subst hv3
              go_wp2_with fail
              go_meet
              exact ⟨rfl, hS, hM, hV⟩
            case true =>
              simp only [if_true] at hv3
              have HS := Lib.hid hS; have HM := Lib.hid hM; have HV := Lib.hid hV
              obtain ⟨c14, f14⟩ := hV 14 (by decide)
              clear hS hM hV
              simp only [w32] at c14
              go_wp2_with fail
              go_meet
              exact ⟨rfl, HS.out.far ltv _ _, HM.out.far (Ne.symm hmv) _ _, (HV.out.set 14 _ (by decide)).same (fun j _ => by rw [← hv3]; exact w32_upd _ _ _ _)⟩
          case rest =>
            clear hS hM hV hv1 hv2 hv3 hv0
            obtain ⟨rfl, hS, hM, hV⟩ := hcut
            go_upto_region 20 with fail
            go_loopw [15] (PLoop4 w h b gm gv v3) (fun i _ => 10 - (intOf i).toNat)
            case atStart => exact ⟨0, by omega, rfl, hS, hM, hV⟩
            case round =>
              clear hS hM hV
              obtain ⟨r, hr, rfl, hS, hM, hV⟩ := hrel
              by_cases hlt : r < 10
              · have hr10 : (r : Int) < 10 := by omega
                have HS := Lib.hid hS; have HM := Lib.hid hM; have HV := Lib.hid hV
                have ltv3 := hV.lt (by decide)
                have ltm3 := hM.lt (by decide)
                clear hS hM hV
                have ko := rorder_is r hlt
                go_upto_region 23 with (first
                  | (go_at_call 31; ((with_reducible refine (ko _).mono ?_); rintro e w1 ⟨rfl, hb⟩; replace HS := Lib.hid (HS.out.keep hb); replace HM := Lib.hid (HM.out.keep hb); replace HV := Lib.hid (HV.out.keep hb); have hsz := hb.size; clear hb))
                  | refine wpList_storeA rfl 57 _ _ rfl rfl w1.heap.size 16 _ _ rfl rfl (Arr.zeros w1 16 (.int .i64 0) _ _ (by rfl)) (cellsA_size _ _) (by kernel_rfl) (ord16_all r) ?_)
                refine wp_gen (fun W => PSt w h b W ∧ Arr W gm 16 (w32 (le4 b)) ∧ Arr W gv 16 (w32 (rounds (le4 b) r v3)) ∧ Arr W w1.heap.size 16 (ordI r)) ⟨?_, ?_, ?_, ?_⟩ ?_
                · exact (HS.out.alloc (.cells (Array.replicate 16 (.int .i64 0)) 57)).cells (by have := HS.out.2.2.2.2; omega) _
                · exact Arr.farCells (by omega) _ _ (HM.out.alloc _)
                · exact Arr.farCells (by omega) _ _ (HV.out.alloc _)
                · exact (Arr.zeros w1 16 (.int .i64 0) _ _ (by rfl)).stored _
                have hgo : gv ≠ w1.heap.size := by omega
                generalize w1.heap.size = go at *
                clear HS HM HV ko
                have hround : rounds (le4 b) (r + 1) v3 = roundf (le4 b) r (rounds (le4 b) r v3) := rfl
                unfold roundf at hround
                generalize rounds (le4 b) r v3 = u0 at *
                rintro U0 ⟨hS, hM, hV, hO⟩
                have q1 := ord_lt r 0 hlt (by decide)
                have q2 := ord_lt r 1 hlt (by decide)
                obtain ⟨o1, _⟩ := hO 0 (by decide)
                obtain ⟨o2, _⟩ := hO 1 (by decide)
                obtain ⟨m1, _⟩ := hM _ q1
                obtain ⟨m2, _⟩ := hM _ q2
                simp only [ordI, w32] at o1 o2 m1 m2
                obtain ⟨u1, hu1⟩ : ∃ u, mixAt (le4 b) r 0 0 4 8 12 u0 = u := ⟨_, rfl⟩
                have km := fun W hA => rmix_is gv 0 4 8 12 u0 (le4 b (ord r 0)) (le4 b (ord r 1)) (by decide) (by decide) (by decide) (by decide) W hA
                have hmm : mixf u0 0 4 8 12 (le4 b (ord r 0)) (le4 b (ord r 1)) = u1 := hu1
                rw [hmm] at km
                simp only [cast_0, cast_4, cast_8, cast_12] at km
                have q1' : ((ord r 0 : Nat) : Int) < 16 := by omega
                have q2' : ((ord r 1 : Nat) : Int) < 16 := by omega
                have HS := Lib.hid hS; have HM := Lib.hid hM; have HV := Lib.hid hV; have HO := Lib.hid hO
                clear hS hM hV hO hmm
                generalize le4 b (ord r 0) = x1 at *
                generalize le4 b (ord r 1) = x2 at *
                generalize ord r 0 = p1 at *
                generalize ord r 1 = p2 at *
                go_upto_region 23 with fail
                refine wp_loose [(80, []), (81, [80]), (82, [81]), (83, [82]), (84, []), (85, [84]), (86, [85]), (87, [86])]
                  (PressM0 go gm p1 p2 x1 x2) (fun d => false) (by kernel_rfl) (by kernel_rfl) (fun _ _ _ _ h hb => h.keep hb) ?_ ?_
                · refine opsrun_cons ?_ (opsrun_cons ?_ (opsrun_cons ?_ (opsrun_cons ?_ (opsrun_cons ?_ (opsrun_cons ?_ (opsrun_cons ?_ (opsrun_cons ?_ opsrun_nil)))))))
                  all_goals
                    refine OpRuns.any ?_
                    intro Q0 σ W' K hb hn hK
                    simp only [fill, List.map, Act.put, List.setIfInBounds_toArray, List.set_cons_zero, List.set_cons_succ] at hK ⊢
                  · clear hn
                    go_simp
                    exact hK _ _ rfl (Below.refl _ _) (fun h => absurd h (by decide))
                  · have h80 : σ 80 = _ := hn 80 (by decide)
                    clear hn
                    simp only [h80] at hK
                    have o1' := bkeep hb o1
                    clear o1
                    go_simp
                    exact hK _ _ rfl (Below.refl _ _) (fun h => absurd h (by decide))
                  · have h81 : σ 81 = _ := hn 81 (by decide)
                    clear hn
                    simp only [h81] at hK
                    go_simp
                    exact hK _ _ rfl (Below.refl _ _) (fun h => absurd h (by decide))
                  · have h82 : σ 82 = _ := hn 82 (by decide)
                    clear hn
                    simp only [h82] at hK
                    have m1' := bkeep hb m1
                    clear m1
                    go_simp
                    exact hK _ _ rfl (Below.refl _ _) (fun h => absurd h (by decide))
                  · clear hn
                    go_simp
                    exact hK _ _ rfl (Below.refl _ _) (fun h => absurd h (by decide))
                  · have h84 : σ 84 = _ := hn 84 (by decide)
                    clear hn
                    simp only [h84] at hK
                    have o2' := bkeep hb o2
                    clear o2
                    go_simp
                    exact hK _ _ rfl (Below.refl _ _) (fun h => absurd h (by decide))
                  · have h85 : σ 85 = _ := hn 85 (by decide)
                    clear hn
                    simp only [h85] at hK
                    go_simp
                    exact hK _ _ rfl (Below.refl _ _) (fun h => absurd h (by decide))
                  · have h86 : σ 86 = _ := hn 86 (by decide)
                    clear hn
                    simp only [h86] at hK
                    have m2' := bkeep hb m2
                    clear m2
                    go_simp
                    exact hK _ _ rfl (Below.refl _ _) (fun h => absurd h (by decide))
                intro σ W' hb hR' hF
                have hs1 : σ 83 = _ := hR' 83 (by decide)
                have hs2 : σ 87 = _ := hR' 87 (by decide)
                replace HS := Lib.hid (HS.out.keep hb); replace HM := Lib.hid (HM.out.keep hb); replace HV := Lib.hid (HV.out.keep hb); replace HO := Lib.hid (HO.out.keep hb)
                clear hR' hF hb o1 o2 m1 m2
                simp only [fill, List.map, Act.put, List.setIfInBounds_toArray, List.set_cons_zero, List.set_cons_succ, List.length_cons, List.length_nil, List.drop_succ_cons, List.drop_zero, Nat.reduceAdd, hs1, hs2]
                go_upto_region 24 with (go_at_call 32; ((with_reducible refine (km _ HV.out).mono ?_); rintro e w1 ⟨rfl, hbt, hV⟩; have hS := HS.out.but ltv hbt; have hM := hbt.arr HM.out hmv; have hO := hbt.arr HO.out (Ne.symm hgo)))
                refine wp_gen (fun W => PSt w h b W ∧ Arr W gm 16 (w32 (le4 b)) ∧ Arr W gv 16 (w32 u1) ∧ Arr W go 16 (ordI r)) ⟨hS, hM, hV, hO⟩ ?_
                clear HS HM HV HO hS hM hV hO hbt km
                rintro U1 ⟨hS, hM, hV, hO⟩
                have q1 := ord_lt r 2 hlt (by decide)
                have q2 := ord_lt r 3 hlt (by decide)
                obtain ⟨o1, _⟩ := hO 2 (by decide)
                obtain ⟨o2, _⟩ := hO 3 (by decide)
                obtain ⟨m1, _⟩ := hM _ q1
                obtain ⟨m2, _⟩ := hM _ q2
                simp only [ordI, w32] at o1 o2 m1 m2
                obtain ⟨u2, hu2⟩ : ∃ u, mixAt (le4 b) r 1 1 5 9 13 u1 = u := ⟨_, rfl⟩
                have km := fun W hA => rmix_is gv 1 5 9 13 u1 (le4 b (ord r 2)) (le4 b (ord r 3)) (by decide) (by decide) (by decide) (by decide) W hA
                have hmm : mixf u1 1 5 9 13 (le4 b (ord r 2)) (le4 b (ord r 3)) = u2 := hu2
                rw [hmm] at km
                simp only [cast_1, cast_5, cast_9, cast_13] at km
                have q1' : ((ord r 2 : Nat) : Int) < 16 := by omega
                have q2' : ((ord r 3 : Nat) : Int) < 16 := by omega
                have HS := Lib.hid hS; have HM := Lib.hid hM; have HV := Lib.hid hV; have HO := Lib.hid hO
                clear hS hM hV hO hmm
                generalize le4 b (ord r 2) = x1 at *
                generalize le4 b (ord r 3) = x2 at *
                generalize ord r 2 = p1 at *
                generalize ord r 3 = p2 at *
                go_upto_region 24 with fail
                refine wp_loose [(89, []), (90, [89]), (91, [90]), (92, [91]), (93, []), (94, [93]), (95, [94]), (96, [95])]
                  (PressM1 go gm p1 p2 x1 x2) (fun d => false) (by kernel_rfl) (by kernel_rfl) (fun _ _ _ _ h hb => h.keep hb) ?_ ?_
                · refine opsrun_cons ?_ (opsrun_cons ?_ (opsrun_cons ?_ (opsrun_cons ?_ (opsrun_cons ?_ (opsrun_cons ?_ (opsrun_cons ?_ (opsrun_cons ?_ opsrun_nil)))))))
                  all_goals
                    refine OpRuns.any ?_
                    intro Q0 σ W' K hb hn hK
                    simp only [fill, List.map, Act.put, List.setIfInBounds_toArray, List.set_cons_zero, List.set_cons_succ] at hK ⊢
                  · clear hn
                    go_simp
                    exact hK _ _ rfl (Below.refl _ _) (fun h => absurd h (by decide))
                  · have h89 : σ 89 = _ := hn 89 (by decide)
                    clear hn
                    simp only [h89] at hK
                    have o1' := bkeep hb o1
                    clear o1
                    go_simp
                    exact hK _ _ rfl (Below.refl _ _) (fun h => absurd h (by decide))
                  · have h90 : σ 90 = _ := hn 90 (by decide)
                    clear hn
                    simp only [h90] at hK
                    go_simp
                    exact hK _ _ rfl (Below.refl _ _) (fun h => absurd h (by decide))
                  · have h91 : σ 91 = _ := hn 91 (by decide)
                    clear hn
                    simp only [h91] at hK
                    have m1' := bkeep hb m1
                    clear m1
                    go_simp
                    exact hK _ _ rfl (Below.refl _ _) (fun h => absurd h (by decide))
                  · clear hn
                    go_simp
                    exact hK _ _ rfl (Below.refl _ _) (fun h => absurd h (by decide))
                  · have h93 : σ 93 = _ := hn 93 (by decide)
                    clear hn
                    simp only [h93] at hK
                    have o2' := bkeep hb o2
                    clear o2
                    go_simp
                    exact hK _ _ rfl (Below.refl _ _) (fun h => absurd h (by decide))
                  · have h94 : σ 94 = _ := hn 94 (by decide)
                    clear hn
                    simp only [h94] at hK
                    go_simp
                    exact hK _ _ rfl (Below.refl _ _) (fun h => absurd h (by decide))
                  · have h95 : σ 95 = _ := hn 95 (by decide)
                    clear hn
                    simp only [h95] at hK
                    have m2' := bkeep hb m2
                    clear m2
                    go_simp
                    exact hK _ _ rfl (Below.refl _ _) (fun h => absurd h (by decide))
                intro σ W' hb hR' hF
                have hs1 : σ 92 = _ := hR' 92 (by decide)
                have hs2 : σ 96 = _ := hR' 96 (by decide)
                replace HS := Lib.hid (HS.out.keep hb); replace HM := Lib.hid (HM.out.keep hb); replace HV := Lib.hid (HV.out.keep hb); replace HO := Lib.hid (HO.out.keep hb)
                clear hR' hF hb o1 o2 m1 m2
                simp only [fill, List.map, Act.put, List.setIfInBounds_toArray, List.set_cons_zero, List.set_cons_succ, List.length_cons, List.length_nil, List.drop_succ_cons, List.drop_zero, Nat.reduceAdd, hs1, hs2]
                go_upto_region 25 with (go_at_call 32; ((with_reducible refine (km _ HV.out).mono ?_); rintro e w1 ⟨rfl, hbt, hV⟩; have hS := HS.out.but ltv hbt; have hM := hbt.arr HM.out hmv; have hO := hbt.arr HO.out (Ne.symm hgo)))
                refine wp_gen (fun W => PSt w h b W ∧ Arr W gm 16 (w32 (le4 b)) ∧ Arr W gv 16 (w32 u2) ∧ Arr W go 16 (ordI r)) ⟨hS, hM, hV, hO⟩ ?_
                clear HS HM HV HO hS hM hV hO hbt km
                rintro U2 ⟨hS, hM, hV, hO⟩
                have q1 := ord_lt r 4 hlt (by decide)
                have q2 := ord_lt r 5 hlt (by decide)
                obtain ⟨o1, _⟩ := hO 4 (by decide)
                obtain ⟨o2, _⟩ := hO 5 (by decide)
                obtain ⟨m1, _⟩ := hM _ q1
                obtain ⟨m2, _⟩ := hM _ q2
                simp only [ordI, w32] at o1 o2 m1 m2
                obtain ⟨u3, hu3⟩ : ∃ u, mixAt (le4 b) r 2 2 6 10 14 u2 = u := ⟨_, rfl⟩
                have km := fun W hA => rmix_is gv 2 6 10 14 u2 (le4 b (ord r 4)) (le4 b (ord r 5)) (by decide) (by decide) (by decide) (by decide) W hA
                have hmm : mixf u2 2 6 10 14 (le4 b (ord r 4)) (le4 b (ord r 5)) = u3 := hu3
                rw [hmm] at km
                simp only [cast_2, cast_6, cast_10, cast_14] at km
                have q1' : ((ord r 4 : Nat) : Int) < 16 := by omega
                have q2' : ((ord r 5 : Nat) : Int) < 16 := by omega
                have HS := Lib.hid hS; have HM := Lib.hid hM; have HV := Lib.hid hV; have HO := Lib.hid hO
                clear hS hM hV hO hmm
                generalize le4 b (ord r 4) = x1 at *
                generalize le4 b (ord r 5) = x2 at *
                generalize ord r 4 = p1 at *
                generalize ord r 5 = p2 at *
                go_upto_region 25 with fail
                refine wp_loose [(98, []), (99, [98]), (100, [99]), (101, [100]), (102, []), (103, [102]), (104, [103]), (105, [104])]
                  (PressM2 go gm p1 p2 x1 x2) (fun d => false) (by kernel_rfl) (by kernel_rfl) (fun _ _ _ _ h hb => h.keep hb) ?_ ?_
                · refine opsrun_cons ?_ (opsrun_cons ?_ (opsrun_cons ?_ (opsrun_cons ?_ (opsrun_cons ?_ (opsrun_cons ?_ (opsrun_cons ?_ (opsrun_cons ?_ opsrun_nil)))))))
                  all_goals
                    refine OpRuns.any ?_
                    intro Q0 σ W' K hb hn hK
                    simp only [fill, List.map, Act.put, List.setIfInBounds_toArray, List.set_cons_zero, List.set_cons_succ] at hK ⊢
                  · clear hn
                    go_simp
                    exact hK _ _ rfl (Below.refl _ _) (fun h => absurd h (by decide))
                  · have h98 : σ 98 = _ := hn 98 (by decide)
                    clear hn
                    simp only [h98] at hK
                    have o1' := bkeep hb o1
                    clear o1
                    go_simp
                    exact hK _ _ rfl (Below.refl _ _) (fun h => absurd h (by decide))
                  · have h99 : σ 99 = _ := hn 99 (by decide)
                    clear hn
                    simp only [h99] at hK
                    go_simp
                    exact hK _ _ rfl (Below.refl _ _) (fun h => absurd h (by decide))
                  · have h100 : σ 100 = _ := hn 100 (by decide)
                    clear hn
                    simp only [h100] at hK
                    have m1' := bkeep hb m1
                    clear m1
                    go_simp
                    exact hK _ _ rfl (Below.refl _ _) (fun h => absurd h (by decide))
                  · clear hn
                    go_simp
                    exact hK _ _ rfl (Below.refl _ _) (fun h => absurd h (by decide))
                  · have h102 : σ 102 = _ := hn 102 (by decide)
                    clear hn
                    simp only [h102] at hK
                    have o2' := bkeep hb o2
                    clear o2
                    go_simp
                    exact hK _ _ rfl (Below.refl _ _) (fun h => absurd h (by decide))
                  · have h103 : σ 103 = _ := hn 103 (by decide)
                    clear hn
                    simp only [h103] at hK
                    go_simp
                    exact hK _ _ rfl (Below.refl _ _) (fun h => absurd h (by decide))
                  · have h104 : σ 104 = _ := hn 104 (by decide)
                    clear hn
                    simp only [h104] at hK
                    have m2' := bkeep hb m2
                    clear m2
                    go_simp
                    exact hK _ _ rfl (Below.refl _ _) (fun h => absurd h (by decide))
                intro σ W' hb hR' hF
                have hs1 : σ 101 = _ := hR' 101 (by decide)
                have hs2 : σ 105 = _ := hR' 105 (by decide)
                replace HS := Lib.hid (HS.out.keep hb); replace HM := Lib.hid (HM.out.keep hb); replace HV := Lib.hid (HV.out.keep hb); replace HO := Lib.hid (HO.out.keep hb)
                clear hR' hF hb o1 o2 m1 m2
                simp only [fill, List.map, Act.put, List.setIfInBounds_toArray, List.set_cons_zero, List.set_cons_succ, List.length_cons, List.length_nil, List.drop_succ_cons, List.drop_zero, Nat.reduceAdd, hs1, hs2]
                go_upto_region 26 with (go_at_call 32; ((with_reducible refine (km _ HV.out).mono ?_); rintro e w1 ⟨rfl, hbt, hV⟩; have hS := HS.out.but ltv hbt; have hM := hbt.arr HM.out hmv; have hO := hbt.arr HO.out (Ne.symm hgo)))
                refine wp_gen (fun W => PSt w h b W ∧ Arr W gm 16 (w32 (le4 b)) ∧ Arr W gv 16 (w32 u3) ∧ Arr W go 16 (ordI r)) ⟨hS, hM, hV, hO⟩ ?_
                clear HS HM HV HO hS hM hV hO hbt km
                rintro U3 ⟨hS, hM, hV, hO⟩
                have q1 := ord_lt r 6 hlt (by decide)
                have q2 := ord_lt r 7 hlt (by decide)
                obtain ⟨o1, _⟩ := hO 6 (by decide)
                obtain ⟨o2, _⟩ := hO 7 (by decide)
                obtain ⟨m1, _⟩ := hM _ q1
                obtain ⟨m2, _⟩ := hM _ q2
                simp only [ordI, w32] at o1 o2 m1 m2
                obtain ⟨u4, hu4⟩ : ∃ u, mixAt (le4 b) r 3 3 7 11 15 u3 = u := ⟨_, rfl⟩
                have km := fun W hA => rmix_is gv 3 7 11 15 u3 (le4 b (ord r 6)) (le4 b (ord r 7)) (by decide) (by decide) (by decide) (by decide) W hA
                have hmm : mixf u3 3 7 11 15 (le4 b (ord r 6)) (le4 b (ord r 7)) = u4 := hu4
                rw [hmm] at km
                simp only [cast_3, cast_7, cast_11, cast_15] at km
                have q1' : ((ord r 6 : Nat) : Int) < 16 := by omega
                have q2' : ((ord r 7 : Nat) : Int) < 16 := by omega
                have HS := Lib.hid hS; have HM := Lib.hid hM; have HV := Lib.hid hV; have HO := Lib.hid hO
                clear hS hM hV hO hmm
                generalize le4 b (ord r 6) = x1 at *
                generalize le4 b (ord r 7) = x2 at *
                generalize ord r 6 = p1 at *
                generalize ord r 7 = p2 at *
                go_upto_region 26 with fail
                refine wp_loose [(107, []), (108, [107]), (109, [108]), (110, [109]), (111, []), (112, [111]), (113, [112]), (114, [113])]
                  (PressM3 go gm p1 p2 x1 x2) (fun d => false) (by kernel_rfl) (by kernel_rfl) (fun _ _ _ _ h hb => h.keep hb) ?_ ?_
                · refine opsrun_cons ?_ (opsrun_cons ?_ (opsrun_cons ?_ (opsrun_cons ?_ (opsrun_cons ?_ (opsrun_cons ?_ (opsrun_cons ?_ (opsrun_cons ?_ opsrun_nil)))))))
                  all_goals
                    refine OpRuns.any ?_
                    intro Q0 σ W' K hb hn hK
                    simp only [fill, List.map, Act.put, List.setIfInBounds_toArray, List.set_cons_zero, List.set_cons_succ] at hK ⊢
                  · clear hn
                    go_simp
                    exact hK _ _ rfl (Below.refl _ _) (fun h => absurd h (by decide))
                  · have h107 : σ 107 = _ := hn 107 (by decide)
                    clear hn
                    simp only [h107] at hK
                    have o1' := bkeep hb o1
                    clear o1
                    go_simp
                    exact hK _ _ rfl (Below.refl _ _) (fun h => absurd h (by decide))
                  · have h108 : σ 108 = _ := hn 108 (by decide)
                    clear hn
                    simp only [h108] at hK
                    go_simp
                    exact hK _ _ rfl (Below.refl _ _) (fun h => absurd h (by decide))
                  · have h109 : σ 109 = _ := hn 109 (by decide)
                    clear hn
                    simp only [h109] at hK
                    have m1' := bkeep hb m1
                    clear m1
                    go_simp
                    exact hK _ _ rfl (Below.refl _ _) (fun h => absurd h (by decide))
                  · clear hn
                    go_simp
                    exact hK _ _ rfl (Below.refl _ _) (fun h => absurd h (by decide))
                  · have h111 : σ 111 = _ := hn 111 (by decide)
                    clear hn
                    simp only [h111] at hK
                    have o2' := bkeep hb o2
                    clear o2
                    go_simp
                    exact hK _ _ rfl (Below.refl _ _) (fun h => absurd h (by decide))
                  · have h112 : σ 112 = _ := hn 112 (by decide)
                    clear hn
                    simp only [h112] at hK
                    go_simp
                    exact hK _ _ rfl (Below.refl _ _) (fun h => absurd h (by decide))
                  · have h113 : σ 113 = _ := hn 113 (by decide)
                    clear hn
                    simp only [h113] at hK
                    have m2' := bkeep hb m2
                    clear m2
                    go_simp
                    exact hK _ _ rfl (Below.refl _ _) (fun h => absurd h (by decide))
                intro σ W' hb hR' hF
                have hs1 : σ 110 = _ := hR' 110 (by decide)
                have hs2 : σ 114 = _ := hR' 114 (by decide)
                replace HS := Lib.hid (HS.out.keep hb); replace HM := Lib.hid (HM.out.keep hb); replace HV := Lib.hid (HV.out.keep hb); replace HO := Lib.hid (HO.out.keep hb)
                clear hR' hF hb o1 o2 m1 m2
                simp only [fill, List.map, Act.put, List.setIfInBounds_toArray, List.set_cons_zero, List.set_cons_succ, List.length_cons, List.length_nil, List.drop_succ_cons, List.drop_zero, Nat.reduceAdd, hs1, hs2]
                go_upto_region 27 with (go_at_call 32; ((with_reducible refine (km _ HV.out).mono ?_); rintro e w1 ⟨rfl, hbt, hV⟩; have hS := HS.out.but ltv hbt; have hM := hbt.arr HM.out hmv; have hO := hbt.arr HO.out (Ne.symm hgo)))
                refine wp_gen (fun W => PSt w h b W ∧ Arr W gm 16 (w32 (le4 b)) ∧ Arr W gv 16 (w32 u4) ∧ Arr W go 16 (ordI r)) ⟨hS, hM, hV, hO⟩ ?_
                clear HS HM HV HO hS hM hV hO hbt km
                rintro U4 ⟨hS, hM, hV, hO⟩
                have q1 := ord_lt r 8 hlt (by decide)
                have q2 := ord_lt r 9 hlt (by decide)
                obtain ⟨o1, _⟩ := hO 8 (by decide)
                obtain ⟨o2, _⟩ := hO 9 (by decide)
                obtain ⟨m1, _⟩ := hM _ q1
                obtain ⟨m2, _⟩ := hM _ q2
                simp only [ordI, w32] at o1 o2 m1 m2
                obtain ⟨u5, hu5⟩ : ∃ u, mixAt (le4 b) r 4 0 5 10 15 u4 = u := ⟨_, rfl⟩
                have km := fun W hA => rmix_is gv 0 5 10 15 u4 (le4 b (ord r 8)) (le4 b (ord r 9)) (by decide) (by decide) (by decide) (by decide) W hA
                have hmm : mixf u4 0 5 10 15 (le4 b (ord r 8)) (le4 b (ord r 9)) = u5 := hu5
                rw [hmm] at km
                simp only [cast_0, cast_5, cast_10, cast_15] at km
                have q1' : ((ord r 8 : Nat) : Int) < 16 := by omega
                have q2' : ((ord r 9 : Nat) : Int) < 16 := by omega
                have HS := Lib.hid hS; have HM := Lib.hid hM; have HV := Lib.hid hV; have HO := Lib.hid hO
                clear hS hM hV hO hmm
                generalize le4 b (ord r 8) = x1 at *
                generalize le4 b (ord r 9) = x2 at *
                generalize ord r 8 = p1 at *
                generalize ord r 9 = p2 at *
                go_upto_region 27 with fail
                refine wp_loose [(116, []), (117, [116]), (118, [117]), (119, [118]), (120, []), (121, [120]), (122, [121]), (123, [122])]
                  (PressM4 go gm p1 p2 x1 x2) (fun d => false) (by kernel_rfl) (by kernel_rfl) (fun _ _ _ _ h hb => h.keep hb) ?_ ?_
                · refine opsrun_cons ?_ (opsrun_cons ?_ (opsrun_cons ?_ (opsrun_cons ?_ (opsrun_cons ?_ (opsrun_cons ?_ (opsrun_cons ?_ (opsrun_cons ?_ opsrun_nil)))))))
                  all_goals
                    refine OpRuns.any ?_
                    intro Q0 σ W' K hb hn hK
                    simp only [fill, List.map, Act.put, List.setIfInBounds_toArray, List.set_cons_zero, List.set_cons_succ] at hK ⊢
                  · clear hn
                    go_simp
                    exact hK _ _ rfl (Below.refl _ _) (fun h => absurd h (by decide))
                  · have h116 : σ 116 = _ := hn 116 (by decide)
                    clear hn
                    simp only [h116] at hK
                    have o1' := bkeep hb o1
                    clear o1
                    go_simp
                    exact hK _ _ rfl (Below.refl _ _) (fun h => absurd h (by decide))
                  · have h117 : σ 117 = _ := hn 117 (by decide)
                    clear hn
                    simp only [h117] at hK
                    go_simp
                    exact hK _ _ rfl (Below.refl _ _) (fun h => absurd h (by decide))
                  · have h118 : σ 118 = _ := hn 118 (by decide)
                    clear hn
                    simp only [h118] at hK
                    have m1' := bkeep hb m1
                    clear m1
                    go_simp
                    exact hK _ _ rfl (Below.refl _ _) (fun h => absurd h (by decide))
                  · clear hn
                    go_simp
                    exact hK _ _ rfl (Below.refl _ _) (fun h => absurd h (by decide))
                  · have h120 : σ 120 = _ := hn 120 (by decide)
                    clear hn
                    simp only [h120] at hK
                    have o2' := bkeep hb o2
                    clear o2
                    go_simp
                    exact hK _ _ rfl (Below.refl _ _) (fun h => absurd h (by decide))
                  · have h121 : σ 121 = _ := hn 121 (by decide)
                    clear hn
                    simp only [h121] at hK
                    go_simp
                    exact hK _ _ rfl (Below.refl _ _) (fun h => absurd h (by decide))
                  · have h122 : σ 122 = _ := hn 122 (by decide)
                    clear hn
                    simp only [h122] at hK
                    have m2' := bkeep hb m2
                    clear m2
                    go_simp
                    exact hK _ _ rfl (Below.refl _ _) (fun h => absurd h (by decide))
                intro σ W' hb hR' hF
                have hs1 : σ 119 = _ := hR' 119 (by decide)
                have hs2 : σ 123 = _ := hR' 123 (by decide)
                replace HS := Lib.hid (HS.out.keep hb); replace HM := Lib.hid (HM.out.keep hb); replace HV := Lib.hid (HV.out.keep hb); replace HO := Lib.hid (HO.out.keep hb)
                clear hR' hF hb o1 o2 m1 m2
                simp only [fill, List.map, Act.put, List.setIfInBounds_toArray, List.set_cons_zero, List.set_cons_succ, List.length_cons, List.length_nil, List.drop_succ_cons, List.drop_zero, Nat.reduceAdd, hs1, hs2]
                go_upto_region 28 with (go_at_call 32; ((with_reducible refine (km _ HV.out).mono ?_); rintro e w1 ⟨rfl, hbt, hV⟩; have hS := HS.out.but ltv hbt; have hM := hbt.arr HM.out hmv; have hO := hbt.arr HO.out (Ne.symm hgo)))
                refine wp_gen (fun W => PSt w h b W ∧ Arr W gm 16 (w32 (le4 b)) ∧ Arr W gv 16 (w32 u5) ∧ Arr W go 16 (ordI r)) ⟨hS, hM, hV, hO⟩ ?_
                clear HS HM HV HO hS hM hV hO hbt km
                rintro U5 ⟨hS, hM, hV, hO⟩
                have q1 := ord_lt r 10 hlt (by decide)
                have q2 := ord_lt r 11 hlt (by decide)
                obtain ⟨o1, _⟩ := hO 10 (by decide)
                obtain ⟨o2, _⟩ := hO 11 (by decide)
                obtain ⟨m1, _⟩ := hM _ q1
                obtain ⟨m2, _⟩ := hM _ q2
                simp only [ordI, w32] at o1 o2 m1 m2
                obtain ⟨u6, hu6⟩ : ∃ u, mixAt (le4 b) r 5 1 6 11 12 u5 = u := ⟨_, rfl⟩
                have km := fun W hA => rmix_is gv 1 6 11 12 u5 (le4 b (ord r 10)) (le4 b (ord r 11)) (by decide) (by decide) (by decide) (by decide) W hA
                have hmm : mixf u5 1 6 11 12 (le4 b (ord r 10)) (le4 b (ord r 11)) = u6 := hu6
                rw [hmm] at km
                simp only [cast_1, cast_6, cast_11, cast_12] at km
                have q1' : ((ord r 10 : Nat) : Int) < 16 := by omega
                have q2' : ((ord r 11 : Nat) : Int) < 16 := by omega
                have HS := Lib.hid hS; have HM := Lib.hid hM; have HV := Lib.hid hV; have HO := Lib.hid hO
                clear hS hM hV hO hmm
                generalize le4 b (ord r 10) = x1 at *
                generalize le4 b (ord r 11) = x2 at *
                generalize ord r 10 = p1 at *
                generalize ord r 11 = p2 at *
                go_upto_region 28 with fail
                refine wp_loose [(125, []), (126, [125]), (127, [126]), (128, [127]), (129, []), (130, [129]), (131, [130]), (132, [131])]
                  (PressM5 go gm p1 p2 x1 x2) (fun d => false) (by kernel_rfl) (by kernel_rfl) (fun _ _ _ _ h hb => h.keep hb) ?_ ?_
                · refine opsrun_cons ?_ (opsrun_cons ?_ (opsrun_cons ?_ (opsrun_cons ?_ (opsrun_cons ?_ (opsrun_cons ?_ (opsrun_cons ?_ (opsrun_cons ?_ opsrun_nil)))))))
                  all_goals
                    refine OpRuns.any ?_
                    intro Q0 σ W' K hb hn hK
                    simp only [fill, List.map, Act.put, List.setIfInBounds_toArray, List.set_cons_zero, List.set_cons_succ] at hK ⊢
                  · clear hn
                    go_simp
                    exact hK _ _ rfl (Below.refl _ _) (fun h => absurd h (by decide))
                  · have h125 : σ 125 = _ := hn 125 (by decide)
                    clear hn
                    simp only [h125] at hK
                    have o1' := bkeep hb o1
                    clear o1
                    go_simp
                    exact hK _ _ rfl (Below.refl _ _) (fun h => absurd h (by decide))
                  · have h126 : σ 126 = _ := hn 126 (by decide)
                    clear hn
                    simp only [h126] at hK
                    go_simp
                    exact hK _ _ rfl (Below.refl _ _) (fun h => absurd h (by decide))
                  · have h127 : σ 127 = _ := hn 127 (by decide)
                    clear hn
                    simp only [h127] at hK
                    have m1' := bkeep hb m1
                    clear m1
                    go_simp
                    exact hK _ _ rfl (Below.refl _ _) (fun h => absurd h (by decide))
                  · clear hn
                    go_simp
                    exact hK _ _ rfl (Below.refl _ _) (fun h => absurd h (by decide))
                  · have h129 : σ 129 = _ := hn 129 (by decide)
                    clear hn
                    simp only [h129] at hK
                    have o2' := bkeep hb o2
                    clear o2
                    go_simp
                    exact hK _ _ rfl (Below.refl _ _) (fun h => absurd h (by decide))
                  · have h130 : σ 130 = _ := hn 130 (by decide)
                    clear hn
                    simp only [h130] at hK
                    go_simp
                    exact hK _ _ rfl (Below.refl _ _) (fun h => absurd h (by decide))
                  · have h131 : σ 131 = _ := hn 131 (by decide)
                    clear hn
                    simp only [h131] at hK
                    have m2' := bkeep hb m2
                    clear m2
                    go_simp
                    exact hK _ _ rfl (Below.refl _ _) (fun h => absurd h (by decide))
                intro σ W' hb hR' hF
                have hs1 : σ 128 = _ := hR' 128 (by decide)
                have hs2 : σ 132 = _ := hR' 132 (by decide)
                replace HS := Lib.hid (HS.out.keep hb); replace HM := Lib.hid (HM.out.keep hb); replace HV := Lib.hid (HV.out.keep hb); replace HO := Lib.hid (HO.out.keep hb)
                clear hR' hF hb o1 o2 m1 m2
                simp only [fill, List.map, Act.put, List.setIfInBounds_toArray, List.set_cons_zero, List.set_cons_succ, List.length_cons, List.length_nil, List.drop_succ_cons, List.drop_zero, Nat.reduceAdd, hs1, hs2]
                go_upto_region 29 with (go_at_call 32; ((with_reducible refine (km _ HV.out).mono ?_); rintro e w1 ⟨rfl, hbt, hV⟩; have hS := HS.out.but ltv hbt; have hM := hbt.arr HM.out hmv; have hO := hbt.arr HO.out (Ne.symm hgo)))
                refine wp_gen (fun W => PSt w h b W ∧ Arr W gm 16 (w32 (le4 b)) ∧ Arr W gv 16 (w32 u6) ∧ Arr W go 16 (ordI r)) ⟨hS, hM, hV, hO⟩ ?_
                clear HS HM HV HO hS hM hV hO hbt km
                rintro U6 ⟨hS, hM, hV, hO⟩
                have q1 := ord_lt r 12 hlt (by decide)
                have q2 := ord_lt r 13 hlt (by decide)
                obtain ⟨o1, _⟩ := hO 12 (by decide)
                obtain ⟨o2, _⟩ := hO 13 (by decide)
                obtain ⟨m1, _⟩ := hM _ q1
                obtain ⟨m2, _⟩ := hM _ q2
                simp only [ordI, w32] at o1 o2 m1 m2
                obtain ⟨u7, hu7⟩ : ∃ u, mixAt (le4 b) r 6 2 7 8 13 u6 = u := ⟨_, rfl⟩
                have km := fun W hA => rmix_is gv 2 7 8 13 u6 (le4 b (ord r 12)) (le4 b (ord r 13)) (by decide) (by decide) (by decide) (by decide) W hA
                have hmm : mixf u6 2 7 8 13 (le4 b (ord r 12)) (le4 b (ord r 13)) = u7 := hu7
                rw [hmm] at km
                simp only [cast_2, cast_7, cast_8, cast_13] at km
                have q1' : ((ord r 12 : Nat) : Int) < 16 := by omega
                have q2' : ((ord r 13 : Nat) : Int) < 16 := by omega
                have HS := Lib.hid hS; have HM := Lib.hid hM; have HV := Lib.hid hV; have HO := Lib.hid hO
                clear hS hM hV hO hmm
                generalize le4 b (ord r 12) = x1 at *
                generalize le4 b (ord r 13) = x2 at *
                generalize ord r 12 = p1 at *
                generalize ord r 13 = p2 at *
                go_upto_region 29 with fail
                refine wp_loose [(134, []), (135, [134]), (136, [135]), (137, [136]), (138, []), (139, [138]), (140, [139]), (141, [140])]
                  (PressM6 go gm p1 p2 x1 x2) (fun d => false) (by kernel_rfl) (by kernel_rfl) (fun _ _ _ _ h hb => h.keep hb) ?_ ?_
                · refine opsrun_cons ?_ (opsrun_cons ?_ (opsrun_cons ?_ (opsrun_cons ?_ (opsrun_cons ?_ (opsrun_cons ?_ (opsrun_cons ?_ (opsrun_cons ?_ opsrun_nil)))))))
                  all_goals
                    refine OpRuns.any ?_
                    intro Q0 σ W' K hb hn hK
                    simp only [fill, List.map, Act.put, List.setIfInBounds_toArray, List.set_cons_zero, List.set_cons_succ] at hK ⊢
                  · clear hn
                    go_simp
                    exact hK _ _ rfl (Below.refl _ _) (fun h => absurd h (by decide))
                  · have h134 : σ 134 = _ := hn 134 (by decide)
                    clear hn
                    simp only [h134] at hK
                    have o1' := bkeep hb o1
                    clear o1
                    go_simp
                    exact hK _ _ rfl (Below.refl _ _) (fun h => absurd h (by decide))
                  · have h135 : σ 135 = _ := hn 135 (by decide)
                    clear hn
                    simp only [h135] at hK
                    go_simp
                    exact hK _ _ rfl (Below.refl _ _) (fun h => absurd h (by decide))
                  · have h136 : σ 136 = _ := hn 136 (by decide)
                    clear hn
                    simp only [h136] at hK
                    have m1' := bkeep hb m1
                    clear m1
                    go_simp
                    exact hK _ _ rfl (Below.refl _ _) (fun h => absurd h (by decide))
                  · clear hn
                    go_simp
                    exact hK _ _ rfl (Below.refl _ _) (fun h => absurd h (by decide))
                  · have h138 : σ 138 = _ := hn 138 (by decide)
                    clear hn
                    simp only [h138] at hK
                    have o2' := bkeep hb o2
                    clear o2
                    go_simp
                    exact hK _ _ rfl (Below.refl _ _) (fun h => absurd h (by decide))
                  · have h139 : σ 139 = _ := hn 139 (by decide)
                    clear hn
                    simp only [h139] at hK
                    go_simp
                    exact hK _ _ rfl (Below.refl _ _) (fun h => absurd h (by decide))
                  · have h140 : σ 140 = _ := hn 140 (by decide)
                    clear hn
                    simp only [h140] at hK
                    have m2' := bkeep hb m2
                    clear m2
                    go_simp
                    exact hK _ _ rfl (Below.refl _ _) (fun h => absurd h (by decide))
                intro σ W' hb hR' hF
                have hs1 : σ 137 = _ := hR' 137 (by decide)
                have hs2 : σ 141 = _ := hR' 141 (by decide)
                replace HS := Lib.hid (HS.out.keep hb); replace HM := Lib.hid (HM.out.keep hb); replace HV := Lib.hid (HV.out.keep hb); replace HO := Lib.hid (HO.out.keep hb)
                clear hR' hF hb o1 o2 m1 m2
                simp only [fill, List.map, Act.put, List.setIfInBounds_toArray, List.set_cons_zero, List.set_cons_succ, List.length_cons, List.length_nil, List.drop_succ_cons, List.drop_zero, Nat.reduceAdd, hs1, hs2]
                go_upto_region 30 with (go_at_call 32; ((with_reducible refine (km _ HV.out).mono ?_); rintro e w1 ⟨rfl, hbt, hV⟩; have hS := HS.out.but ltv hbt; have hM := hbt.arr HM.out hmv; have hO := hbt.arr HO.out (Ne.symm hgo)))
                refine wp_gen (fun W => PSt w h b W ∧ Arr W gm 16 (w32 (le4 b)) ∧ Arr W gv 16 (w32 u7) ∧ Arr W go 16 (ordI r)) ⟨hS, hM, hV, hO⟩ ?_
                clear HS HM HV HO hS hM hV hO hbt km
                rintro U7 ⟨hS, hM, hV, hO⟩
                have q1 := ord_lt r 14 hlt (by decide)
                have q2 := ord_lt r 15 hlt (by decide)
                obtain ⟨o1, _⟩ := hO 14 (by decide)
                obtain ⟨o2, _⟩ := hO 15 (by decide)
                obtain ⟨m1, _⟩ := hM _ q1
                obtain ⟨m2, _⟩ := hM _ q2
                simp only [ordI, w32] at o1 o2 m1 m2
                obtain ⟨u8, hu8⟩ : ∃ u, mixAt (le4 b) r 7 3 4 9 14 u7 = u := ⟨_, rfl⟩
                have km := fun W hA => rmix_is gv 3 4 9 14 u7 (le4 b (ord r 14)) (le4 b (ord r 15)) (by decide) (by decide) (by decide) (by decide) W hA
                have hmm : mixf u7 3 4 9 14 (le4 b (ord r 14)) (le4 b (ord r 15)) = u8 := hu8
                rw [hmm] at km
                simp only [cast_3, cast_4, cast_9, cast_14] at km
                have q1' : ((ord r 14 : Nat) : Int) < 16 := by omega
                have q2' : ((ord r 15 : Nat) : Int) < 16 := by omega
                have HS := Lib.hid hS; have HM := Lib.hid hM; have HV := Lib.hid hV; have HO := Lib.hid hO
                clear hS hM hV hO hmm
                generalize le4 b (ord r 14) = x1 at *
                generalize le4 b (ord r 15) = x2 at *
                generalize ord r 14 = p1 at *
                generalize ord r 15 = p2 at *
                go_upto_region 30 with fail
                refine wp_loose [(143, []), (144, [143]), (145, [144]), (146, [145]), (147, []), (148, [147]), (149, [148]), (150, [149])]
                  (PressM7 go gm p1 p2 x1 x2) (fun d => false) (by kernel_rfl) (by kernel_rfl) (fun _ _ _ _ h hb => h.keep hb) ?_ ?_
                · refine opsrun_cons ?_ (opsrun_cons ?_ (opsrun_cons ?_ (opsrun_cons ?_ (opsrun_cons ?_ (opsrun_cons ?_ (opsrun_cons ?_ (opsrun_cons ?_ opsrun_nil)))))))
                  all_goals
                    refine OpRuns.any ?_
                    intro Q0 σ W' K hb hn hK
                    simp only [fill, List.map, Act.put, List.setIfInBounds_toArray, List.set_cons_zero, List.set_cons_succ] at hK ⊢
                  · clear hn
                    go_simp
                    exact hK _ _ rfl (Below.refl _ _) (fun h => absurd h (by decide))
                  · have h143 : σ 143 = _ := hn 143 (by decide)
                    clear hn
                    simp only [h143] at hK
                    have o1' := bkeep hb o1
                    clear o1
                    go_simp
                    exact hK _ _ rfl (Below.refl _ _) (fun h => absurd h (by decide))
                  · have h144 : σ 144 = _ := hn 144 (by decide)
                    clear hn
                    simp only [h144] at hK
                    go_simp
                    exact hK _ _ rfl (Below.refl _ _) (fun h => absurd h (by decide))
                  · have h145 : σ 145 = _ := hn 145 (by decide)
                    clear hn
                    simp only [h145] at hK
                    have m1' := bkeep hb m1
                    clear m1
                    go_simp
                    exact hK _ _ rfl (Below.refl _ _) (fun h => absurd h (by decide))
                  · clear hn
                    go_simp
                    exact hK _ _ rfl (Below.refl _ _) (fun h => absurd h (by decide))
                  · have h147 : σ 147 = _ := hn 147 (by decide)
                    clear hn
                    simp only [h147] at hK
                    have o2' := bkeep hb o2
                    clear o2
                    go_simp
                    exact hK _ _ rfl (Below.refl _ _) (fun h => absurd h (by decide))
                  · have h148 : σ 148 = _ := hn 148 (by decide)
                    clear hn
                    simp only [h148] at hK
                    go_simp
                    exact hK _ _ rfl (Below.refl _ _) (fun h => absurd h (by decide))
                  · have h149 : σ 149 = _ := hn 149 (by decide)
                    clear hn
                    simp only [h149] at hK
                    have m2' := bkeep hb m2
                    clear m2
                    go_simp
                    exact hK _ _ rfl (Below.refl _ _) (fun h => absurd h (by decide))
                intro σ W' hb hR' hF
                have hs1 : σ 146 = _ := hR' 146 (by decide)
                have hs2 : σ 150 = _ := hR' 150 (by decide)
                replace HS := Lib.hid (HS.out.keep hb); replace HM := Lib.hid (HM.out.keep hb); replace HV := Lib.hid (HV.out.keep hb); replace HO := Lib.hid (HO.out.keep hb)
                clear hR' hF hb o1 o2 m1 m2
                simp only [fill, List.map, Act.put, List.setIfInBounds_toArray, List.set_cons_zero, List.set_cons_succ, List.length_cons, List.length_nil, List.drop_succ_cons, List.drop_zero, Nat.reduceAdd, hs1, hs2]
                go_upto_region 21 with (go_at_call 32; ((with_reducible refine (km _ HV.out).mono ?_); rintro e w1 ⟨rfl, hbt, hV⟩; have hS := HS.out.but ltv hbt; have hM := hbt.arr HM.out hmv; have hO := hbt.arr HO.out (Ne.symm hgo)))
                refine wp_gen (fun W => PSt w h b W ∧ Arr W gm 16 (w32 (le4 b)) ∧ Arr W gv 16 (w32 u8) ∧ Arr W go 16 (ordI r)) ⟨hS, hM, hV, hO⟩ ?_
                clear HS HM HV HO hS hM hV hO hbt km
                rintro U8 ⟨hS, hM, hV, hO⟩
                go_wp2
                go_roundw
                case rel =>
                  refine ⟨r + 1, by omega, by go_num, hS, hM, ?_⟩
                  rw [hround, hu1, hu2, hu3, hu4, hu5, hu6, hu7, hu8]
                  exact hV
                case measure => simp [intOf]; omega
              · obtain rfl : r = 10 := by omega
                go_upto_region 32 with fail
                obtain ⟨pp, hpp⟩ : ∃ pp, press h b n last = pp := ⟨_, rfl⟩
                have hpj : ∀ j, xor32 (xor32 (h j) (rounds (le4 b) 10 v3 j)) (rounds (le4 b) 10 v3 (j + 8)) = pp j := fun j => by rw [← hpp, ← hfirst]; rfl
                generalize rounds (le4 b) 10 v3 = u at *
                clear hM
                have hS0 : PSt5 w h pp 0 wr := ⟨hS.1, hS.2.1.same (fun j _ => by show Value.int .u32 (h j) = Value.int .u32 (hrow h pp 0 j); unfold hrow; rw [if_neg (by omega)]), hS.2.2.2.1⟩
                clear hS
                go_loopw [17] (PLoop5 w h pp u gv) (fun i _ => 8 - (intOf i).toNat)
                case atStart => exact ⟨0, by omega, rfl, hS0, hV⟩
                case round =>
                  clear hS0 hV
                  obtain ⟨i, hi, rfl, hS, hV⟩ := hrel
                  by_cases hlt : i < 8
                  · have hi8 : (i : Int) < 8 := by omega
                    have hw1 : IntKind.i64.wrap ((i : Int) + 8) = (i : Int) + 8 := IntWalk.i64_in _ (by omega)
                    obtain ⟨ch, fh⟩ := hS.2.1 i hlt
                    obtain ⟨cv, _⟩ := hV i (by omega)
                    obtain ⟨cv8, _⟩ := hV (i + 8) (by omega)
                    simp only [w32] at ch cv cv8
                    rw [show hrow h pp i i = h i by unfold hrow; rw [if_neg (by omega)]] at ch
                    have HS := Lib.hid hS; have HV := Lib.hid hV
                    clear hS hV
                    go_upto_region 34 with fail
                    go_region
                    go_upto_region 33 with fail
                    refine wp_gen (fun W => PSt5 w h pp (i + 1) W ∧ Arr W gv 16 (w32 u)) ⟨⟨(HS.out.1.setCell (Nat.le_refl _) _).drew, Arr.drew ?_, Arr.drew (HS.out.2.2.far (by omega) _ _)⟩, Arr.drew (HV.out.far (by omega) _ _)⟩ ?_
                    · refine (HS.out.2.1.set i (.int .u32 (pp i)) hlt).same (fun j _ => hrow_set h pp i j) |> fun hh => ?_
                      rw [← hpj i] at hh
                      exact hh
                    clear HS HV ch cv cv8 fh hw1
                    rintro W4 ⟨hS, hV⟩
                    go_wp2
                    go_roundw
                    case rel => exact ⟨i + 1, by omega, by go_num, hS, hV⟩
                    case measure => simp [intOf]; omega
                  · obtain rfl : i = 8 := by omega
                    have HS := Lib.hid hS
                    have hP : Arr wr w.heap.size 8 (w32 pp) := hS.2.1.same (fun j hj => by show Value.int .u32 (hrow h pp 8 j) = Value.int .u32 (pp j); unfold hrow; rw [if_pos hj])
                    have hR := hS.2.2
                    clear hS hV
                    have HP := Lib.hid hP; have HR := Lib.hid hR
                    clear hP hR
                    go_wp2_with (first
                      | refine wpList_loadA rfl 42 41 _ rfl w.heap.size 8 (w32 pp) rfl HP.out (by kernel_rfl) (by kernel_rfl) ?_
                      | refine wpList_storeA rfl 42 _ _ rfl rfl (w.heap.size + 2) 8 _ _ rfl rfl HR.out (cellsA_size _ _) (by kernel_rfl) (w32_all _ _) ?_)
                    have ld := run_loadVarA (P := Tryd.prog) (HR.out.stored (w32 pp)) 42 41 (by kernel_rfl) (by kernel_rfl)
                    exact bodyPost_ret (v := .agg (cellsA 8 (w32 pp))) (results_cellA rfl rfl ld) rfl ⟨by rw [hpp], belowCells HS.out.1 _ (by omega) _ _⟩
end Go.Proofs.YthmpojefoiojeaaDoor
