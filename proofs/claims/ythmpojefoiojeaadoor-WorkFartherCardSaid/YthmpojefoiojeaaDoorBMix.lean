/-
  What the document's turn, mix come to. (Written by gen_bmix.py.)
-/
import Derived.Test.YthmpojefoiojeaaDoorGBlk
import Derived.Test.YthmpojefoiojeaaDoorGRow
import Derived.Test.YthmpojefoiojeaaDoorGNum
namespace Go.Proofs.YthmpojefoiojeaaDoor
open Go Go.RowKit
set_option linter.unusedVariables false

theorem turn32_is (x : Int) (n : Nat) (hn : n ≤ 31) (hn0 : 1 ≤ n) (w : World) : Calls Tryd.prog 36 #[.int .u32 x, .int .u64 n] w fun e w' => e = .returned (.int .u32 (rot32 x n)) ∧ w = w' := by
  have h1 : IntKind.u64.wrap (32 - (n : Int)) = ((32 - n : Nat) : Int) := by rw [IntKind.wrap_u64]; omega
  unfold rot32
  generalize hm : 32 - n = m at *
  have hm1 : m ≤ 31 := by omega
  clear hm
  go_enter Tryd.func36, Tryd.ntmps36
  go_wp2
  go_ret
  exact ⟨rfl, rfl⟩

def MixR0 (g I J : Nat) (p q x s : Int) (sl : Nat) (v : Value) (W : World) : Prop :=
  match sl with
  | 14 => v = .pointer (some ⟨g, 0, none⟩)
  | 15 => v = .int .i64 I
  | 16 => v = .pointer (some ⟨g, 0, none⟩)
  | 17 => v = .int .i64 I
  | 18 => v = .pointer (some ⟨g, 0, none⟩)
  | 19 => v = .pointer (some ⟨g, I, none⟩)
  | 20 => v = .int .u32 p
  | 21 => v = .pointer (some ⟨g, 0, none⟩)
  | 22 => v = .int .i64 J
  | 23 => v = .pointer (some ⟨g, 0, none⟩)
  | 24 => v = .pointer (some ⟨g, J, none⟩)
  | 25 => v = .int .u32 q
  | 26 => v = .int .u32 (IntKind.u32.wrap (p + q))
  | 27 => v = .int .u32 x
  | 28 => v = .int .u32 s
  | 29 => v = .pointer (some ⟨g, 0, none⟩)
  | _ => v = .pointer (some ⟨g, I, none⟩)
theorem MixR0.keep {g I J : Nat} {p q x s : Int} {sl : Nat} {v : Value} {W W' : World} (h : MixR0 g I J p q x s sl v W) (hb : Below W.heap.size W W') : MixR0 g I J p q x s sl v W' := h
def MixR1 (g I J : Nat) (p q x s : Int) (sl : Nat) (v : Value) (W : World) : Prop :=
  match sl with
  | 31 => v = .pointer (some ⟨g, 0, none⟩)
  | 32 => v = .int .i64 I
  | 33 => v = .pointer (some ⟨g, 0, none⟩)
  | 34 => v = .int .i64 I
  | 35 => v = .pointer (some ⟨g, 0, none⟩)
  | 36 => v = .pointer (some ⟨g, I, none⟩)
  | 37 => v = .int .u32 p
  | 38 => v = .pointer (some ⟨g, 0, none⟩)
  | 39 => v = .int .i64 J
  | 40 => v = .pointer (some ⟨g, 0, none⟩)
  | 41 => v = .pointer (some ⟨g, J, none⟩)
  | 42 => v = .int .u32 q
  | 43 => v = .int .u32 (xor32 p q)
  | 44 => v = .int .u32 s
  | 45 => v = .pointer (some ⟨g, 0, none⟩)
  | _ => v = .pointer (some ⟨g, I, none⟩)
theorem MixR1.keep {g I J : Nat} {p q x s : Int} {sl : Nat} {v : Value} {W W' : World} (h : MixR1 g I J p q x s sl v W) (hb : Below W.heap.size W W') : MixR1 g I J p q x s sl v W' := h
def MixR2 (g I J : Nat) (p q x s : Int) (sl : Nat) (v : Value) (W : World) : Prop :=
  match sl with
  | 47 => v = .pointer (some ⟨g, 0, none⟩)
  | 48 => v = .int .i64 I
  | 49 => v = .pointer (some ⟨g, 0, none⟩)
  | 50 => v = .int .i64 I
  | 51 => v = .pointer (some ⟨g, 0, none⟩)
  | 52 => v = .pointer (some ⟨g, I, none⟩)
  | 53 => v = .int .u32 p
  | 54 => v = .pointer (some ⟨g, 0, none⟩)
  | 55 => v = .int .i64 J
  | 56 => v = .pointer (some ⟨g, 0, none⟩)
  | 57 => v = .pointer (some ⟨g, J, none⟩)
  | 58 => v = .int .u32 q
  | 59 => v = .int .u32 s
  | 60 => v = .pointer (some ⟨g, 0, none⟩)
  | _ => v = .pointer (some ⟨g, I, none⟩)
theorem MixR2.keep {g I J : Nat} {p q x s : Int} {sl : Nat} {v : Value} {W W' : World} (h : MixR2 g I J p q x s sl v W) (hb : Below W.heap.size W W') : MixR2 g I J p q x s sl v W' := h
def MixR3 (g I J : Nat) (p q x s : Int) (sl : Nat) (v : Value) (W : World) : Prop :=
  match sl with
  | 62 => v = .pointer (some ⟨g, 0, none⟩)
  | 63 => v = .int .i64 I
  | 64 => v = .pointer (some ⟨g, 0, none⟩)
  | 65 => v = .int .i64 I
  | 66 => v = .pointer (some ⟨g, 0, none⟩)
  | 67 => v = .pointer (some ⟨g, I, none⟩)
  | 68 => v = .int .u32 p
  | 69 => v = .pointer (some ⟨g, 0, none⟩)
  | 70 => v = .int .i64 J
  | 71 => v = .pointer (some ⟨g, 0, none⟩)
  | 72 => v = .pointer (some ⟨g, J, none⟩)
  | 73 => v = .int .u32 q
  | 74 => v = .int .u32 (xor32 p q)
  | 75 => v = .int .u32 s
  | 76 => v = .pointer (some ⟨g, 0, none⟩)
  | _ => v = .pointer (some ⟨g, I, none⟩)
theorem MixR3.keep {g I J : Nat} {p q x s : Int} {sl : Nat} {v : Value} {W W' : World} (h : MixR3 g I J p q x s sl v W) (hb : Below W.heap.size W W') : MixR3 g I J p q x s sl v W' := h
def MixR4 (g I J : Nat) (p q x s : Int) (sl : Nat) (v : Value) (W : World) : Prop :=
  match sl with
  | 78 => v = .pointer (some ⟨g, 0, none⟩)
  | 79 => v = .int .i64 I
  | 80 => v = .pointer (some ⟨g, 0, none⟩)
  | 81 => v = .int .i64 I
  | 82 => v = .pointer (some ⟨g, 0, none⟩)
  | 83 => v = .pointer (some ⟨g, I, none⟩)
  | 84 => v = .int .u32 p
  | 85 => v = .pointer (some ⟨g, 0, none⟩)
  | 86 => v = .int .i64 J
  | 87 => v = .pointer (some ⟨g, 0, none⟩)
  | 88 => v = .pointer (some ⟨g, J, none⟩)
  | 89 => v = .int .u32 q
  | 90 => v = .int .u32 (IntKind.u32.wrap (p + q))
  | 91 => v = .int .u32 x
  | 92 => v = .int .u32 s
  | 93 => v = .pointer (some ⟨g, 0, none⟩)
  | _ => v = .pointer (some ⟨g, I, none⟩)
theorem MixR4.keep {g I J : Nat} {p q x s : Int} {sl : Nat} {v : Value} {W W' : World} (h : MixR4 g I J p q x s sl v W) (hb : Below W.heap.size W W') : MixR4 g I J p q x s sl v W' := h
def MixR5 (g I J : Nat) (p q x s : Int) (sl : Nat) (v : Value) (W : World) : Prop :=
  match sl with
  | 95 => v = .pointer (some ⟨g, 0, none⟩)
  | 96 => v = .int .i64 I
  | 97 => v = .pointer (some ⟨g, 0, none⟩)
  | 98 => v = .int .i64 I
  | 99 => v = .pointer (some ⟨g, 0, none⟩)
  | 100 => v = .pointer (some ⟨g, I, none⟩)
  | 101 => v = .int .u32 p
  | 102 => v = .pointer (some ⟨g, 0, none⟩)
  | 103 => v = .int .i64 J
  | 104 => v = .pointer (some ⟨g, 0, none⟩)
  | 105 => v = .pointer (some ⟨g, J, none⟩)
  | 106 => v = .int .u32 q
  | 107 => v = .int .u32 (xor32 p q)
  | 108 => v = .int .u32 s
  | 109 => v = .pointer (some ⟨g, 0, none⟩)
  | _ => v = .pointer (some ⟨g, I, none⟩)
theorem MixR5.keep {g I J : Nat} {p q x s : Int} {sl : Nat} {v : Value} {W W' : World} (h : MixR5 g I J p q x s sl v W) (hb : Below W.heap.size W W') : MixR5 g I J p q x s sl v W' := h
def MixR6 (g I J : Nat) (p q x s : Int) (sl : Nat) (v : Value) (W : World) : Prop :=
  match sl with
  | 111 => v = .pointer (some ⟨g, 0, none⟩)
  | 112 => v = .int .i64 I
  | 113 => v = .pointer (some ⟨g, 0, none⟩)
  | 114 => v = .int .i64 I
  | 115 => v = .pointer (some ⟨g, 0, none⟩)
  | 116 => v = .pointer (some ⟨g, I, none⟩)
  | 117 => v = .int .u32 p
  | 118 => v = .pointer (some ⟨g, 0, none⟩)
  | 119 => v = .int .i64 J
  | 120 => v = .pointer (some ⟨g, 0, none⟩)
  | 121 => v = .pointer (some ⟨g, J, none⟩)
  | 122 => v = .int .u32 q
  | 123 => v = .int .u32 s
  | 124 => v = .pointer (some ⟨g, 0, none⟩)
  | _ => v = .pointer (some ⟨g, I, none⟩)
theorem MixR6.keep {g I J : Nat} {p q x s : Int} {sl : Nat} {v : Value} {W W' : World} (h : MixR6 g I J p q x s sl v W) (hb : Below W.heap.size W W') : MixR6 g I J p q x s sl v W' := h
def MixR7 (g I J : Nat) (p q x s : Int) (sl : Nat) (v : Value) (W : World) : Prop :=
  match sl with
  | 126 => v = .pointer (some ⟨g, 0, none⟩)
  | 127 => v = .int .i64 I
  | 128 => v = .pointer (some ⟨g, 0, none⟩)
  | 129 => v = .int .i64 I
  | 130 => v = .pointer (some ⟨g, 0, none⟩)
  | 131 => v = .pointer (some ⟨g, I, none⟩)
  | 132 => v = .int .u32 p
  | 133 => v = .pointer (some ⟨g, 0, none⟩)
  | 134 => v = .int .i64 J
  | 135 => v = .pointer (some ⟨g, 0, none⟩)
  | 136 => v = .pointer (some ⟨g, J, none⟩)
  | 137 => v = .int .u32 q
  | 138 => v = .int .u32 (xor32 p q)
  | 139 => v = .int .u32 s
  | 140 => v = .pointer (some ⟨g, 0, none⟩)
  | _ => v = .pointer (some ⟨g, I, none⟩)
theorem MixR7.keep {g I J : Nat} {p q x s : Int} {sl : Nat} {v : Value} {W W' : World} (h : MixR7 g I J p q x s sl v W) (hb : Below W.heap.size W W') : MixR7 g I J p q x s sl v W' := h

set_option maxRecDepth 100000 in
set_option maxHeartbeats 4000000 in
theorem rmix_is (g A B C D : Nat) (v : Nat → Int) (x y : Int) (hA : A < 16) (hB : B < 16) (hC : C < 16) (hD : D < 16) (w : World) (h : Arr w g 16 (w32 v)) :
    Calls Tryd.prog 32 #[.pointer (some ⟨g, 0, none⟩), .int .i64 A, .int .i64 B, .int .i64 C, .int .i64 D, .int .u32 x, .int .u32 y] w fun e w' => e = .returned (.tuple #[]) ∧ But g w w' ∧ Arr w' g 16 (w32 (mixf v A B C D x y)) := by
  have hiA : (A : Int) < 16 := by omega
  have hiB : (B : Int) < 16 := by omega
  have hiC : (C : Int) < 16 := by omega
  have hiD : (D : Int) < 16 := by omega
  have ltg := h.lt (by decide)
  have hBut := But.refl g w
  unfold mixf
  go_enter Tryd.func32, Tryd.ntmps32
  go_upto_region 0 with fail
  obtain ⟨cI, _⟩ := h A hA
  obtain ⟨cJ, _⟩ := h B hB
  obtain ⟨v1, hv1⟩ : ∃ v', mix1 v A B x = v' := ⟨_, rfl⟩
  have hs : add32 (add32 (v A) (v B)) x = v1 A := by rw [← hv1]; exact (upd_at _ _ _).symm
  unfold add32 at hs
  refine wp_loose [(14, []), (15, []), (16, []), (17, []), (18, [16]), (19, [17, 18]), (20, [19]), (21, []), (22, []), (23, [21]), (24, [22, 23]), (25, [24]), (26, [20, 25]), (27, []), (28, [26, 27]), (29, [14]), (30, [15, 29])]
    (MixR0 g A B (v A) (v B) x (v1 A)) (fun d => false) (by kernel_rfl) (by kernel_rfl) (fun _ _ _ _ h hb => h.keep hb) ?_ ?_
  · refine opsrun_cons ?_ (opsrun_cons ?_ (opsrun_cons ?_ (opsrun_cons ?_ (opsrun_cons ?_ (opsrun_cons ?_ (opsrun_cons ?_ (opsrun_cons ?_ (opsrun_cons ?_ (opsrun_cons ?_ (opsrun_cons ?_ (opsrun_cons ?_ (opsrun_cons ?_ (opsrun_cons ?_ (opsrun_cons ?_ (opsrun_cons ?_ (opsrun_cons ?_ opsrun_nil))))))))))))))))
    all_goals
      refine OpRuns.any ?_
      intro Q0 σ W' K hb hn hK
      simp only [fill, List.map, Act.put, List.setIfInBounds_toArray, List.set_cons_zero, List.set_cons_succ] at hK ⊢
    · clear hn
      go_simp
      exact hK _ _ rfl (Below.refl _ _) (fun h => absurd h (by decide))
    · clear hn
      go_simp
      exact hK _ _ rfl (Below.refl _ _) (fun h => absurd h (by decide))
    · clear hn
      go_simp
      exact hK _ _ rfl (Below.refl _ _) (fun h => absurd h (by decide))
    · clear hn
      go_simp
      exact hK _ _ rfl (Below.refl _ _) (fun h => absurd h (by decide))
    · have h16 : σ 16 = _ := hn 16 (by decide)
      clear hn
      simp only [h16] at hK
      go_simp
      exact hK _ _ rfl (Below.refl _ _) (fun h => absurd h (by decide))
    · have h17 : σ 17 = _ := hn 17 (by decide)
      have h18 : σ 18 = _ := hn 18 (by decide)
      clear hn
      simp only [h17, h18] at hK
      go_simp
      exact hK _ _ rfl (Below.refl _ _) (fun h => absurd h (by decide))
    · have h19 : σ 19 = _ := hn 19 (by decide)
      clear hn
      simp only [h19] at hK
      have cI' := bkeep hb cI
      clear cI
      go_simp
      exact hK _ _ rfl (Below.refl _ _) (fun h => absurd h (by decide))
    · clear hn
      go_simp
      exact hK _ _ rfl (Below.refl _ _) (fun h => absurd h (by decide))
    · clear hn
      go_simp
      exact hK _ _ rfl (Below.refl _ _) (fun h => absurd h (by decide))
    · have h21 : σ 21 = _ := hn 21 (by decide)
      clear hn
      simp only [h21] at hK
      go_simp
      exact hK _ _ rfl (Below.refl _ _) (fun h => absurd h (by decide))
    · have h22 : σ 22 = _ := hn 22 (by decide)
      have h23 : σ 23 = _ := hn 23 (by decide)
      clear hn
      simp only [h22, h23] at hK
      go_simp
      exact hK _ _ rfl (Below.refl _ _) (fun h => absurd h (by decide))
    · have h24 : σ 24 = _ := hn 24 (by decide)
      clear hn
      simp only [h24] at hK
      have cJ' := bkeep hb cJ
      clear cJ
      go_simp
      exact hK _ _ rfl (Below.refl _ _) (fun h => absurd h (by decide))
    · have h20 : σ 20 = _ := hn 20 (by decide)
      have h25 : σ 25 = _ := hn 25 (by decide)
      clear hn
      simp only [h20, h25] at hK
      go_simp
      exact hK _ _ rfl (Below.refl _ _) (fun h => absurd h (by decide))
    · clear hn
      go_simp
      exact hK _ _ rfl (Below.refl _ _) (fun h => absurd h (by decide))
    · have h26 : σ 26 = _ := hn 26 (by decide)
      have h27 : σ 27 = _ := hn 27 (by decide)
      clear hn
      simp only [h26, h27] at hK
      go_simp
      first | exact hK _ _ rfl (Below.refl _ _) (fun h => absurd h (by decide)) | exact hK _ _ (congrArg (Value.int .u32) hs) (Below.refl _ _) (fun h => absurd h (by decide))
    · have h14 : σ 14 = _ := hn 14 (by decide)
      clear hn
      simp only [h14] at hK
      go_simp
      exact hK _ _ rfl (Below.refl _ _) (fun h => absurd h (by decide))
    · have h15 : σ 15 = _ := hn 15 (by decide)
      have h29 : σ 29 = _ := hn 29 (by decide)
      clear hn
      simp only [h15, h29] at hK
      go_simp
      exact hK _ _ rfl (Below.refl _ _) (fun h => absurd h (by decide))
  intro σ W' hb hR' hF
  have hs1 : σ 28 = _ := hR' 28 (by decide)
  have hs2 : σ 30 = _ := hR' 30 (by decide)
  have h2 := h.keep hb
  have hBut2 := hBut.then hb
  have hC' := Lib.hid h2
  obtain ⟨c', f'⟩ := h2 A hA
  clear hR' hF hb
  simp only [fill, List.map, Act.put, List.setIfInBounds_toArray, List.set_cons_zero, List.set_cons_succ, List.length_cons, List.length_nil, List.drop_succ_cons, List.drop_zero, Nat.reduceAdd, hs1, hs2]
  go_upto_region 1 with fail
  refine wp_gen (fun W => But g w W ∧ Arr W g 16 (w32 v1)) ⟨hBut2.setCell (Or.inl rfl) _, (hC'.out.set A _ hA).same (fun j hj => by rw [← hs, ← hv1]; exact w32_upd _ _ _ _)⟩ ?_
  clear h hBut h2 hBut2 hC' c' f' cI cJ hs hs1 hs2
  rintro W1 ⟨hBut, h⟩
  go_upto_region 1 with fail
  obtain ⟨cI, _⟩ := h D hD
  obtain ⟨cJ, _⟩ := h A hA
  obtain ⟨v2, hv2⟩ : ∃ v', mix2 v1 D A 16 = v' := ⟨_, rfl⟩
  have hs : rot32 (xor32 (v1 D) (v1 A)) 16 = v2 D := by rw [← hv2]; exact (upd_at _ _ _).symm
  have k1 := turn32_is (xor32 (v1 D) (v1 A)) 16 (by decide) (by decide)
  rw [hs] at k1
  refine wp_loose [(31, []), (32, []), (33, []), (34, []), (35, [33]), (36, [34, 35]), (37, [36]), (38, []), (39, []), (40, [38]), (41, [39, 40]), (42, [41]), (43, [37, 42]), (44, [43]), (45, [31]), (46, [32, 45])]
    (MixR1 g D A (v1 D) (v1 A) 0 (v2 D)) (fun d => false) (by kernel_rfl) (by kernel_rfl) (fun _ _ _ _ h hb => h.keep hb) ?_ ?_
  · refine opsrun_cons ?_ (opsrun_cons ?_ (opsrun_cons ?_ (opsrun_cons ?_ (opsrun_cons ?_ (opsrun_cons ?_ (opsrun_cons ?_ (opsrun_cons ?_ (opsrun_cons ?_ (opsrun_cons ?_ (opsrun_cons ?_ (opsrun_cons ?_ (opsrun_cons ?_ (opsrun_cons ?_ (opsrun_cons ?_ (opsrun_cons ?_ opsrun_nil)))))))))))))))
    all_goals
      refine OpRuns.any ?_
      intro Q0 σ W' K hb hn hK
      simp only [fill, List.map, Act.put, List.setIfInBounds_toArray, List.set_cons_zero, List.set_cons_succ] at hK ⊢
    · clear hn
      go_simp
      exact hK _ _ rfl (Below.refl _ _) (fun h => absurd h (by decide))
    · clear hn
      go_simp
      exact hK _ _ rfl (Below.refl _ _) (fun h => absurd h (by decide))
    · clear hn
      go_simp
      exact hK _ _ rfl (Below.refl _ _) (fun h => absurd h (by decide))
    · clear hn
      go_simp
      exact hK _ _ rfl (Below.refl _ _) (fun h => absurd h (by decide))
    · have h33 : σ 33 = _ := hn 33 (by decide)
      clear hn
      simp only [h33] at hK
      go_simp
      exact hK _ _ rfl (Below.refl _ _) (fun h => absurd h (by decide))
    · have h34 : σ 34 = _ := hn 34 (by decide)
      have h35 : σ 35 = _ := hn 35 (by decide)
      clear hn
      simp only [h34, h35] at hK
      go_simp
      exact hK _ _ rfl (Below.refl _ _) (fun h => absurd h (by decide))
    · have h36 : σ 36 = _ := hn 36 (by decide)
      clear hn
      simp only [h36] at hK
      have cI' := bkeep hb cI
      clear cI
      go_simp
      exact hK _ _ rfl (Below.refl _ _) (fun h => absurd h (by decide))
    · clear hn
      go_simp
      exact hK _ _ rfl (Below.refl _ _) (fun h => absurd h (by decide))
    · clear hn
      go_simp
      exact hK _ _ rfl (Below.refl _ _) (fun h => absurd h (by decide))
    · have h38 : σ 38 = _ := hn 38 (by decide)
      clear hn
      simp only [h38] at hK
      go_simp
      exact hK _ _ rfl (Below.refl _ _) (fun h => absurd h (by decide))
    · have h39 : σ 39 = _ := hn 39 (by decide)
      have h40 : σ 40 = _ := hn 40 (by decide)
      clear hn
      simp only [h39, h40] at hK
      go_simp
      exact hK _ _ rfl (Below.refl _ _) (fun h => absurd h (by decide))
    · have h41 : σ 41 = _ := hn 41 (by decide)
      clear hn
      simp only [h41] at hK
      have cJ' := bkeep hb cJ
      clear cJ
      go_simp
      exact hK _ _ rfl (Below.refl _ _) (fun h => absurd h (by decide))
    · have h37 : σ 37 = _ := hn 37 (by decide)
      have h42 : σ 42 = _ := hn 42 (by decide)
      clear hn
      simp only [h37, h42] at hK
      go_simp
      exact hK _ _ rfl (Below.refl _ _) (fun h => absurd h (by decide))
    · have h43 : σ 43 = _ := hn 43 (by decide)
      clear hn
      simp only [h43] at hK
      go_simp
      go_at_call 36
      refine (k1 _).mono ?_
      rintro e w1 ⟨rfl, rfl⟩
      exact hK _ _ rfl (Below.refl _ _) (fun h => absurd h (by decide))
    · have h31 : σ 31 = _ := hn 31 (by decide)
      clear hn
      simp only [h31] at hK
      go_simp
      exact hK _ _ rfl (Below.refl _ _) (fun h => absurd h (by decide))
    · have h32 : σ 32 = _ := hn 32 (by decide)
      have h45 : σ 45 = _ := hn 45 (by decide)
      clear hn
      simp only [h32, h45] at hK
      go_simp
      exact hK _ _ rfl (Below.refl _ _) (fun h => absurd h (by decide))
  intro σ W' hb hR' hF
  have hs1 : σ 44 = _ := hR' 44 (by decide)
  have hs2 : σ 46 = _ := hR' 46 (by decide)
  have h2 := h.keep hb
  have hBut2 := hBut.then hb
  have hC' := Lib.hid h2
  obtain ⟨c', f'⟩ := h2 D hD
  clear hR' hF hb
  simp only [fill, List.map, Act.put, List.setIfInBounds_toArray, List.set_cons_zero, List.set_cons_succ, List.length_cons, List.length_nil, List.drop_succ_cons, List.drop_zero, Nat.reduceAdd, hs1, hs2]
  go_upto_region 2 with fail
  refine wp_gen (fun W => But g w W ∧ Arr W g 16 (w32 v2)) ⟨hBut2.setCell (Or.inl rfl) _, (hC'.out.set D _ hD).same (fun j hj => by rw [← hs, ← hv2]; exact w32_upd _ _ _ _)⟩ ?_
  clear h hBut h2 hBut2 hC' c' f' cI cJ hs hs1 hs2 k1
  rintro W2 ⟨hBut, h⟩
  go_upto_region 2 with fail
  obtain ⟨cI, _⟩ := h C hC
  obtain ⟨cJ, _⟩ := h D hD
  obtain ⟨v3, hv3⟩ : ∃ v', mix3 v2 C D = v' := ⟨_, rfl⟩
  have hs : add32 (v2 C) (v2 D) = v3 C := by rw [← hv3]; exact (upd_at _ _ _).symm
  unfold add32 at hs
  refine wp_loose [(47, []), (48, []), (49, []), (50, []), (51, [49]), (52, [50, 51]), (53, [52]), (54, []), (55, []), (56, [54]), (57, [55, 56]), (58, [57]), (59, [53, 58]), (60, [47]), (61, [48, 60])]
    (MixR2 g C D (v2 C) (v2 D) 0 (v3 C)) (fun d => false) (by kernel_rfl) (by kernel_rfl) (fun _ _ _ _ h hb => h.keep hb) ?_ ?_
  · refine opsrun_cons ?_ (opsrun_cons ?_ (opsrun_cons ?_ (opsrun_cons ?_ (opsrun_cons ?_ (opsrun_cons ?_ (opsrun_cons ?_ (opsrun_cons ?_ (opsrun_cons ?_ (opsrun_cons ?_ (opsrun_cons ?_ (opsrun_cons ?_ (opsrun_cons ?_ (opsrun_cons ?_ (opsrun_cons ?_ opsrun_nil))))))))))))))
    all_goals
      refine OpRuns.any ?_
      intro Q0 σ W' K hb hn hK
      simp only [fill, List.map, Act.put, List.setIfInBounds_toArray, List.set_cons_zero, List.set_cons_succ] at hK ⊢
    · clear hn
      go_simp
      exact hK _ _ rfl (Below.refl _ _) (fun h => absurd h (by decide))
    · clear hn
      go_simp
      exact hK _ _ rfl (Below.refl _ _) (fun h => absurd h (by decide))
    · clear hn
      go_simp
      exact hK _ _ rfl (Below.refl _ _) (fun h => absurd h (by decide))
    · clear hn
      go_simp
      exact hK _ _ rfl (Below.refl _ _) (fun h => absurd h (by decide))
    · have h49 : σ 49 = _ := hn 49 (by decide)
      clear hn
      simp only [h49] at hK
      go_simp
      exact hK _ _ rfl (Below.refl _ _) (fun h => absurd h (by decide))
    · have h50 : σ 50 = _ := hn 50 (by decide)
      have h51 : σ 51 = _ := hn 51 (by decide)
      clear hn
      simp only [h50, h51] at hK
      go_simp
      exact hK _ _ rfl (Below.refl _ _) (fun h => absurd h (by decide))
    · have h52 : σ 52 = _ := hn 52 (by decide)
      clear hn
      simp only [h52] at hK
      have cI' := bkeep hb cI
      clear cI
      go_simp
      exact hK _ _ rfl (Below.refl _ _) (fun h => absurd h (by decide))
    · clear hn
      go_simp
      exact hK _ _ rfl (Below.refl _ _) (fun h => absurd h (by decide))
    · clear hn
      go_simp
      exact hK _ _ rfl (Below.refl _ _) (fun h => absurd h (by decide))
    · have h54 : σ 54 = _ := hn 54 (by decide)
      clear hn
      simp only [h54] at hK
      go_simp
      exact hK _ _ rfl (Below.refl _ _) (fun h => absurd h (by decide))
    · have h55 : σ 55 = _ := hn 55 (by decide)
      have h56 : σ 56 = _ := hn 56 (by decide)
      clear hn
      simp only [h55, h56] at hK
      go_simp
      exact hK _ _ rfl (Below.refl _ _) (fun h => absurd h (by decide))
    · have h57 : σ 57 = _ := hn 57 (by decide)
      clear hn
      simp only [h57] at hK
      have cJ' := bkeep hb cJ
      clear cJ
      go_simp
      exact hK _ _ rfl (Below.refl _ _) (fun h => absurd h (by decide))
    · have h53 : σ 53 = _ := hn 53 (by decide)
      have h58 : σ 58 = _ := hn 58 (by decide)
      clear hn
      simp only [h53, h58] at hK
      go_simp
      first | exact hK _ _ rfl (Below.refl _ _) (fun h => absurd h (by decide)) | exact hK _ _ (congrArg (Value.int .u32) hs) (Below.refl _ _) (fun h => absurd h (by decide))
    · have h47 : σ 47 = _ := hn 47 (by decide)
      clear hn
      simp only [h47] at hK
      go_simp
      exact hK _ _ rfl (Below.refl _ _) (fun h => absurd h (by decide))
    · have h48 : σ 48 = _ := hn 48 (by decide)
      have h60 : σ 60 = _ := hn 60 (by decide)
      clear hn
      simp only [h48, h60] at hK
      go_simp
      exact hK _ _ rfl (Below.refl _ _) (fun h => absurd h (by decide))
  intro σ W' hb hR' hF
  have hs1 : σ 59 = _ := hR' 59 (by decide)
  have hs2 : σ 61 = _ := hR' 61 (by decide)
  have h2 := h.keep hb
  have hBut2 := hBut.then hb
  have hC' := Lib.hid h2
  obtain ⟨c', f'⟩ := h2 C hC
  clear hR' hF hb
  simp only [fill, List.map, Act.put, List.setIfInBounds_toArray, List.set_cons_zero, List.set_cons_succ, List.length_cons, List.length_nil, List.drop_succ_cons, List.drop_zero, Nat.reduceAdd, hs1, hs2]
  go_upto_region 3 with fail
  refine wp_gen (fun W => But g w W ∧ Arr W g 16 (w32 v3)) ⟨hBut2.setCell (Or.inl rfl) _, (hC'.out.set C _ hC).same (fun j hj => by rw [← hs, ← hv3]; exact w32_upd _ _ _ _)⟩ ?_
  clear h hBut h2 hBut2 hC' c' f' cI cJ hs hs1 hs2
  rintro W3 ⟨hBut, h⟩
  go_upto_region 3 with fail
  obtain ⟨cI, _⟩ := h B hB
  obtain ⟨cJ, _⟩ := h C hC
  obtain ⟨v4, hv4⟩ : ∃ v', mix2 v3 B C 12 = v' := ⟨_, rfl⟩
  have hs : rot32 (xor32 (v3 B) (v3 C)) 12 = v4 B := by rw [← hv4]; exact (upd_at _ _ _).symm
  have k1 := turn32_is (xor32 (v3 B) (v3 C)) 12 (by decide) (by decide)
  rw [hs] at k1
  refine wp_loose [(62, []), (63, []), (64, []), (65, []), (66, [64]), (67, [65, 66]), (68, [67]), (69, []), (70, []), (71, [69]), (72, [70, 71]), (73, [72]), (74, [68, 73]), (75, [74]), (76, [62]), (77, [63, 76])]
    (MixR3 g B C (v3 B) (v3 C) 0 (v4 B)) (fun d => false) (by kernel_rfl) (by kernel_rfl) (fun _ _ _ _ h hb => h.keep hb) ?_ ?_
  · refine opsrun_cons ?_ (opsrun_cons ?_ (opsrun_cons ?_ (opsrun_cons ?_ (opsrun_cons ?_ (opsrun_cons ?_ (opsrun_cons ?_ (opsrun_cons ?_ (opsrun_cons ?_ (opsrun_cons ?_ (opsrun_cons ?_ (opsrun_cons ?_ (opsrun_cons ?_ (opsrun_cons ?_ (opsrun_cons ?_ (opsrun_cons ?_ opsrun_nil)))))))))))))))
    all_goals
      refine OpRuns.any ?_
      intro Q0 σ W' K hb hn hK
      simp only [fill, List.map, Act.put, List.setIfInBounds_toArray, List.set_cons_zero, List.set_cons_succ] at hK ⊢
    · clear hn
      go_simp
      exact hK _ _ rfl (Below.refl _ _) (fun h => absurd h (by decide))
    · clear hn
      go_simp
      exact hK _ _ rfl (Below.refl _ _) (fun h => absurd h (by decide))
    · clear hn
      go_simp
      exact hK _ _ rfl (Below.refl _ _) (fun h => absurd h (by decide))
    · clear hn
      go_simp
      exact hK _ _ rfl (Below.refl _ _) (fun h => absurd h (by decide))
    · have h64 : σ 64 = _ := hn 64 (by decide)
      clear hn
      simp only [h64] at hK
      go_simp
      exact hK _ _ rfl (Below.refl _ _) (fun h => absurd h (by decide))
    · have h65 : σ 65 = _ := hn 65 (by decide)
      have h66 : σ 66 = _ := hn 66 (by decide)
      clear hn
      simp only [h65, h66] at hK
      go_simp
      exact hK _ _ rfl (Below.refl _ _) (fun h => absurd h (by decide))
    · have h67 : σ 67 = _ := hn 67 (by decide)
      clear hn
      simp only [h67] at hK
      have cI' := bkeep hb cI
      clear cI
      go_simp
      exact hK _ _ rfl (Below.refl _ _) (fun h => absurd h (by decide))
    · clear hn
      go_simp
      exact hK _ _ rfl (Below.refl _ _) (fun h => absurd h (by decide))
    · clear hn
      go_simp
      exact hK _ _ rfl (Below.refl _ _) (fun h => absurd h (by decide))
    · have h69 : σ 69 = _ := hn 69 (by decide)
      clear hn
      simp only [h69] at hK
      go_simp
      exact hK _ _ rfl (Below.refl _ _) (fun h => absurd h (by decide))
    · have h70 : σ 70 = _ := hn 70 (by decide)
      have h71 : σ 71 = _ := hn 71 (by decide)
      clear hn
      simp only [h70, h71] at hK
      go_simp
      exact hK _ _ rfl (Below.refl _ _) (fun h => absurd h (by decide))
    · have h72 : σ 72 = _ := hn 72 (by decide)
      clear hn
      simp only [h72] at hK
      have cJ' := bkeep hb cJ
      clear cJ
      go_simp
      exact hK _ _ rfl (Below.refl _ _) (fun h => absurd h (by decide))
    · have h68 : σ 68 = _ := hn 68 (by decide)
      have h73 : σ 73 = _ := hn 73 (by decide)
      clear hn
      simp only [h68, h73] at hK
      go_simp
      exact hK _ _ rfl (Below.refl _ _) (fun h => absurd h (by decide))
    · have h74 : σ 74 = _ := hn 74 (by decide)
      clear hn
      simp only [h74] at hK
      go_simp
      go_at_call 36
      refine (k1 _).mono ?_
      rintro e w1 ⟨rfl, rfl⟩
      exact hK _ _ rfl (Below.refl _ _) (fun h => absurd h (by decide))
    · have h62 : σ 62 = _ := hn 62 (by decide)
      clear hn
      simp only [h62] at hK
      go_simp
      exact hK _ _ rfl (Below.refl _ _) (fun h => absurd h (by decide))
    · have h63 : σ 63 = _ := hn 63 (by decide)
      have h76 : σ 76 = _ := hn 76 (by decide)
      clear hn
      simp only [h63, h76] at hK
      go_simp
      exact hK _ _ rfl (Below.refl _ _) (fun h => absurd h (by decide))
  intro σ W' hb hR' hF
  have hs1 : σ 75 = _ := hR' 75 (by decide)
  have hs2 : σ 77 = _ := hR' 77 (by decide)
  have h2 := h.keep hb
  have hBut2 := hBut.then hb
  have hC' := Lib.hid h2
  obtain ⟨c', f'⟩ := h2 B hB
  clear hR' hF hb
  simp only [fill, List.map, Act.put, List.setIfInBounds_toArray, List.set_cons_zero, List.set_cons_succ, List.length_cons, List.length_nil, List.drop_succ_cons, List.drop_zero, Nat.reduceAdd, hs1, hs2]
  go_upto_region 4 with fail
  refine wp_gen (fun W => But g w W ∧ Arr W g 16 (w32 v4)) ⟨hBut2.setCell (Or.inl rfl) _, (hC'.out.set B _ hB).same (fun j hj => by rw [← hs, ← hv4]; exact w32_upd _ _ _ _)⟩ ?_
  clear h hBut h2 hBut2 hC' c' f' cI cJ hs hs1 hs2 k1
  rintro W4 ⟨hBut, h⟩
  go_upto_region 4 with fail
  obtain ⟨cI, _⟩ := h A hA
  obtain ⟨cJ, _⟩ := h B hB
  obtain ⟨v5, hv5⟩ : ∃ v', mix1 v4 A B y = v' := ⟨_, rfl⟩
  have hs : add32 (add32 (v4 A) (v4 B)) y = v5 A := by rw [← hv5]; exact (upd_at _ _ _).symm
  unfold add32 at hs
  refine wp_loose [(78, []), (79, []), (80, []), (81, []), (82, [80]), (83, [81, 82]), (84, [83]), (85, []), (86, []), (87, [85]), (88, [86, 87]), (89, [88]), (90, [84, 89]), (91, []), (92, [90, 91]), (93, [78]), (94, [79, 93])]
    (MixR4 g A B (v4 A) (v4 B) y (v5 A)) (fun d => false) (by kernel_rfl) (by kernel_rfl) (fun _ _ _ _ h hb => h.keep hb) ?_ ?_
  · refine opsrun_cons ?_ (opsrun_cons ?_ (opsrun_cons ?_ (opsrun_cons ?_ (opsrun_cons ?_ (opsrun_cons ?_ (opsrun_cons ?_ (opsrun_cons ?_ (opsrun_cons ?_ (opsrun_cons ?_ (opsrun_cons ?_ (opsrun_cons ?_ (opsrun_cons ?_ (opsrun_cons ?_ (opsrun_cons ?_ (opsrun_cons ?_ (opsrun_cons ?_ opsrun_nil))))))))))))))))
    all_goals
      refine OpRuns.any ?_
      intro Q0 σ W' K hb hn hK
      simp only [fill, List.map, Act.put, List.setIfInBounds_toArray, List.set_cons_zero, List.set_cons_succ] at hK ⊢
    · clear hn
      go_simp
      exact hK _ _ rfl (Below.refl _ _) (fun h => absurd h (by decide))
    · clear hn
      go_simp
      exact hK _ _ rfl (Below.refl _ _) (fun h => absurd h (by decide))
    · clear hn
      go_simp
      exact hK _ _ rfl (Below.refl _ _) (fun h => absurd h (by decide))
    · clear hn
      go_simp
      exact hK _ _ rfl (Below.refl _ _) (fun h => absurd h (by decide))
    · have h80 : σ 80 = _ := hn 80 (by decide)
      clear hn
      simp only [h80] at hK
      go_simp
      exact hK _ _ rfl (Below.refl _ _) (fun h => absurd h (by decide))
    · have h81 : σ 81 = _ := hn 81 (by decide)
      have h82 : σ 82 = _ := hn 82 (by decide)
      clear hn
      simp only [h81, h82] at hK
      go_simp
      exact hK _ _ rfl (Below.refl _ _) (fun h => absurd h (by decide))
    · have h83 : σ 83 = _ := hn 83 (by decide)
      clear hn
      simp only [h83] at hK
      have cI' := bkeep hb cI
      clear cI
      go_simp
      exact hK _ _ rfl (Below.refl _ _) (fun h => absurd h (by decide))
    · clear hn
      go_simp
      exact hK _ _ rfl (Below.refl _ _) (fun h => absurd h (by decide))
    · clear hn
      go_simp
      exact hK _ _ rfl (Below.refl _ _) (fun h => absurd h (by decide))
    · have h85 : σ 85 = _ := hn 85 (by decide)
      clear hn
      simp only [h85] at hK
      go_simp
      exact hK _ _ rfl (Below.refl _ _) (fun h => absurd h (by decide))
    · have h86 : σ 86 = _ := hn 86 (by decide)
      have h87 : σ 87 = _ := hn 87 (by decide)
      clear hn
      simp only [h86, h87] at hK
      go_simp
      exact hK _ _ rfl (Below.refl _ _) (fun h => absurd h (by decide))
    · have h88 : σ 88 = _ := hn 88 (by decide)
      clear hn
      simp only [h88] at hK
      have cJ' := bkeep hb cJ
      clear cJ
      go_simp
      exact hK _ _ rfl (Below.refl _ _) (fun h => absurd h (by decide))
    · have h84 : σ 84 = _ := hn 84 (by decide)
      have h89 : σ 89 = _ := hn 89 (by decide)
      clear hn
      simp only [h84, h89] at hK
      go_simp
      exact hK _ _ rfl (Below.refl _ _) (fun h => absurd h (by decide))
    · clear hn
      go_simp
      exact hK _ _ rfl (Below.refl _ _) (fun h => absurd h (by decide))
    · have h90 : σ 90 = _ := hn 90 (by decide)
      have h91 : σ 91 = _ := hn 91 (by decide)
      clear hn
      simp only [h90, h91] at hK
      go_simp
      first | exact hK _ _ rfl (Below.refl _ _) (fun h => absurd h (by decide)) | exact hK _ _ (congrArg (Value.int .u32) hs) (Below.refl _ _) (fun h => absurd h (by decide))
    · have h78 : σ 78 = _ := hn 78 (by decide)
      clear hn
      simp only [h78] at hK
      go_simp
      exact hK _ _ rfl (Below.refl _ _) (fun h => absurd h (by decide))
    · have h79 : σ 79 = _ := hn 79 (by decide)
      have h93 : σ 93 = _ := hn 93 (by decide)
      clear hn
      simp only [h79, h93] at hK
      go_simp
      exact hK _ _ rfl (Below.refl _ _) (fun h => absurd h (by decide))
  intro σ W' hb hR' hF
  have hs1 : σ 92 = _ := hR' 92 (by decide)
  have hs2 : σ 94 = _ := hR' 94 (by decide)
  have h2 := h.keep hb
  have hBut2 := hBut.then hb
  have hC' := Lib.hid h2
  obtain ⟨c', f'⟩ := h2 A hA
  clear hR' hF hb
  simp only [fill, List.map, Act.put, List.setIfInBounds_toArray, List.set_cons_zero, List.set_cons_succ, List.length_cons, List.length_nil, List.drop_succ_cons, List.drop_zero, Nat.reduceAdd, hs1, hs2]
  go_upto_region 5 with fail
  refine wp_gen (fun W => But g w W ∧ Arr W g 16 (w32 v5)) ⟨hBut2.setCell (Or.inl rfl) _, (hC'.out.set A _ hA).same (fun j hj => by rw [← hs, ← hv5]; exact w32_upd _ _ _ _)⟩ ?_
  clear h hBut h2 hBut2 hC' c' f' cI cJ hs hs1 hs2
  rintro W5 ⟨hBut, h⟩
  go_upto_region 5 with fail
  obtain ⟨cI, _⟩ := h D hD
  obtain ⟨cJ, _⟩ := h A hA
  obtain ⟨v6, hv6⟩ : ∃ v', mix2 v5 D A 8 = v' := ⟨_, rfl⟩
  have hs : rot32 (xor32 (v5 D) (v5 A)) 8 = v6 D := by rw [← hv6]; exact (upd_at _ _ _).symm
  have k1 := turn32_is (xor32 (v5 D) (v5 A)) 8 (by decide) (by decide)
  rw [hs] at k1
  refine wp_loose [(95, []), (96, []), (97, []), (98, []), (99, [97]), (100, [98, 99]), (101, [100]), (102, []), (103, []), (104, [102]), (105, [103, 104]), (106, [105]), (107, [101, 106]), (108, [107]), (109, [95]), (110, [96, 109])]
    (MixR5 g D A (v5 D) (v5 A) 0 (v6 D)) (fun d => false) (by kernel_rfl) (by kernel_rfl) (fun _ _ _ _ h hb => h.keep hb) ?_ ?_
  · refine opsrun_cons ?_ (opsrun_cons ?_ (opsrun_cons ?_ (opsrun_cons ?_ (opsrun_cons ?_ (opsrun_cons ?_ (opsrun_cons ?_ (opsrun_cons ?_ (opsrun_cons ?_ (opsrun_cons ?_ (opsrun_cons ?_ (opsrun_cons ?_ (opsrun_cons ?_ (opsrun_cons ?_ (opsrun_cons ?_ (opsrun_cons ?_ opsrun_nil)))))))))))))))
    all_goals
      refine OpRuns.any ?_
      intro Q0 σ W' K hb hn hK
      simp only [fill, List.map, Act.put, List.setIfInBounds_toArray, List.set_cons_zero, List.set_cons_succ] at hK ⊢
    · clear hn
      go_simp
      exact hK _ _ rfl (Below.refl _ _) (fun h => absurd h (by decide))
    · clear hn
      go_simp
      exact hK _ _ rfl (Below.refl _ _) (fun h => absurd h (by decide))
    · clear hn
      go_simp
      exact hK _ _ rfl (Below.refl _ _) (fun h => absurd h (by decide))
    · clear hn
      go_simp
      exact hK _ _ rfl (Below.refl _ _) (fun h => absurd h (by decide))
    · have h97 : σ 97 = _ := hn 97 (by decide)
      clear hn
      simp only [h97] at hK
      go_simp
      exact hK _ _ rfl (Below.refl _ _) (fun h => absurd h (by decide))
    · have h98 : σ 98 = _ := hn 98 (by decide)
      have h99 : σ 99 = _ := hn 99 (by decide)
      clear hn
      simp only [h98, h99] at hK
      go_simp
      exact hK _ _ rfl (Below.refl _ _) (fun h => absurd h (by decide))
    · have h100 : σ 100 = _ := hn 100 (by decide)
      clear hn
      simp only [h100] at hK
      have cI' := bkeep hb cI
      clear cI
      go_simp
      exact hK _ _ rfl (Below.refl _ _) (fun h => absurd h (by decide))
    · clear hn
      go_simp
      exact hK _ _ rfl (Below.refl _ _) (fun h => absurd h (by decide))
    · clear hn
      go_simp
      exact hK _ _ rfl (Below.refl _ _) (fun h => absurd h (by decide))
    · have h102 : σ 102 = _ := hn 102 (by decide)
      clear hn
      simp only [h102] at hK
      go_simp
      exact hK _ _ rfl (Below.refl _ _) (fun h => absurd h (by decide))
    · have h103 : σ 103 = _ := hn 103 (by decide)
      have h104 : σ 104 = _ := hn 104 (by decide)
      clear hn
      simp only [h103, h104] at hK
      go_simp
      exact hK _ _ rfl (Below.refl _ _) (fun h => absurd h (by decide))
    · have h105 : σ 105 = _ := hn 105 (by decide)
      clear hn
      simp only [h105] at hK
      have cJ' := bkeep hb cJ
      clear cJ
      go_simp
      exact hK _ _ rfl (Below.refl _ _) (fun h => absurd h (by decide))
    · have h101 : σ 101 = _ := hn 101 (by decide)
      have h106 : σ 106 = _ := hn 106 (by decide)
      clear hn
      simp only [h101, h106] at hK
      go_simp
      exact hK _ _ rfl (Below.refl _ _) (fun h => absurd h (by decide))
    · have h107 : σ 107 = _ := hn 107 (by decide)
      clear hn
      simp only [h107] at hK
      go_simp
      go_at_call 36
      refine (k1 _).mono ?_
      rintro e w1 ⟨rfl, rfl⟩
      exact hK _ _ rfl (Below.refl _ _) (fun h => absurd h (by decide))
    · have h95 : σ 95 = _ := hn 95 (by decide)
      clear hn
      simp only [h95] at hK
      go_simp
      exact hK _ _ rfl (Below.refl _ _) (fun h => absurd h (by decide))
    · have h96 : σ 96 = _ := hn 96 (by decide)
      have h109 : σ 109 = _ := hn 109 (by decide)
      clear hn
      simp only [h96, h109] at hK
      go_simp
      exact hK _ _ rfl (Below.refl _ _) (fun h => absurd h (by decide))
  intro σ W' hb hR' hF
  have hs1 : σ 108 = _ := hR' 108 (by decide)
  have hs2 : σ 110 = _ := hR' 110 (by decide)
  have h2 := h.keep hb
  have hBut2 := hBut.then hb
  have hC' := Lib.hid h2
  obtain ⟨c', f'⟩ := h2 D hD
  clear hR' hF hb
  simp only [fill, List.map, Act.put, List.setIfInBounds_toArray, List.set_cons_zero, List.set_cons_succ, List.length_cons, List.length_nil, List.drop_succ_cons, List.drop_zero, Nat.reduceAdd, hs1, hs2]
  go_upto_region 6 with fail
  refine wp_gen (fun W => But g w W ∧ Arr W g 16 (w32 v6)) ⟨hBut2.setCell (Or.inl rfl) _, (hC'.out.set D _ hD).same (fun j hj => by rw [← hs, ← hv6]; exact w32_upd _ _ _ _)⟩ ?_
  clear h hBut h2 hBut2 hC' c' f' cI cJ hs hs1 hs2 k1
  rintro W6 ⟨hBut, h⟩
  go_upto_region 6 with fail
  obtain ⟨cI, _⟩ := h C hC
  obtain ⟨cJ, _⟩ := h D hD
  obtain ⟨v7, hv7⟩ : ∃ v', mix3 v6 C D = v' := ⟨_, rfl⟩
  have hs : add32 (v6 C) (v6 D) = v7 C := by rw [← hv7]; exact (upd_at _ _ _).symm
  unfold add32 at hs
  refine wp_loose [(111, []), (112, []), (113, []), (114, []), (115, [113]), (116, [114, 115]), (117, [116]), (118, []), (119, []), (120, [118]), (121, [119, 120]), (122, [121]), (123, [117, 122]), (124, [111]), (125, [112, 124])]
    (MixR6 g C D (v6 C) (v6 D) 0 (v7 C)) (fun d => false) (by kernel_rfl) (by kernel_rfl) (fun _ _ _ _ h hb => h.keep hb) ?_ ?_
  · refine opsrun_cons ?_ (opsrun_cons ?_ (opsrun_cons ?_ (opsrun_cons ?_ (opsrun_cons ?_ (opsrun_cons ?_ (opsrun_cons ?_ (opsrun_cons ?_ (opsrun_cons ?_ (opsrun_cons ?_ (opsrun_cons ?_ (opsrun_cons ?_ (opsrun_cons ?_ (opsrun_cons ?_ (opsrun_cons ?_ opsrun_nil))))))))))))))
    all_goals
      refine OpRuns.any ?_
      intro Q0 σ W' K hb hn hK
      simp only [fill, List.map, Act.put, List.setIfInBounds_toArray, List.set_cons_zero, List.set_cons_succ] at hK ⊢
    · clear hn
      go_simp
      exact hK _ _ rfl (Below.refl _ _) (fun h => absurd h (by decide))
    · clear hn
      go_simp
      exact hK _ _ rfl (Below.refl _ _) (fun h => absurd h (by decide))
    · clear hn
      go_simp
      exact hK _ _ rfl (Below.refl _ _) (fun h => absurd h (by decide))
    · clear hn
      go_simp
      exact hK _ _ rfl (Below.refl _ _) (fun h => absurd h (by decide))
    · have h113 : σ 113 = _ := hn 113 (by decide)
      clear hn
      simp only [h113] at hK
      go_simp
      exact hK _ _ rfl (Below.refl _ _) (fun h => absurd h (by decide))
    · have h114 : σ 114 = _ := hn 114 (by decide)
      have h115 : σ 115 = _ := hn 115 (by decide)
      clear hn
      simp only [h114, h115] at hK
      go_simp
      exact hK _ _ rfl (Below.refl _ _) (fun h => absurd h (by decide))
    · have h116 : σ 116 = _ := hn 116 (by decide)
      clear hn
      simp only [h116] at hK
      have cI' := bkeep hb cI
      clear cI
      go_simp
      exact hK _ _ rfl (Below.refl _ _) (fun h => absurd h (by decide))
    · clear hn
      go_simp
      exact hK _ _ rfl (Below.refl _ _) (fun h => absurd h (by decide))
    · clear hn
      go_simp
      exact hK _ _ rfl (Below.refl _ _) (fun h => absurd h (by decide))
    · have h118 : σ 118 = _ := hn 118 (by decide)
      clear hn
      simp only [h118] at hK
      go_simp
      exact hK _ _ rfl (Below.refl _ _) (fun h => absurd h (by decide))
    · have h119 : σ 119 = _ := hn 119 (by decide)
      have h120 : σ 120 = _ := hn 120 (by decide)
      clear hn
      simp only [h119, h120] at hK
      go_simp
      exact hK _ _ rfl (Below.refl _ _) (fun h => absurd h (by decide))
    · have h121 : σ 121 = _ := hn 121 (by decide)
      clear hn
      simp only [h121] at hK
      have cJ' := bkeep hb cJ
      clear cJ
      go_simp
      exact hK _ _ rfl (Below.refl _ _) (fun h => absurd h (by decide))
    · have h117 : σ 117 = _ := hn 117 (by decide)
      have h122 : σ 122 = _ := hn 122 (by decide)
      clear hn
      simp only [h117, h122] at hK
      go_simp
      first | exact hK _ _ rfl (Below.refl _ _) (fun h => absurd h (by decide)) | exact hK _ _ (congrArg (Value.int .u32) hs) (Below.refl _ _) (fun h => absurd h (by decide))
    · have h111 : σ 111 = _ := hn 111 (by decide)
      clear hn
      simp only [h111] at hK
      go_simp
      exact hK _ _ rfl (Below.refl _ _) (fun h => absurd h (by decide))
    · have h112 : σ 112 = _ := hn 112 (by decide)
      have h124 : σ 124 = _ := hn 124 (by decide)
      clear hn
      simp only [h112, h124] at hK
      go_simp
      exact hK _ _ rfl (Below.refl _ _) (fun h => absurd h (by decide))
  intro σ W' hb hR' hF
  have hs1 : σ 123 = _ := hR' 123 (by decide)
  have hs2 : σ 125 = _ := hR' 125 (by decide)
  have h2 := h.keep hb
  have hBut2 := hBut.then hb
  have hC' := Lib.hid h2
  obtain ⟨c', f'⟩ := h2 C hC
  clear hR' hF hb
  simp only [fill, List.map, Act.put, List.setIfInBounds_toArray, List.set_cons_zero, List.set_cons_succ, List.length_cons, List.length_nil, List.drop_succ_cons, List.drop_zero, Nat.reduceAdd, hs1, hs2]
  go_upto_region 7 with fail
  refine wp_gen (fun W => But g w W ∧ Arr W g 16 (w32 v7)) ⟨hBut2.setCell (Or.inl rfl) _, (hC'.out.set C _ hC).same (fun j hj => by rw [← hs, ← hv7]; exact w32_upd _ _ _ _)⟩ ?_
  clear h hBut h2 hBut2 hC' c' f' cI cJ hs hs1 hs2
  rintro W7 ⟨hBut, h⟩
  go_upto_region 7 with fail
  obtain ⟨cI, _⟩ := h B hB
  obtain ⟨cJ, _⟩ := h C hC
  obtain ⟨v8, hv8⟩ : ∃ v', mix2 v7 B C 7 = v' := ⟨_, rfl⟩
  have hs : rot32 (xor32 (v7 B) (v7 C)) 7 = v8 B := by rw [← hv8]; exact (upd_at _ _ _).symm
  have k1 := turn32_is (xor32 (v7 B) (v7 C)) 7 (by decide) (by decide)
  rw [hs] at k1
  refine wp_loose [(126, []), (127, []), (128, []), (129, []), (130, [128]), (131, [129, 130]), (132, [131]), (133, []), (134, []), (135, [133]), (136, [134, 135]), (137, [136]), (138, [132, 137]), (139, [138]), (140, [126]), (141, [127, 140])]
    (MixR7 g B C (v7 B) (v7 C) 0 (v8 B)) (fun d => false) (by kernel_rfl) (by kernel_rfl) (fun _ _ _ _ h hb => h.keep hb) ?_ ?_
  · refine opsrun_cons ?_ (opsrun_cons ?_ (opsrun_cons ?_ (opsrun_cons ?_ (opsrun_cons ?_ (opsrun_cons ?_ (opsrun_cons ?_ (opsrun_cons ?_ (opsrun_cons ?_ (opsrun_cons ?_ (opsrun_cons ?_ (opsrun_cons ?_ (opsrun_cons ?_ (opsrun_cons ?_ (opsrun_cons ?_ (opsrun_cons ?_ opsrun_nil)))))))))))))))
    all_goals
      refine OpRuns.any ?_
      intro Q0 σ W' K hb hn hK
      simp only [fill, List.map, Act.put, List.setIfInBounds_toArray, List.set_cons_zero, List.set_cons_succ] at hK ⊢
    · clear hn
      go_simp
      exact hK _ _ rfl (Below.refl _ _) (fun h => absurd h (by decide))
    · clear hn
      go_simp
      exact hK _ _ rfl (Below.refl _ _) (fun h => absurd h (by decide))
    · clear hn
      go_simp
      exact hK _ _ rfl (Below.refl _ _) (fun h => absurd h (by decide))
    · clear hn
      go_simp
      exact hK _ _ rfl (Below.refl _ _) (fun h => absurd h (by decide))
    · have h128 : σ 128 = _ := hn 128 (by decide)
      clear hn
      simp only [h128] at hK
      go_simp
      exact hK _ _ rfl (Below.refl _ _) (fun h => absurd h (by decide))
    · have h129 : σ 129 = _ := hn 129 (by decide)
      have h130 : σ 130 = _ := hn 130 (by decide)
      clear hn
      simp only [h129, h130] at hK
      go_simp
      exact hK _ _ rfl (Below.refl _ _) (fun h => absurd h (by decide))
    · have h131 : σ 131 = _ := hn 131 (by decide)
      clear hn
      simp only [h131] at hK
      have cI' := bkeep hb cI
      clear cI
      go_simp
      exact hK _ _ rfl (Below.refl _ _) (fun h => absurd h (by decide))
    · clear hn
      go_simp
      exact hK _ _ rfl (Below.refl _ _) (fun h => absurd h (by decide))
    · clear hn
      go_simp
      exact hK _ _ rfl (Below.refl _ _) (fun h => absurd h (by decide))
    · have h133 : σ 133 = _ := hn 133 (by decide)
      clear hn
      simp only [h133] at hK
      go_simp
      exact hK _ _ rfl (Below.refl _ _) (fun h => absurd h (by decide))
    · have h134 : σ 134 = _ := hn 134 (by decide)
      have h135 : σ 135 = _ := hn 135 (by decide)
      clear hn
      simp only [h134, h135] at hK
      go_simp
      exact hK _ _ rfl (Below.refl _ _) (fun h => absurd h (by decide))
    · have h136 : σ 136 = _ := hn 136 (by decide)
      clear hn
      simp only [h136] at hK
      have cJ' := bkeep hb cJ
      clear cJ
      go_simp
      exact hK _ _ rfl (Below.refl _ _) (fun h => absurd h (by decide))
    · have h132 : σ 132 = _ := hn 132 (by decide)
      have h137 : σ 137 = _ := hn 137 (by decide)
      clear hn
      simp only [h132, h137] at hK
      go_simp
      exact hK _ _ rfl (Below.refl _ _) (fun h => absurd h (by decide))
    · have h138 : σ 138 = _ := hn 138 (by decide)
      clear hn
      simp only [h138] at hK
      go_simp
      go_at_call 36
      refine (k1 _).mono ?_
      rintro e w1 ⟨rfl, rfl⟩
      exact hK _ _ rfl (Below.refl _ _) (fun h => absurd h (by decide))
    · have h126 : σ 126 = _ := hn 126 (by decide)
      clear hn
      simp only [h126] at hK
      go_simp
      exact hK _ _ rfl (Below.refl _ _) (fun h => absurd h (by decide))
    · have h127 : σ 127 = _ := hn 127 (by decide)
      have h140 : σ 140 = _ := hn 140 (by decide)
      clear hn
      simp only [h127, h140] at hK
      go_simp
      exact hK _ _ rfl (Below.refl _ _) (fun h => absurd h (by decide))
  intro σ W' hb hR' hF
  have hs1 : σ 139 = _ := hR' 139 (by decide)
  have hs2 : σ 141 = _ := hR' 141 (by decide)
  have h2 := h.keep hb
  have hBut2 := hBut.then hb
  have hC' := Lib.hid h2
  obtain ⟨c', f'⟩ := h2 B hB
  clear hR' hF hb
  simp only [fill, List.map, Act.put, List.setIfInBounds_toArray, List.set_cons_zero, List.set_cons_succ, List.length_cons, List.length_nil, List.drop_succ_cons, List.drop_zero, Nat.reduceAdd, hs1, hs2]
  go_wp2_with fail
  go_end0
  rw [hv1, hv2, hv3, hv4, hv5, hv6, hv7]
  exact ⟨rfl, hBut2.setCell (Or.inl rfl) _, (hC'.out.set B _ hB).same (fun j hj => by rw [← hs]; exact w32_upd _ _ _ _)⟩
end Go.Proofs.YthmpojefoiojeaaDoor
