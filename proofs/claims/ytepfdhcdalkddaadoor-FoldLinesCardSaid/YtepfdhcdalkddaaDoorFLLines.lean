/-
  The walk of FoldLines: it answers true, where the program's calls do what is asked of them. (Written by gen_flines.py.)
-/
import Derived.Test.YtepfdhcdalkddaaDoorGFold
import Derived.Test.YtepfdhcdalkddaaDoorAllocs
import Derived.Test.YtepfdhcdalkddaaDoorGPolyR
import Derived.BigQuiet
namespace Go.Proofs.YtepfdhcdalkddaaDoor
open Go Go.RowKit Go.Sort Go.BigFrame
set_option linter.unusedVariables false

theorem half_sum (c d : F) : (c + d + (c - d)) * halfF = c := by
  have h := half_two
  have : (c + d + (c - d)) * halfF = (2 * halfF) * c := by grind
  rw [this, h]; grind
theorem half_dif (c d x : F) (hx : x ≠ 0) : (c + d * x - (c - d * x)) * (halfF * finv x) = d := by
  have h := half_two
  have h3 := mul_finv x hx
  have : (c + d * x - (c - d * x)) * (halfF * finv x) = (2 * halfF) * ((x * finv x) * d) := by grind
  rw [this, h, h3]; grind
theorem poly_two {W : World} {q : Nat} {a0 a1 b0 b1 : Int} (ha : U a0 ∧ U a1) (hb : U b0 ∧ U b1) (c0 : W.cell? ⟨q, 0, none⟩ = some (.int .u64 a0)) (c1 : W.cell? ⟨q, 1, none⟩ = some (.int .u64 a1)) (c2 : W.cell? ⟨q, 2, none⟩ = some (.int .u64 b0)) (c3 : W.cell? ⟨q, 3, none⟩ = some (.int .u64 b1)) :
    Poly W (.slice (some ⟨q, 0, none⟩) 2 2) [⟨toF a0, toF a1⟩, ⟨toF b0, toF b1⟩] :=
  ⟨[(a0, a1), (b0, b1)], Or.inr (Or.inr ⟨q, 0, 2, rfl, by simp, by unfold maxLen; omega, fun i hi => by
    have : i = 0 ∨ i = 1 := by simp at hi; omega
    rcases this with rfl | rfl
    · exact ⟨c0, c1⟩
    · exact ⟨c2, c3⟩⟩), fun n hn => by
    simp at hn
    rcases hn with rfl | rfl
    · exact ha
    · exact hb, rfl⟩
theorem thr_len2 (p q a b : F2) : (thrL [p, q] [a, b]).length ≤ 2 := by
  unfold thrL
  split
  · rw [pl_len]; exact tn_le _ _
  · decide
theorem fold_line (c d y : F2) (x : F) (hx : x ≠ 0) : foldV (c + d * lift x) (c + d * lift (-x)) y x = c + d * y := by
  have e1 : scale (c + d * lift x + (c + d * lift (-x))) halfF = c := by
    refine F2.eq ?_ ?_
    · have := half_sum c.a (d.a * x)
      simp only [scale, lift, F2.add_a, F2.mul_a] at *
      refine Eq.trans ?_ this
      clear this hx
      congr 1
      grind
    · have := half_sum c.b (d.b * x)
      simp only [scale, lift, F2.add_b, F2.mul_b] at *
      refine Eq.trans ?_ this
      clear this hx
      congr 1
      grind
  have e2 : scale (c + d * lift x - (c + d * lift (-x))) (halfF * finv x) = d := by
    refine F2.eq ?_ ?_
    · have := half_dif c.a d.a x hx
      simp only [scale, lift, F2.add_a, F2.mul_a, F2.sub_a] at *
      refine Eq.trans ?_ this
      clear this hx
      congr 1
      grind
    · have := half_dif c.b d.b x hx
      simp only [scale, lift, F2.add_b, F2.mul_b, F2.sub_b] at *
      refine Eq.trans ?_ this
      clear this hx
      congr 1
      grind
  unfold foldV
  rw [e1, e2]
  refine F2.eq ?_ ?_
  · simp only [F2.add_a, F2.mul_a]; grind
  · simp only [F2.add_b, F2.mul_b]; grind
theorem at_two {l : List F2} (h : l.length ≤ 2) (y : F2) : atP l y = cq l 0 + cq l 1 * y := by
  unfold atP
  match l, h with
  | [], _ => show (0 : F2) = 0 + 0 * y; rw [F2.zero_mul, F2.add_zero]
  | [a], _ =>
    show qe 1 (cq [a]) y = a + 0 * y
    unfold qe
    rw [sq_succ, qpow_zero, F2.zero_mul, F2.add_zero, F2.mul_one]
    exact F2.zero_add _
  | [a, b], _ =>
    show qe 2 (cq [a, b]) y = a + b * y
    unfold qe
    rw [sq_succ, sq_succ, qpow_zero, qpow_one, F2.mul_one]
    show sq 0 _ + a + b * y = _
    rw [show sq 0 (fun i => cq [a, b] i * qpow y i) = 0 from rfl, F2.zero_add]
/-- Through two values of a point and less the point there is a line, and what they fold to lies on it. -/
theorem fold_through (a b : F2) (x : F) (hx : x ≠ 0) : thrB [lift x, lift (-x)] [a, b] = true ∧ (∀ y, foldV a b y x = atP (thrL [lift x, lift (-x)] [a, b]) y) ∧ foldV a b (lift x) x = a ∧ foldV a b (lift (-x)) x = b := by
  have hne : x ≠ -x := fun h => hx (by
    have h2 : (2 : F) * x = 0 := by grind
    have h3 := half_two
    have : x = (2 * halfF) * x := by rw [h3]; grind
    rw [this, show (2 * halfF) * x = halfF * (2 * x) by grind, h2]; grind)
  have hA : Apart [lift x, lift (-x)] := fun i j hi hj => by
    have hi2 : i < 2 := hi
    obtain ⟨rfl, rfl⟩ : i = 1 ∧ j = 0 := by omega
    intro h
    have h : lift (-x) = lift x := h
    exact hne (congrArg F2.a h).symm
  refine ⟨hA.yes rfl, ?_⟩
  have hl := hA.len (m := [a, b]) rfl
  have h0 := hA.at (m := [a, b]) rfl 0 (by show 0 < 2; decide)
  have h1 := hA.at (m := [a, b]) rfl 1 (by show 1 < 2; decide)
  rw [at_two hl] at h0 h1
  simp only [at_two hl]
  have h0 : cq (thrL [lift x, lift (-x)] [a, b]) 0 + cq (thrL [lift x, lift (-x)] [a, b]) 1 * lift x = a := h0
  have h1 : cq (thrL [lift x, lift (-x)] [a, b]) 0 + cq (thrL [lift x, lift (-x)] [a, b]) 1 * lift (-x) = b := h1
  generalize cq (thrL [lift x, lift (-x)] [a, b]) 0 = c at *
  generalize cq (thrL [lift x, lift (-x)] [a, b]) 1 = d at *
  rw [← h0, ← h1]
  exact ⟨fun y => fold_line c d y x hx, fold_line c d _ x hx, fold_line c d _ x hx⟩
abbrev FLn1v (g : Nat) (a0 a1 b0 b1 y0 y1 x0 : Int) : List Mv := [⟨3, 8, 11, .int .u64 0, .int .u64 0, .int .u64 a0, .int .u64 a1⟩, ⟨4, 9, 12, .int .u64 0, .int .u64 0, .int .u64 b0, .int .u64 b1⟩, ⟨5, 10, 13, .int .u64 0, .int .u64 0, .int .u64 y0, .int .u64 y1⟩]
abbrev FLn1s (g : Nat) (a0 a1 b0 b1 y0 y1 x0 : Int) : List (Nat × Nat × Value) := [(0, 17, .pointer (some ⟨g, 0, none⟩)), (1, 18, .agg #[.int .u64 a0, .int .u64 a1]), (2, 19, .pointer (some ⟨g, 2, none⟩)), (3, 20, .agg #[.int .u64 b0, .int .u64 b1]), (4, 21, .pointer (some ⟨g, 4, none⟩)), (5, 22, .agg #[.int .u64 y0, .int .u64 y1]), (6, 23, .pointer (some ⟨g, 6, none⟩)), (7, 24, .int .u64 x0)]
def FLn5B (g3 g4 g5 : Nat) (a0 a1 b0 b1 x0 nx : Int) (l1 z : F2) (sl : Nat) (v : Value) : Prop :=
  match sl with
  | 42 => v = .agg #[.int .u64 a0, .int .u64 a1]
  | 43 => v = .agg #[.int .u64 b0, .int .u64 b1]
  | 44 => v = .int .u64 x0
  | 45 => v = .agg #[.int .u64 (enc l1.a), .int .u64 (enc l1.b)]
  | 46 => v = .int .u64 x0
  | 47 => v = .tuple #[.agg #[.int .u64 (enc z.a), .int .u64 (enc z.b)], .bool true]
  | 41 => v = .tuple #[.agg #[.int .u64 (enc z.a), .int .u64 (enc z.b)], .bool true]
  | 48 => v = .agg #[.int .u64 (enc z.a), .int .u64 (enc z.b)]
  | _ => v = .bool true
def FLn5A (B : Nat) (g3 g4 g5 : Nat) (a0 a1 b0 b1 x0 nx : Int) (l1 z : F2) (s : Bool) (v : Value) (W : World) : Prop := ∃ q : Nat, B ≤ q ∧ v = .pointer (some ⟨q, 0, none⟩) ∧ Duo W q (if s then .int .u64 (enc z.a) else .int .u64 0) (if s then .int .u64 (enc z.b) else .int .u64 0)
def FLn5G (B : Nat) (g3 g4 g5 : Nat) (a0 a1 b0 b1 x0 nx : Int) (l1 z : F2) (s : Bool) (sl : Nat) (v : Value) (W : World) : Prop := if sl = 9 then FLn5A B g3 g4 g5 a0 a1 b0 b1 x0 nx l1 z s v W else FLn5B g3 g4 g5 a0 a1 b0 b1 x0 nx l1 z sl v
theorem FLn5G.keep {B : Nat} {g3 g4 g5 : Nat} {a0 a1 b0 b1 x0 nx : Int} {l1 z : F2} (s : Bool) (sl : Nat) (v : Value) (W W' : World) (h : FLn5G B g3 g4 g5 a0 a1 b0 b1 x0 nx l1 z s sl v W) (hb : Below W.heap.size W W') : FLn5G B g3 g4 g5 a0 a1 b0 b1 x0 nx l1 z s sl v W' := by
  unfold FLn5G at *
  split
  · next c => rw [if_pos c] at h; obtain ⟨q, h0, h1, h2⟩ := h; exact ⟨q, h0, h1, h2.keep hb⟩
  · next c => rw [if_neg c] at h; exact h
def FLn6B (g3 g4 g5 : Nat) (a0 a1 b0 b1 x0 nx : Int) (l1 z : F2) (sl : Nat) (v : Value) : Prop :=
  match sl with
  | 51 => v = .agg #[.int .u64 a0, .int .u64 a1]
  | 52 => v = .agg #[.int .u64 b0, .int .u64 b1]
  | 53 => v = .int .u64 x0
  | 54 => v = .int .u64 nx
  | 55 => v = .agg #[.int .u64 (enc l1.a), .int .u64 (enc l1.b)]
  | 56 => v = .int .u64 x0
  | 57 => v = .tuple #[.agg #[.int .u64 (enc z.a), .int .u64 (enc z.b)], .bool true]
  | 50 => v = .tuple #[.agg #[.int .u64 (enc z.a), .int .u64 (enc z.b)], .bool true]
  | 58 => v = .agg #[.int .u64 (enc z.a), .int .u64 (enc z.b)]
  | _ => v = .bool true
def FLn6A (B : Nat) (g3 g4 g5 : Nat) (a0 a1 b0 b1 x0 nx : Int) (l1 z : F2) (s : Bool) (v : Value) (W : World) : Prop := ∃ q : Nat, B ≤ q ∧ v = .pointer (some ⟨q, 0, none⟩) ∧ Duo W q (if s then .int .u64 (enc z.a) else .int .u64 0) (if s then .int .u64 (enc z.b) else .int .u64 0)
def FLn6G (B : Nat) (g3 g4 g5 : Nat) (a0 a1 b0 b1 x0 nx : Int) (l1 z : F2) (s : Bool) (sl : Nat) (v : Value) (W : World) : Prop := if sl = 11 then FLn6A B g3 g4 g5 a0 a1 b0 b1 x0 nx l1 z s v W else FLn6B g3 g4 g5 a0 a1 b0 b1 x0 nx l1 z sl v
theorem FLn6G.keep {B : Nat} {g3 g4 g5 : Nat} {a0 a1 b0 b1 x0 nx : Int} {l1 z : F2} (s : Bool) (sl : Nat) (v : Value) (W W' : World) (h : FLn6G B g3 g4 g5 a0 a1 b0 b1 x0 nx l1 z s sl v W) (hb : Below W.heap.size W W') : FLn6G B g3 g4 g5 a0 a1 b0 b1 x0 nx l1 z s sl v W' := by
  unfold FLn6G at *
  split
  · next c => rw [if_pos c] at h; obtain ⟨q, h0, h1, h2⟩ := h; exact ⟨q, h0, h1, h2.keep hb⟩
  · next c => rw [if_neg c] at h; exact h
def FLn8 (g3 g4 : Nat) (a0 a1 b0 b1 x0 nx : Int) (l1 l2 va vb : F2) (LL : List F2) (sl : Nat) (v : Value) (W : World) : Prop :=
  match sl with
  | 69 => v = .int .u64 x0
  | 70 => v = .agg #[.int .u64 (enc l1.a), .int .u64 (enc l1.b)]
  | 71 => v = .int .u64 x0
  | 72 => v = .int .u64 nx
  | 73 => v = .agg #[.int .u64 (enc l2.a), .int .u64 (enc l2.b)]
  | 74 => ∃ q : Nat, v = .slice (some ⟨q, 0, none⟩) 2 2 ∧ Poly W v [l1, l2]
  | 75 => v = .agg #[.int .u64 a0, .int .u64 a1]
  | 76 => v = .agg #[.int .u64 b0, .int .u64 b1]
  | 77 => ∃ q : Nat, v = .slice (some ⟨q, 0, none⟩) 2 2 ∧ Poly W v [va, vb]
  | 78 => ∃ (al : Option Addr) (cl : Nat), v = .tuple #[.slice al LL.length cl, .bool true] ∧ IsP W (.slice al LL.length cl) LL
  | 68 => ∃ (al : Option Addr) (cl : Nat), v = .tuple #[.slice al LL.length cl, .bool true] ∧ IsP W (.slice al LL.length cl) LL
  | 79 => ∃ (al : Option Addr) (cl : Nat), v = .slice al LL.length cl ∧ IsP W (.slice al LL.length cl) LL
  | 15 => ∃ (al : Option Addr) (cl : Nat), v = .slice al LL.length cl ∧ IsP W (.slice al LL.length cl) LL
  | _ => v = .bool true
theorem FLn8.keep {g3 g4 : Nat} {a0 a1 b0 b1 x0 nx : Int} {l1 l2 va vb : F2} {LL : List F2} {sl : Nat} {v : Value} {W W' : World} (h : FLn8 g3 g4 a0 a1 b0 b1 x0 nx l1 l2 va vb LL sl v W) (hb : Below W.heap.size W W') : FLn8 g3 g4 a0 a1 b0 b1 x0 nx l1 l2 va vb LL sl v W' := by
  unfold FLn8 at *
  split at h
  all_goals first | exact h | (obtain ⟨q, h0, h1⟩ := h; exact ⟨q, h0, h1.keep hb⟩) | (obtain ⟨al, cl, e, hq⟩ := h; exact ⟨al, cl, e, hq.keep hb⟩)
set_option maxRecDepth 100000 in
set_option maxHeartbeats 8000000 in
theorem flines_body (G : World → Prop) (hAk : AskFold G) (aw : ∀ W, G W → Calls Tryd.prog 8 #[] W fun e w' => e = .returned (.bool true) ∧ Below W.heap.size W w') (a0 a1 b0 b1 y0 y1 x0 : Int) (w : World) (hG : G w) (ha : U a0 ∧ U a1) (hb : U b0 ∧ U b1) (hy : U y0 ∧ U y1) (hx : U x0) :
    Calls Tryd.prog 6 #[.agg #[.int .u64 a0, .int .u64 a1, .int .u64 b0, .int .u64 b1, .int .u64 y0, .int .u64 y1, .int .u64 x0]] w fun e w' => e = .returned (.bool true) ∧ Below w.heap.size w w' := by
  have HK := Lib.hid (fun (W W' : World) => @AskFold.keep G hAk W W')
  have HG0 := Lib.hid hG
  have ra := rep_raw ha.1 ha.2; have rb := rep_raw hb.1 hb.2; have ry := rep_raw hy.1 hy.2
  have HPQ : Hid (∀ (W : World) (q : Nat), W.cell? ⟨q, 0, none⟩ = some (.int .u64 a0) → W.cell? ⟨q, 1, none⟩ = some (.int .u64 a1) → W.cell? ⟨q, 2, none⟩ = some (.int .u64 b0) → W.cell? ⟨q, 3, none⟩ = some (.int .u64 b1) → Poly W (.slice (some ⟨q, 0, none⟩) 2 2) [⟨toF a0, toF a1⟩, ⟨toF b0, toF b1⟩]) := Lib.hid fun W q c0 c1 c2 c3 => poly_two ha hb c0 c1 c2 c3
  obtain ⟨va, hva⟩ : ∃ v : F2, (⟨toF a0, toF a1⟩ : F2) = v := ⟨_, rfl⟩
  obtain ⟨vb, hvb⟩ : ∃ v : F2, (⟨toF b0, toF b1⟩ : F2) = v := ⟨_, rfl⟩
  obtain ⟨vy, hvy⟩ : ∃ v : F2, (⟨toF y0, toF y1⟩ : F2) = v := ⟨_, rfl⟩
  rw [hva] at ra
  rw [hvb] at rb
  rw [hvy] at ry
  rw [hva, hvb] at HPQ
  obtain ⟨x, hxx⟩ : ∃ x, toF x0 = x := ⟨_, rfl⟩
  have e3 := rem_toF x0 hx
  have e4 := mod_toF x0 hx
  rw [hxx] at e3 e4
  clear hG ha hb hy hva hvb hvy
  go_enter Tryd.func6, Tryd.ntmps6
  go_upto_region 1 with fail
  obtain ⟨g, hg⟩ : ∃ g, w.heap.size = g := ⟨_, rfl⟩
  refine wp_gen (fun W => Below w.heap.size w W ∧ W.cell? ⟨g, 0, none⟩ = some (.int .u64 a0) ∧ W.cell? ⟨g, 1, none⟩ = some (.int .u64 a1) ∧ W.cell? ⟨g, 2, none⟩ = some (.int .u64 b0) ∧ W.cell? ⟨g, 3, none⟩ = some (.int .u64 b1) ∧ W.cell? ⟨g, 4, none⟩ = some (.int .u64 y0) ∧ W.cell? ⟨g, 5, none⟩ = some (.int .u64 y1) ∧ W.cell? ⟨g, 6, none⟩ = some (.int .u64 x0)) ⟨(Below.refl _ _).alloc (Nat.le_refl _) _, by subst hg; simp [go_sem]⟩ ?_
  rintro w0 ⟨hB0, c0, c1, c2, c3, c4, c5, c6⟩
  simp only [hg]
  have HB0 := Lib.hid hB0
  have HG := Lib.hid (HK.out _ _ HG0.out hB0)
  clear hB0 hg HG0
  refine wp_ways [(some 17, []), (some 18, [0]), (some 19, []), (some 20, [2]), (some 21, []), (some 22, [4]), (some 23, []), (some 24, [6]), (some 3, []), (some 4, []), (some 5, []), (none, [1, 8]), (none, [3, 9]), (none, [5, 10])]
    (Allocs w0 (FLn1v g a0 a1 b0 b1 y0 y1 x0) (FLn1s g a0 a1 b0 b1 y0 y1 x0)) (by kernel_rfl) (by kernel_rfl) (fun σ => Allocs.start (Below.refl _ _).drew σ) ?_ ?_
  · refine opsi_cons ?_ (opsi_cons ?_ (opsi_cons ?_ (opsi_cons ?_ (opsi_cons ?_ (opsi_cons ?_ (opsi_cons ?_ (opsi_cons ?_ (opsi_cons ?_ (opsi_cons ?_ (opsi_cons ?_ (opsi_cons ?_ (opsi_cons ?_ (opsi_cons ?_ opsi_nil)))))))))))))
    all_goals
      refine OpRunsI.any ?_
      intro Q0 D1 σ W' K hW hd hn hK
      simp only [fill, List.filterMap, Act.put, List.setIfInBounds_toArray, List.set_cons_zero, List.set_cons_succ] at hK ⊢
    · have HW := Lib.hid hW
      clear hW
      go_simp
      exact hK _ _ (HW.out.next (Below.refl _ _) (by intro x hx; simp only [FLn1v, List.mem_cons, List.not_mem_nil, or_false] at hx; rcases hx with rfl | rfl | rfl <;> exact ⟨Nat.ne_of_beq_eq_false rfl, Nat.ne_of_beq_eq_false rfl, Nat.ne_of_beq_eq_false rfl⟩) (by intro x hx; simp only [FLn1s, List.mem_cons, List.not_mem_nil, or_false] at hx; rcases hx with rfl | rfl | rfl | rfl | rfl | rfl | rfl | rfl <;> first | exact ⟨fun _ => ⟨rfl, rfl⟩, fun h => absurd rfl h⟩ | exact ⟨fun h => absurd h (Nat.ne_of_beq_eq_false rfl), fun _ => Nat.ne_of_beq_eq_false rfl⟩))
    · have h17 : σ 17 = .pointer (some ⟨g, 0, none⟩) := hW.sv _ (.head _) (hn 0 (by decide))
      simp only [h17] at hK
      have c0' := bkeep hW.bel c0
      have c1' := bkeep hW.bel c1
      clear c0 c1
      have HW := Lib.hid hW
      clear hW
      go_simp
      exact hK _ _ (HW.out.next (Below.refl _ _) (by intro x hx; simp only [FLn1v, List.mem_cons, List.not_mem_nil, or_false] at hx; rcases hx with rfl | rfl | rfl <;> exact ⟨Nat.ne_of_beq_eq_false rfl, Nat.ne_of_beq_eq_false rfl, Nat.ne_of_beq_eq_false rfl⟩) (by intro x hx; simp only [FLn1s, List.mem_cons, List.not_mem_nil, or_false] at hx; rcases hx with rfl | rfl | rfl | rfl | rfl | rfl | rfl | rfl <;> first | exact ⟨fun _ => ⟨rfl, rfl⟩, fun h => absurd rfl h⟩ | exact ⟨fun h => absurd h (Nat.ne_of_beq_eq_false rfl), fun _ => Nat.ne_of_beq_eq_false rfl⟩))
    · have HW := Lib.hid hW
      clear hW
      go_simp
      exact hK _ _ (HW.out.next (Below.refl _ _) (by intro x hx; simp only [FLn1v, List.mem_cons, List.not_mem_nil, or_false] at hx; rcases hx with rfl | rfl | rfl <;> exact ⟨Nat.ne_of_beq_eq_false rfl, Nat.ne_of_beq_eq_false rfl, Nat.ne_of_beq_eq_false rfl⟩) (by intro x hx; simp only [FLn1s, List.mem_cons, List.not_mem_nil, or_false] at hx; rcases hx with rfl | rfl | rfl | rfl | rfl | rfl | rfl | rfl <;> first | exact ⟨fun _ => ⟨rfl, rfl⟩, fun h => absurd rfl h⟩ | exact ⟨fun h => absurd h (Nat.ne_of_beq_eq_false rfl), fun _ => Nat.ne_of_beq_eq_false rfl⟩))
    · have h19 : σ 19 = .pointer (some ⟨g, 2, none⟩) := hW.sv _ (.tail _ (.tail _ (.head _))) (hn 2 (by decide))
      simp only [h19] at hK
      have c2' := bkeep hW.bel c2
      have c3' := bkeep hW.bel c3
      clear c2 c3
      have HW := Lib.hid hW
      clear hW
      go_simp
      exact hK _ _ (HW.out.next (Below.refl _ _) (by intro x hx; simp only [FLn1v, List.mem_cons, List.not_mem_nil, or_false] at hx; rcases hx with rfl | rfl | rfl <;> exact ⟨Nat.ne_of_beq_eq_false rfl, Nat.ne_of_beq_eq_false rfl, Nat.ne_of_beq_eq_false rfl⟩) (by intro x hx; simp only [FLn1s, List.mem_cons, List.not_mem_nil, or_false] at hx; rcases hx with rfl | rfl | rfl | rfl | rfl | rfl | rfl | rfl <;> first | exact ⟨fun _ => ⟨rfl, rfl⟩, fun h => absurd rfl h⟩ | exact ⟨fun h => absurd h (Nat.ne_of_beq_eq_false rfl), fun _ => Nat.ne_of_beq_eq_false rfl⟩))
    · have HW := Lib.hid hW
      clear hW
      go_simp
      exact hK _ _ (HW.out.next (Below.refl _ _) (by intro x hx; simp only [FLn1v, List.mem_cons, List.not_mem_nil, or_false] at hx; rcases hx with rfl | rfl | rfl <;> exact ⟨Nat.ne_of_beq_eq_false rfl, Nat.ne_of_beq_eq_false rfl, Nat.ne_of_beq_eq_false rfl⟩) (by intro x hx; simp only [FLn1s, List.mem_cons, List.not_mem_nil, or_false] at hx; rcases hx with rfl | rfl | rfl | rfl | rfl | rfl | rfl | rfl <;> first | exact ⟨fun _ => ⟨rfl, rfl⟩, fun h => absurd rfl h⟩ | exact ⟨fun h => absurd h (Nat.ne_of_beq_eq_false rfl), fun _ => Nat.ne_of_beq_eq_false rfl⟩))
    · have h21 : σ 21 = .pointer (some ⟨g, 4, none⟩) := hW.sv _ (.tail _ (.tail _ (.tail _ (.tail _ (.head _))))) (hn 4 (by decide))
      simp only [h21] at hK
      have c4' := bkeep hW.bel c4
      have c5' := bkeep hW.bel c5
      clear c4 c5
      have HW := Lib.hid hW
      clear hW
      go_simp
      exact hK _ _ (HW.out.next (Below.refl _ _) (by intro x hx; simp only [FLn1v, List.mem_cons, List.not_mem_nil, or_false] at hx; rcases hx with rfl | rfl | rfl <;> exact ⟨Nat.ne_of_beq_eq_false rfl, Nat.ne_of_beq_eq_false rfl, Nat.ne_of_beq_eq_false rfl⟩) (by intro x hx; simp only [FLn1s, List.mem_cons, List.not_mem_nil, or_false] at hx; rcases hx with rfl | rfl | rfl | rfl | rfl | rfl | rfl | rfl <;> first | exact ⟨fun _ => ⟨rfl, rfl⟩, fun h => absurd rfl h⟩ | exact ⟨fun h => absurd h (Nat.ne_of_beq_eq_false rfl), fun _ => Nat.ne_of_beq_eq_false rfl⟩))
    · have HW := Lib.hid hW
      clear hW
      go_simp
      exact hK _ _ (HW.out.next (Below.refl _ _) (by intro x hx; simp only [FLn1v, List.mem_cons, List.not_mem_nil, or_false] at hx; rcases hx with rfl | rfl | rfl <;> exact ⟨Nat.ne_of_beq_eq_false rfl, Nat.ne_of_beq_eq_false rfl, Nat.ne_of_beq_eq_false rfl⟩) (by intro x hx; simp only [FLn1s, List.mem_cons, List.not_mem_nil, or_false] at hx; rcases hx with rfl | rfl | rfl | rfl | rfl | rfl | rfl | rfl <;> first | exact ⟨fun _ => ⟨rfl, rfl⟩, fun h => absurd rfl h⟩ | exact ⟨fun h => absurd h (Nat.ne_of_beq_eq_false rfl), fun _ => Nat.ne_of_beq_eq_false rfl⟩))
    · have h23 : σ 23 = .pointer (some ⟨g, 6, none⟩) := hW.sv _ (.tail _ (.tail _ (.tail _ (.tail _ (.tail _ (.tail _ (.head _))))))) (hn 6 (by decide))
      simp only [h23] at hK
      have c6' := bkeep hW.bel c6
      clear c6
      have HW := Lib.hid hW
      clear hW
      go_simp
      exact hK _ _ (HW.out.next (Below.refl _ _) (by intro x hx; simp only [FLn1v, List.mem_cons, List.not_mem_nil, or_false] at hx; rcases hx with rfl | rfl | rfl <;> exact ⟨Nat.ne_of_beq_eq_false rfl, Nat.ne_of_beq_eq_false rfl, Nat.ne_of_beq_eq_false rfl⟩) (by intro x hx; simp only [FLn1s, List.mem_cons, List.not_mem_nil, or_false] at hx; rcases hx with rfl | rfl | rfl | rfl | rfl | rfl | rfl | rfl <;> first | exact ⟨fun _ => ⟨rfl, rfl⟩, fun h => absurd rfl h⟩ | exact ⟨fun h => absurd h (Nat.ne_of_beq_eq_false rfl), fun _ => Nat.ne_of_beq_eq_false rfl⟩))
    · have HW := Lib.hid hW
      clear hW
      go_simp
      exact hK _ _ (HW.out.new (.head _) hd (by intro x hx; simp only [FLn1v, List.mem_cons, List.not_mem_nil, or_false] at hx; rcases hx with rfl | rfl | rfl <;> first | exact ⟨fun _ => rfl, fun h => absurd rfl h, Nat.ne_of_beq_eq_false rfl⟩ | exact ⟨fun h => absurd h (Nat.ne_of_beq_eq_false rfl), fun _ => Nat.ne_of_beq_eq_false rfl, Nat.ne_of_beq_eq_false rfl⟩) (by intro x hx; simp only [FLn1s, List.mem_cons, List.not_mem_nil, or_false] at hx; rcases hx with rfl | rfl | rfl | rfl | rfl | rfl | rfl | rfl <;> exact ⟨Nat.ne_of_beq_eq_false rfl, Nat.ne_of_beq_eq_false rfl⟩))
    · have HW := Lib.hid hW
      clear hW
      go_simp
      exact hK _ _ (HW.out.new (.tail _ (.head _)) hd (by intro x hx; simp only [FLn1v, List.mem_cons, List.not_mem_nil, or_false] at hx; rcases hx with rfl | rfl | rfl <;> first | exact ⟨fun _ => rfl, fun h => absurd rfl h, Nat.ne_of_beq_eq_false rfl⟩ | exact ⟨fun h => absurd h (Nat.ne_of_beq_eq_false rfl), fun _ => Nat.ne_of_beq_eq_false rfl, Nat.ne_of_beq_eq_false rfl⟩) (by intro x hx; simp only [FLn1s, List.mem_cons, List.not_mem_nil, or_false] at hx; rcases hx with rfl | rfl | rfl | rfl | rfl | rfl | rfl | rfl <;> exact ⟨Nat.ne_of_beq_eq_false rfl, Nat.ne_of_beq_eq_false rfl⟩))
    · have HW := Lib.hid hW
      clear hW
      go_simp
      exact hK _ _ (HW.out.new (.tail _ (.tail _ (.head _))) hd (by intro x hx; simp only [FLn1v, List.mem_cons, List.not_mem_nil, or_false] at hx; rcases hx with rfl | rfl | rfl <;> first | exact ⟨fun _ => rfl, fun h => absurd rfl h, Nat.ne_of_beq_eq_false rfl⟩ | exact ⟨fun h => absurd h (Nat.ne_of_beq_eq_false rfl), fun _ => Nat.ne_of_beq_eq_false rfl, Nat.ne_of_beq_eq_false rfl⟩) (by intro x hx; simp only [FLn1s, List.mem_cons, List.not_mem_nil, or_false] at hx; rcases hx with rfl | rfl | rfl | rfl | rfl | rfl | rfl | rfl <;> exact ⟨Nat.ne_of_beq_eq_false rfl, Nat.ne_of_beq_eq_false rfl⟩))
    · have h18 : σ 18 = .agg #[.int .u64 a0, .int .u64 a1] := hW.sv _ (.tail _ (.head _)) (hn 1 (by decide))
      obtain ⟨q, hq, hle, hduo⟩ := hW.made _ (.head _) (hn 8 (by decide))
      rw [show D1 _ = false from hd] at hduo
      have hA := hn 8 (by decide)
      simp only [cond] at hduo
      obtain ⟨v0, v1, f0, f1⟩ := hduo
      have hq' : σ 3 = .pointer (some ⟨q, 0, none⟩) := hq
      simp only [h18, hq'] at hK
      have HW := Lib.hid hW
      clear hW hle
      go_simp
      exact hK undef _ (HW.out.store (.head _) hA hq (by intro x hx; simp only [FLn1v, List.mem_cons, List.not_mem_nil, or_false] at hx; rcases hx with rfl | rfl | rfl <;> first | exact ⟨fun _ => rfl, fun h => absurd rfl h, Nat.ne_of_beq_eq_false rfl⟩ | exact ⟨fun h => absurd h (Nat.ne_of_beq_eq_false rfl), fun _ => Nat.ne_of_beq_eq_false rfl, Nat.ne_of_beq_eq_false rfl⟩) (by intro x hx; simp only [FLn1s, List.mem_cons, List.not_mem_nil, or_false] at hx; rcases hx with rfl | rfl | rfl | rfl | rfl | rfl | rfl | rfl <;> exact Nat.ne_of_beq_eq_false rfl) undef)
    · have h20 : σ 20 = .agg #[.int .u64 b0, .int .u64 b1] := hW.sv _ (.tail _ (.tail _ (.tail _ (.head _)))) (hn 3 (by decide))
      obtain ⟨q, hq, hle, hduo⟩ := hW.made _ (.tail _ (.head _)) (hn 9 (by decide))
      rw [show D1 _ = false from hd] at hduo
      have hA := hn 9 (by decide)
      simp only [cond] at hduo
      obtain ⟨v0, v1, f0, f1⟩ := hduo
      have hq' : σ 4 = .pointer (some ⟨q, 0, none⟩) := hq
      simp only [h20, hq'] at hK
      have HW := Lib.hid hW
      clear hW hle
      go_simp
      exact hK undef _ (HW.out.store (.tail _ (.head _)) hA hq (by intro x hx; simp only [FLn1v, List.mem_cons, List.not_mem_nil, or_false] at hx; rcases hx with rfl | rfl | rfl <;> first | exact ⟨fun _ => rfl, fun h => absurd rfl h, Nat.ne_of_beq_eq_false rfl⟩ | exact ⟨fun h => absurd h (Nat.ne_of_beq_eq_false rfl), fun _ => Nat.ne_of_beq_eq_false rfl, Nat.ne_of_beq_eq_false rfl⟩) (by intro x hx; simp only [FLn1s, List.mem_cons, List.not_mem_nil, or_false] at hx; rcases hx with rfl | rfl | rfl | rfl | rfl | rfl | rfl | rfl <;> exact Nat.ne_of_beq_eq_false rfl) undef)
    · have h22 : σ 22 = .agg #[.int .u64 y0, .int .u64 y1] := hW.sv _ (.tail _ (.tail _ (.tail _ (.tail _ (.tail _ (.head _)))))) (hn 5 (by decide))
      obtain ⟨q, hq, hle, hduo⟩ := hW.made _ (.tail _ (.tail _ (.head _))) (hn 10 (by decide))
      rw [show D1 _ = false from hd] at hduo
      have hA := hn 10 (by decide)
      simp only [cond] at hduo
      obtain ⟨v0, v1, f0, f1⟩ := hduo
      have hq' : σ 5 = .pointer (some ⟨q, 0, none⟩) := hq
      simp only [h22, hq'] at hK
      have HW := Lib.hid hW
      clear hW hle
      go_simp
      exact hK undef _ (HW.out.store (.tail _ (.tail _ (.head _))) hA hq (by intro x hx; simp only [FLn1v, List.mem_cons, List.not_mem_nil, or_false] at hx; rcases hx with rfl | rfl | rfl <;> first | exact ⟨fun _ => rfl, fun h => absurd rfl h, Nat.ne_of_beq_eq_false rfl⟩ | exact ⟨fun h => absurd h (Nat.ne_of_beq_eq_false rfl), fun _ => Nat.ne_of_beq_eq_false rfl, Nat.ne_of_beq_eq_false rfl⟩) (by intro x hx; simp only [FLn1s, List.mem_cons, List.not_mem_nil, or_false] at hx; rcases hx with rfl | rfl | rfl | rfl | rfl | rfl | rfl | rfl <;> exact Nat.ne_of_beq_eq_false rfl) undef)
  · intro D σ W1 hW hD
    obtain ⟨g3, h3, l3, p3⟩ := hW.made _ (.head _) (hD 8 (by decide))
    obtain ⟨g4, h4, l4, p4⟩ := hW.made _ (.tail _ (.head _)) (hD 9 (by decide))
    obtain ⟨g5, h5, l5, p5⟩ := hW.made _ (.tail _ (.tail _ (.head _))) (hD 10 (by decide))
    rw [show D 11 = true from hD _ (by decide)] at p3
    rw [show D 12 = true from hD _ (by decide)] at p4
    rw [show D 13 = true from hD _ (by decide)] at p5
    have h3 : σ 3 = .pointer (some ⟨g3, 0, none⟩) := h3
    have h4 : σ 4 = .pointer (some ⟨g4, 0, none⟩) := h4
    have h5 : σ 5 = .pointer (some ⟨g5, 0, none⟩) := h5
    have p3 : Duo W1 g3 (.int .u64 a0) (.int .u64 a1) := p3
    have p4 : Duo W1 g4 (.int .u64 b0) (.int .u64 b1) := p4
    have p5 : Duo W1 g5 (.int .u64 y0) (.int .u64 y1) := p5
    have h24 : σ 24 = .int .u64 x0 := hW.sv _ (.tail _ (.tail _ (.tail _ (.tail _ (.tail _ (.tail _ (.tail _ (.head _)))))))) (hD 7 (by decide))
    have HB1 := Lib.hid hW.bel
    have P3 := Lib.hid p3; have P4 := Lib.hid p4; have P5 := Lib.hid p5
    clear hW hD c0 c1 c2 c3 c4 c5 c6 l3 l4 l5 p3 p4 p5
    simp only [fill, List.filterMap, Act.put, List.setIfInBounds_toArray, List.set_cons_zero, List.set_cons_succ, List.length_cons, List.length_nil, List.drop_succ_cons, List.drop_zero, Nat.reduceAdd, h3, h4, h5, h24]
    clear h3 h4 h5 h24
    go_upto_region 2 with fail
    refine wp_gen (fun W => Below w0.heap.size w0 W ∧ Duo W g3 (.int .u64 a0) (.int .u64 a1) ∧ Duo W g4 (.int .u64 b0) (.int .u64 b1) ∧ Duo W g5 (.int .u64 y0) (.int .u64 y1)) ⟨HB1.out, P3.out, P4.out, P5.out⟩ ?_
    clear HB1 P3 P4 P5
    rintro W2 ⟨hB2, hD3, hD4, hD5⟩
    have HB2 := Lib.hid (bthen HB0.out hB2)
    have HG2 := Lib.hid (HK.out _ _ HG.out hB2)
    have P3 := Lib.hid hD3; have P4 := Lib.hid hD4; have P5 := Lib.hid hD5
    obtain ⟨a0c, a1c, _, _⟩ := hD3
    obtain ⟨b0c, b1c, _, _⟩ := hD4
    obtain ⟨y0c, y1c, _, _⟩ := hD5
    clear hB2 HG HB0
    have aw := fun W (h : Below W2.heap.size W2 W) => aw W (HK.out _ _ HG2.out h)
    by_cases hx0 : x = 0
    · have e5 : enc x = 0 := by rw [hx0]; rfl
      rw [e5] at e3 e4
      have k1 := fun W (h : Below W2.heap.size W2 W) => hAk.one a0 a1 b0 b1 y0 y1 x0 va vb vy 0 x false W ra rb ry hx hxx (if_pos hx0) (HK.out _ _ HG2.out h)
      have HB : Hid (Below W2.heap.size W2 W2) := Lib.hid (Below.refl _ _)
      clear e5 hxx ra rb ry hx0
      go_upto_region 4 with (go_at_call 9; (with_reducible refine (k1 _ HB.out).mono ?_); rintro e w1 ⟨rfl, hb⟩; replace a0c := bkeep hb a0c; replace a1c := bkeep hb a1c; replace b0c := bkeep hb b0c; replace b1c := bkeep hb b1c; replace y0c := bkeep hb y0c; replace y1c := bkeep hb y1c; replace HB := Lib.hid (bthen HB.out hb); clear hb)
      refine wp_gen (fun W => Below W2.heap.size W2 W) ((HB.out.alloc HB.out.size _)) ?_
      intro W5 hB5
      have HB := Lib.hid hB5
      clear hB5 a0c a1c b0c b1c y0c y1c k1
      go_wp2_with (go_at_call 8; (with_reducible refine (aw _ HB.out).mono ?_); rintro e w9 ⟨rfl, hb⟩; replace HB := Lib.hid (bthen HB.out hb); clear hb)
      go_ret
      exact ⟨rfl, bthen HB2.out HB.out⟩
    have e5 : ¬ enc x = 0 := fun h => hx0 (by rw [← toF_enc x, h]; rfl)
    obtain ⟨ht1, ht2, ht3, ht4⟩ := fold_through va vb x hx0
    obtain ⟨z3, hz3⟩ : ∃ z, foldV va vb vy x = z := ⟨_, rfl⟩
    have o1 : oneRes va vb (lift x) x = (va, true) := by unfold oneRes; rw [if_neg hx0, ht3]
    have o2 : oneRes va vb (lift (-x)) x = (vb, true) := by unfold oneRes; rw [if_neg hx0, ht4]
    have o3 : oneRes va vb vy x = (z3, true) := by unfold oneRes; rw [if_neg hx0, hz3]
    have hat := ht2 vy
    rw [hz3] at hat
    have kl := fun W => rlift_q x0 (lift x) hx (by rw [hxx]) W
    have kn := fun W => (refneg_is x0 (enc (-x)) hx (by rw [hxx]) W).mono fun e w' (h : e = .returned (.int .u64 (enc (-x))) ∧ W = w') => (⟨h.1, h.2 ▸ Below.refl _ _⟩ : e = .returned (.int .u64 (enc (-x))) ∧ Below W.heap.size W w')
    have kl2 := fun W => rlift_q (enc (-x)) (lift (-x)) (enc_U _) (by rw [toF_enc]) W
    have ko1 := fun W (h : Below W2.heap.size W2 W) => hAk.one a0 a1 b0 b1 _ _ x0 va vb (lift x) va x true W ra rb (rep_enc (lift x)) hx hxx o1 (HK.out _ _ HG2.out h)
    have ko2 := fun W (h : Below W2.heap.size W2 W) => hAk.one a0 a1 b0 b1 _ _ x0 va vb (lift (-x)) vb x true W ra rb (rep_enc (lift (-x))) hx hxx o2 (HK.out _ _ HG2.out h)
    have ko3 := fun W (h : Below W2.heap.size W2 W) => hAk.one a0 a1 b0 b1 y0 y1 x0 va vb vy z3 x true W ra rb ry hx hxx o3 (HK.out _ _ HG2.out h)
    have kad1 := fun W (h : Below W2.heap.size W2 W) => radd_q a0 a1 0 0 va 0 va ra rep_zero (F2.add_zero va) W
    have kad2 := fun W (h : Below W2.heap.size W2 W) => radd_q b0 b1 0 0 vb 0 vb rb rep_zero (F2.add_zero vb) W
    have kt := fun v u W (h1 : Poly W v [lift x, lift (-x)]) (h2 : Poly W u [va, vb]) => rthrP v u [lift x, lift (-x)] [va, vb] W h1 h2 (by show 2 ≤ 1048576; decide) (by show 2 ≤ 1048576; decide)
    unfold RetT at kt
    rw [ht1] at kt
    have hLL : (thrL [lift x, lift (-x)] [va, vb]).length ≤ 4294967296 := by
      have hl := thr_len2 (lift x) (lift (-x)) va vb
      omega
    have kat := fun a c W (h : IsP W (.slice a (thrL [lift x, lift (-x)] [va, vb]).length c) (thrL [lift x, lift (-x)] [va, vb])) => rat _ _ y0 y1 vy z3 W h.poly ry hLL hat.symm
    obtain ⟨l1, hl1⟩ : ∃ l, lift x = l := ⟨_, rfl⟩
    obtain ⟨l2, hl2⟩ : ∃ l, lift (-x) = l := ⟨_, rfl⟩
    obtain ⟨nx, hnx⟩ : ∃ l, enc (-x) = l := ⟨_, rfl⟩
    rw [hl1] at kl ko1 kt kat
    rw [hl2] at kl2 ko2 kt kat
    rw [hnx] at kn kl2
    obtain ⟨LL, hLLe⟩ : ∃ L, thrL [l1, l2] [va, vb] = L := ⟨_, rfl⟩
    simp only [hLLe] at kt kat
    clear hl1 hl2 hnx hLLe hLL hat ht1 ht2 ht3 ht4 o1 o2 o3 hz3 hx0 hxx ra rb ry
    have e6 : (enc x == 0) = false := by simp [e5]
    go_upto_region 5 with fail

    clear e5 e3 e4 e6
    refine wp_twow [(some 42, [], true), (some 43, [], true), (some 44, [], true), (some 45, [44], true), (some 46, [], true), (some 47, [42, 43, 45, 46], true), (some 41, [47], true), (some 48, [41], true), (some 49, [41], false), (some 9, [], true), (none, [9, 48], false)]
      10 (FLn5G W2.heap.size g3 g4 g5 a0 a1 b0 b1 x0 nx l1 va) (fun _ W => Below W2.heap.size W2 W) (by kernel_rfl) (by kernel_rfl) (below_drewN (Below.refl _ _) 1) FLn5G.keep ?_ ?_
    · refine opsv_one ?_ (opsv_one ?_ (opsv_one ?_ (opsv_one ?_ (opsv_one ?_ (opsv_one ?_ (opsv_one ?_ (opsv_one ?_ (opsv_one ?_ (opsv_one ?_ (opsv_st ?_ opsv_nil))))))))))
      all_goals
        first | refine OpRunsV.any ?_ | refine StRunsV.any ?_
      · intro Q0 σ s W' KK hs1 hb hn hK
        simp only [fill, List.filterMap, Act.put, List.setIfInBounds_toArray, List.set_cons_zero, List.set_cons_succ] at hK ⊢
        clear hn
        have a0c' := bkeep hb a0c
        have a1c' := bkeep hb a1c
        clear a0c a1c
        have HH := Lib.hid hb
        clear hb
        go_simp
        exact hK _ _ rfl (Below.refl _ _) HH.out
      · intro Q0 σ s W' KK hs1 hb hn hK
        simp only [fill, List.filterMap, Act.put, List.setIfInBounds_toArray, List.set_cons_zero, List.set_cons_succ] at hK ⊢
        clear hn
        have b0c' := bkeep hb b0c
        have b1c' := bkeep hb b1c
        clear b0c b1c
        have HH := Lib.hid hb
        clear hb
        go_simp
        exact hK _ _ rfl (Below.refl _ _) HH.out
      · intro Q0 σ s W' KK hs1 hb hn hK
        simp only [fill, List.filterMap, Act.put, List.setIfInBounds_toArray, List.set_cons_zero, List.set_cons_succ] at hK ⊢
        clear hn
        have HH := Lib.hid hb
        clear hb
        go_simp
        exact hK _ _ rfl (Below.refl _ _) HH.out
      · intro Q0 σ s W' KK hs1 hb hn hK
        simp only [fill, List.filterMap, Act.put, List.setIfInBounds_toArray, List.set_cons_zero, List.set_cons_succ] at hK ⊢
        have h44 : σ 44 = _ := hn 44 (by decide)
        clear hn
        simp only [h44] at hK
        go_simp
        go_at_call 21
        refine (kl _).mono ?_
        rintro e w1 ⟨rfl, hb1⟩
        exact hK _ _ rfl hb1 (bthen hb hb1)
      · intro Q0 σ s W' KK hs1 hb hn hK
        simp only [fill, List.filterMap, Act.put, List.setIfInBounds_toArray, List.set_cons_zero, List.set_cons_succ] at hK ⊢
        clear hn
        have HH := Lib.hid hb
        clear hb
        go_simp
        exact hK _ _ rfl (Below.refl _ _) HH.out
      · intro Q0 σ s W' KK hs1 hb hn hK
        simp only [fill, List.filterMap, Act.put, List.setIfInBounds_toArray, List.set_cons_zero, List.set_cons_succ] at hK ⊢
        have h42 : σ 42 = _ := hn 42 (by decide)
        have h43 : σ 43 = _ := hn 43 (by decide)
        have h45 : σ 45 = _ := hn 45 (by decide)
        have h46 : σ 46 = _ := hn 46 (by decide)
        clear hn
        simp only [h42, h43, h45, h46] at hK
        go_simp
        go_at_call 9
        refine (ko1 _ hb).mono ?_
        rintro e w1 ⟨rfl, hb1⟩
        exact hK _ _ rfl hb1 (bthen hb hb1)
      · intro Q0 σ s W' KK hs1 hb hn hK
        simp only [fill, List.filterMap, Act.put, List.setIfInBounds_toArray, List.set_cons_zero, List.set_cons_succ] at hK ⊢
        have h47 : σ 47 = _ := hn 47 (by decide)
        clear hn
        simp only [h47] at hK
        have HH := Lib.hid hb
        clear hb
        go_simp
        exact hK _ _ rfl (Below.refl _ _) HH.out
      · intro Q0 σ s W' KK hs1 hb hn hK
        simp only [fill, List.filterMap, Act.put, List.setIfInBounds_toArray, List.set_cons_zero, List.set_cons_succ] at hK ⊢
        have h41 : σ 41 = _ := hn 41 (by decide)
        clear hn
        simp only [h41] at hK
        have HH := Lib.hid hb
        clear hb
        go_simp
        exact hK _ _ rfl (Below.refl _ _) HH.out
      · intro Q0 σ s W' KK hs1 hb hn hK
        simp only [fill, List.filterMap, Act.put, List.setIfInBounds_toArray, List.set_cons_zero, List.set_cons_succ] at hK ⊢
        have h41 : σ 41 = _ := hn 41 (by decide)
        clear hn
        simp only [h41] at hK
        have HH := Lib.hid hb
        clear hb
        go_simp
        exact hK _ _ rfl (Below.refl _ _) HH.out
      · intro Q0 σ s W' KK hs1 hb hn hK
        simp only [fill, List.filterMap, Act.put, List.setIfInBounds_toArray, List.set_cons_zero, List.set_cons_succ] at hK ⊢
        obtain rfl := hs1 rfl
        clear hn
        go_simp
        refine hK _ _ ?_ ((Below.refl _ _).alloc (Nat.le_refl _) _) (bthen hb ((Below.refl _ _).alloc (Nat.le_refl _) _))
        exact ⟨W'.heap.size, hb.size, rfl, by simp [Duo, go_sem]⟩
      · intro Q0 σ W' KK hb hn hK
        simp only [fill, List.filterMap, Act.put, List.setIfInBounds_toArray, List.set_cons_zero, List.set_cons_succ] at hK ⊢
        have hs48 : σ 48 = _ := hn 48 (by decide)
        obtain ⟨q, hq, eA, hV⟩ : FLn5A W2.heap.size g3 g4 g5 a0 a1 b0 b1 x0 nx l1 va false (σ 9) W' := hn 9 (by decide)
        clear hn
        have HKP : Hid (∀ (kk : Nat) (W'' : World), Duo W'' q (.int .u64 (enc va.a)) (.int .u64 (enc va.b)) → FLn5G W2.heap.size g3 g4 g5 a0 a1 b0 b1 x0 nx l1 va false kk (σ kk) W' → FLn5G W2.heap.size g3 g4 g5 a0 a1 b0 b1 x0 nx l1 va true kk (σ kk) W'') := Lib.hid fun kk W'' hD hk => by
            by_cases c : kk = 9
            · subst c; exact ⟨q, hq, eA, hD⟩
            · unfold FLn5G at *; rw [if_neg c] at *; exact hk
        have HQ' := Lib.hid hq
        simp only [if_neg Bool.false_ne_true] at hV
        have HV := Lib.hid hV
        obtain ⟨v0, v1, f0, f1⟩ := hV
        clear hq
        simp only [hs48, eA] at hK
        go_simp
        exact hK undef ((W'.setCell ⟨q, 0, none⟩ (.int .u64 (enc va.a))).setCell ⟨q, 1, none⟩ (.int .u64 (enc va.b))) (fun kk e => by cases e) (fun kk hk => HKP.out kk _ (HV.out.set _ _) hk) ((hb.setCell HQ'.out _).setCell HQ'.out _)
    · intro σ W' hb hR'
      have h48 : σ 48 = .agg #[.int .u64 (enc va.a), .int .u64 (enc va.b)] := hR' 48 (by decide)
      have h49 : σ 49 = .bool true := hR' 49 (by decide)
      obtain ⟨g9, hg9, h9, hV⟩ : FLn5A W2.heap.size g3 g4 g5 a0 a1 b0 b1 x0 nx l1 va true (σ 9) W' := hR' 9 (by decide)
      simp only [if_true] at hV
      have P3' := Lib.hid (P3.out.keep hb); have P4' := Lib.hid (P4.out.keep hb); have P5' := Lib.hid (P5.out.keep hb); have P9 := Lib.hid hV
      have HB5 := Lib.hid hb
      clear hR' hb hg9 hV a0c a1c b0c b1c y0c y1c ko1
      simp only [fill, List.filterMap, Act.put, List.setIfInBounds_toArray, List.set_cons_zero, List.set_cons_succ, List.length_cons, List.length_nil, List.drop_succ_cons, List.drop_zero, Nat.reduceAdd, h48, h49, h9]
      clear h48 h49 h9
      go_upto_region 6 with fail
      refine wp_gen (fun W => Below W2.heap.size W2 W ∧ Duo W g3 (.int .u64 a0) (.int .u64 a1) ∧ Duo W g4 (.int .u64 b0) (.int .u64 b1) ∧ Duo W g5 (.int .u64 y0) (.int .u64 y1) ∧ Duo W g9 (.int .u64 (enc va.a)) (.int .u64 (enc va.b))) ⟨HB5.out, P3'.out, P4'.out, P5'.out, P9.out⟩ ?_
      clear P3' P4' P5' P9 HB5 P3 P4 P5
      rintro W3 ⟨hB3, hD3, hD4, hD5, hD9⟩
      have HB3 := Lib.hid hB3; have P3 := Lib.hid hD3; have P4 := Lib.hid hD4; have P5 := Lib.hid hD5; have P9 := Lib.hid hD9
      obtain ⟨a0c, a1c, _, _⟩ := hD3
      obtain ⟨b0c, b1c, _, _⟩ := hD4
      clear hB3 hD5 hD9
      refine wp_twow [(some 51, [], true), (some 52, [], true), (some 53, [], true), (some 54, [53], true), (some 55, [54], true), (some 56, [], true), (some 57, [51, 52, 55, 56], true), (some 50, [57], true), (some 58, [50], true), (some 59, [50], false), (some 11, [], true), (none, [11, 58], false)]
        11 (FLn6G W3.heap.size g3 g4 g5 a0 a1 b0 b1 x0 nx l2 vb) (fun _ W => Below W3.heap.size W3 W) (by kernel_rfl) (by kernel_rfl) (below_drewN (Below.refl _ _) 1) FLn6G.keep ?_ ?_
      · refine opsv_one ?_ (opsv_one ?_ (opsv_one ?_ (opsv_one ?_ (opsv_one ?_ (opsv_one ?_ (opsv_one ?_ (opsv_one ?_ (opsv_one ?_ (opsv_one ?_ (opsv_one ?_ (opsv_st ?_ opsv_nil)))))))))))
        all_goals
          first | refine OpRunsV.any ?_ | refine StRunsV.any ?_
        · intro Q0 σ s W' KK hs1 hb hn hK
          simp only [fill, List.filterMap, Act.put, List.setIfInBounds_toArray, List.set_cons_zero, List.set_cons_succ] at hK ⊢
          clear hn
          have a0c' := bkeep hb a0c
          have a1c' := bkeep hb a1c
          clear a0c a1c
          have HH := Lib.hid hb
          clear hb
          go_simp
          exact hK _ _ rfl (Below.refl _ _) HH.out
        · intro Q0 σ s W' KK hs1 hb hn hK
          simp only [fill, List.filterMap, Act.put, List.setIfInBounds_toArray, List.set_cons_zero, List.set_cons_succ] at hK ⊢
          clear hn
          have b0c' := bkeep hb b0c
          have b1c' := bkeep hb b1c
          clear b0c b1c
          have HH := Lib.hid hb
          clear hb
          go_simp
          exact hK _ _ rfl (Below.refl _ _) HH.out
        · intro Q0 σ s W' KK hs1 hb hn hK
          simp only [fill, List.filterMap, Act.put, List.setIfInBounds_toArray, List.set_cons_zero, List.set_cons_succ] at hK ⊢
          clear hn
          have HH := Lib.hid hb
          clear hb
          go_simp
          exact hK _ _ rfl (Below.refl _ _) HH.out
        · intro Q0 σ s W' KK hs1 hb hn hK
          simp only [fill, List.filterMap, Act.put, List.setIfInBounds_toArray, List.set_cons_zero, List.set_cons_succ] at hK ⊢
          have h53 : σ 53 = _ := hn 53 (by decide)
          clear hn
          simp only [h53] at hK
          go_simp
          go_at_call 22
          refine (kn _).mono ?_
          rintro e w1 ⟨rfl, hb1⟩
          exact hK _ _ rfl hb1 (bthen hb hb1)
        · intro Q0 σ s W' KK hs1 hb hn hK
          simp only [fill, List.filterMap, Act.put, List.setIfInBounds_toArray, List.set_cons_zero, List.set_cons_succ] at hK ⊢
          have h54 : σ 54 = _ := hn 54 (by decide)
          clear hn
          simp only [h54] at hK
          go_simp
          go_at_call 21
          refine (kl2 _).mono ?_
          rintro e w1 ⟨rfl, hb1⟩
          exact hK _ _ rfl hb1 (bthen hb hb1)
        · intro Q0 σ s W' KK hs1 hb hn hK
          simp only [fill, List.filterMap, Act.put, List.setIfInBounds_toArray, List.set_cons_zero, List.set_cons_succ] at hK ⊢
          clear hn
          have HH := Lib.hid hb
          clear hb
          go_simp
          exact hK _ _ rfl (Below.refl _ _) HH.out
        · intro Q0 σ s W' KK hs1 hb hn hK
          simp only [fill, List.filterMap, Act.put, List.setIfInBounds_toArray, List.set_cons_zero, List.set_cons_succ] at hK ⊢
          have h51 : σ 51 = _ := hn 51 (by decide)
          have h52 : σ 52 = _ := hn 52 (by decide)
          have h55 : σ 55 = _ := hn 55 (by decide)
          have h56 : σ 56 = _ := hn 56 (by decide)
          clear hn
          simp only [h51, h52, h55, h56] at hK
          go_simp
          go_at_call 9
          refine (ko2 _ (bthen HB3.out hb)).mono ?_
          rintro e w1 ⟨rfl, hb1⟩
          exact hK _ _ rfl hb1 (bthen hb hb1)
        · intro Q0 σ s W' KK hs1 hb hn hK
          simp only [fill, List.filterMap, Act.put, List.setIfInBounds_toArray, List.set_cons_zero, List.set_cons_succ] at hK ⊢
          have h57 : σ 57 = _ := hn 57 (by decide)
          clear hn
          simp only [h57] at hK
          have HH := Lib.hid hb
          clear hb
          go_simp
          exact hK _ _ rfl (Below.refl _ _) HH.out
        · intro Q0 σ s W' KK hs1 hb hn hK
          simp only [fill, List.filterMap, Act.put, List.setIfInBounds_toArray, List.set_cons_zero, List.set_cons_succ] at hK ⊢
          have h50 : σ 50 = _ := hn 50 (by decide)
          clear hn
          simp only [h50] at hK
          have HH := Lib.hid hb
          clear hb
          go_simp
          exact hK _ _ rfl (Below.refl _ _) HH.out
        · intro Q0 σ s W' KK hs1 hb hn hK
          simp only [fill, List.filterMap, Act.put, List.setIfInBounds_toArray, List.set_cons_zero, List.set_cons_succ] at hK ⊢
          have h50 : σ 50 = _ := hn 50 (by decide)
          clear hn
          simp only [h50] at hK
          have HH := Lib.hid hb
          clear hb
          go_simp
          exact hK _ _ rfl (Below.refl _ _) HH.out
        · intro Q0 σ s W' KK hs1 hb hn hK
          simp only [fill, List.filterMap, Act.put, List.setIfInBounds_toArray, List.set_cons_zero, List.set_cons_succ] at hK ⊢
          obtain rfl := hs1 rfl
          clear hn
          go_simp
          refine hK _ _ ?_ ((Below.refl _ _).alloc (Nat.le_refl _) _) (bthen hb ((Below.refl _ _).alloc (Nat.le_refl _) _))
          exact ⟨W'.heap.size, hb.size, rfl, by simp [Duo, go_sem]⟩
        · intro Q0 σ W' KK hb hn hK
          simp only [fill, List.filterMap, Act.put, List.setIfInBounds_toArray, List.set_cons_zero, List.set_cons_succ] at hK ⊢
          have hs58 : σ 58 = _ := hn 58 (by decide)
          obtain ⟨q, hq, eA, hV⟩ : FLn6A W3.heap.size g3 g4 g5 a0 a1 b0 b1 x0 nx l2 vb false (σ 11) W' := hn 11 (by decide)
          clear hn
          have HKP : Hid (∀ (kk : Nat) (W'' : World), Duo W'' q (.int .u64 (enc vb.a)) (.int .u64 (enc vb.b)) → FLn6G W3.heap.size g3 g4 g5 a0 a1 b0 b1 x0 nx l2 vb false kk (σ kk) W' → FLn6G W3.heap.size g3 g4 g5 a0 a1 b0 b1 x0 nx l2 vb true kk (σ kk) W'') := Lib.hid fun kk W'' hD hk => by
              by_cases c : kk = 11
              · subst c; exact ⟨q, hq, eA, hD⟩
              · unfold FLn6G at *; rw [if_neg c] at *; exact hk
          have HQ' := Lib.hid hq
          simp only [if_neg Bool.false_ne_true] at hV
          have HV := Lib.hid hV
          obtain ⟨v0, v1, f0, f1⟩ := hV
          clear hq
          simp only [hs58, eA] at hK
          go_simp
          exact hK undef ((W'.setCell ⟨q, 0, none⟩ (.int .u64 (enc vb.a))).setCell ⟨q, 1, none⟩ (.int .u64 (enc vb.b))) (fun kk e => by cases e) (fun kk hk => HKP.out kk _ (HV.out.set _ _) hk) ((hb.setCell HQ'.out _).setCell HQ'.out _)
      · intro σ W' hb hR'
        have h58 : σ 58 = .agg #[.int .u64 (enc vb.a), .int .u64 (enc vb.b)] := hR' 58 (by decide)
        have h59 : σ 59 = .bool true := hR' 59 (by decide)
        obtain ⟨g11, hg11, h11, hV⟩ : FLn6A W3.heap.size g3 g4 g5 a0 a1 b0 b1 x0 nx l2 vb true (σ 11) W' := hR' 11 (by decide)
        simp only [if_true] at hV
        have HB : Hid (Below W2.heap.size W2 W') := Lib.hid (bthen HB3.out hb)
        have P3' := Lib.hid (P3.out.keep hb); have P4' := Lib.hid (P4.out.keep hb); have P5' := Lib.hid (P5.out.keep hb); have P9' := Lib.hid (P9.out.keep hb); have P11 := Lib.hid hV
        clear hR' hb hg11 hV a0c a1c b0c b1c ko2 HB3 P3 P4 P5 P9
        simp only [fill, List.filterMap, Act.put, List.setIfInBounds_toArray, List.set_cons_zero, List.set_cons_succ, List.length_cons, List.length_nil, List.drop_succ_cons, List.drop_zero, Nat.reduceAdd, h58, h59, h11]
        clear h58 h59 h11
        go_upto_region 7 with fail
        refine wp_gen (fun W => Below W2.heap.size W2 W ∧ Duo W g3 (.int .u64 a0) (.int .u64 a1) ∧ Duo W g4 (.int .u64 b0) (.int .u64 b1) ∧ Duo W g5 (.int .u64 y0) (.int .u64 y1) ∧ Duo W g9 (.int .u64 (enc va.a)) (.int .u64 (enc va.b)) ∧ Duo W g11 (.int .u64 (enc vb.a)) (.int .u64 (enc vb.b))) ⟨HB.out, P3'.out, P4'.out, P5'.out, P9'.out, P11.out⟩ ?_
        clear P3' P4' P5' P9' P11 HB
        rintro W4 ⟨hB4, hD3, hD4, hD5, hD9, hD11⟩
        have HB := Lib.hid hB4
        obtain ⟨a0c, a1c, _, _⟩ := hD3
        obtain ⟨b0c, b1c, _, _⟩ := hD4
        obtain ⟨y0c, y1c, _, _⟩ := hD5
        obtain ⟨p0c, p1c, _, _⟩ := hD9
        obtain ⟨q0c, q1c, _, _⟩ := hD11
        clear hB4
        go_upto_region 8 with (go_at_call 9; (with_reducible refine (ko3 _ HB.out).mono ?_); rintro e w1 ⟨rfl, hb⟩; replace a0c := bkeep hb a0c; replace a1c := bkeep hb a1c; replace b0c := bkeep hb b0c; replace b1c := bkeep hb b1c; replace y0c := bkeep hb y0c; replace y1c := bkeep hb y1c; replace p0c := bkeep hb p0c; replace p1c := bkeep hb p1c; replace q0c := bkeep hb q0c; replace q1c := bkeep hb q1c; replace HB := Lib.hid (bthen HB.out hb); clear hb)
        obtain ⟨g13, hg13⟩ : ∃ q, w1.heap.size = q := ⟨_, rfl⟩
        refine wp_gen (fun W => Below W2.heap.size W2 W ∧ Below w1.heap.size w1 W ∧ Duo W g13 (.int .u64 (enc z3.a)) (.int .u64 (enc z3.b))) ⟨HB.out.alloc HB.out.size _, (Below.refl _ _).alloc (Nat.le_refl _) _, by subst hg13; simp [Duo, go_sem]⟩ ?_
        simp only [hg13]
        clear HB ko3
        rintro W6 ⟨hB6, hb6, hD13⟩
        rw [← hg13] at hb6
        replace a0c := bkeep hb6 a0c
        replace a1c := bkeep hb6 a1c
        replace b0c := bkeep hb6 b0c
        replace b1c := bkeep hb6 b1c
        replace y0c := bkeep hb6 y0c
        replace y1c := bkeep hb6 y1c
        replace p0c := bkeep hb6 p0c
        replace p1c := bkeep hb6 p1c
        replace q0c := bkeep hb6 q0c
        replace q1c := bkeep hb6 q1c
        have HB := Lib.hid hB6
        obtain ⟨z0c, z1c, _, _⟩ := hD13
        clear hB6 hb6 hg13
        refine wp_loose [(69, []), (70, [69]), (71, []), (72, [71]), (73, [72]), (74, [70, 73]), (75, []), (76, []), (77, [75, 76]), (78, [74, 77]), (68, [78]), (79, [68]), (80, [68]), (15, [79]), (16, [80])]
          (FLn8 g3 g4 a0 a1 b0 b1 x0 nx l1 l2 va vb LL) (fun d => false) (by kernel_rfl) (by kernel_rfl) (fun _ _ _ _ h hb => h.keep hb) ?_ ?_
        · refine opsrun_cons ?_ (opsrun_cons ?_ (opsrun_cons ?_ (opsrun_cons ?_ (opsrun_cons ?_ (opsrun_cons ?_ (opsrun_cons ?_ (opsrun_cons ?_ (opsrun_cons ?_ (opsrun_cons ?_ (opsrun_cons ?_ (opsrun_cons ?_ (opsrun_cons ?_ (opsrun_cons ?_ (opsrun_cons ?_ opsrun_nil))))))))))))))
          all_goals
            refine OpRuns.any ?_
            intro Q0 σ W' K hb hn hK
            simp only [fill, List.map, Act.put, List.setIfInBounds_toArray, List.set_cons_zero, List.set_cons_succ] at hK ⊢
          · clear hn
            go_simp
            exact hK _ _ rfl (Below.refl _ _) (fun h => absurd h (by decide))
          · have h69 : σ 69 = _ := hn 69 (by decide)
            clear hn
            simp only [h69] at hK
            go_simp
            go_at_call 21
            refine (kl _).mono ?_
            rintro e w1 ⟨rfl, hb1⟩
            exact hK _ _ rfl hb1 (fun h => absurd h (by decide))
          · clear hn
            go_simp
            exact hK _ _ rfl (Below.refl _ _) (fun h => absurd h (by decide))
          · have h71 : σ 71 = _ := hn 71 (by decide)
            clear hn
            simp only [h71] at hK
            go_simp
            go_at_call 22
            refine (kn _).mono ?_
            rintro e w1 ⟨rfl, hb1⟩
            exact hK _ _ rfl hb1 (fun h => absurd h (by decide))
          · have h72 : σ 72 = _ := hn 72 (by decide)
            clear hn
            simp only [h72] at hK
            go_simp
            go_at_call 21
            refine (kl2 _).mono ?_
            rintro e w1 ⟨rfl, hb1⟩
            exact hK _ _ rfl hb1 (fun h => absurd h (by decide))
          · have h70 : σ 70 = _ := hn 70 (by decide)
            have h73 : σ 73 = _ := hn 73 (by decide)
            clear hn
            simp only [h70, h73] at hK
            go_simp
            refine hK _ _ ⟨W'.heap.size, rfl, (isP_two (by simp [go_sem]) (by simp [go_sem]) (by simp [go_sem]) (by simp [go_sem])).poly⟩ ((Below.refl _ _).alloc (Nat.le_refl _) _) (fun h => absurd h (by decide))
          · clear hn
            have a0c' := bkeep hb a0c
            have a1c' := bkeep hb a1c
            clear a0c a1c
            go_simp
            exact hK _ _ rfl (Below.refl _ _) (fun h => absurd h (by decide))
          · clear hn
            have b0c' := bkeep hb b0c
            have b1c' := bkeep hb b1c
            clear b0c b1c
            go_simp
            exact hK _ _ rfl (Below.refl _ _) (fun h => absurd h (by decide))
          · have h75 : σ 75 = _ := hn 75 (by decide)
            have h76 : σ 76 = _ := hn 76 (by decide)
            clear hn
            simp only [h75, h76] at hK
            go_simp
            refine hK _ _ ⟨W'.heap.size, rfl, HPQ.out _ _ (by simp [go_sem]) (by simp [go_sem]) (by simp [go_sem]) (by simp [go_sem])⟩ ((Below.refl _ _).alloc (Nat.le_refl _) _) (fun h => absurd h (by decide))
          · have p74 : ∃ q : Nat, (σ 74) = .slice (some ⟨q, 0, none⟩) 2 2 ∧ Poly W' (σ 74) [l1, l2] := hn 74 (by decide)
            have p77 : ∃ q : Nat, (σ 77) = .slice (some ⟨q, 0, none⟩) 2 2 ∧ Poly W' (σ 77) [va, vb] := hn 77 (by decide)
            clear hn
            obtain ⟨q1, e1, hq1⟩ := p74
            obtain ⟨q2, e2, hq2⟩ := p77
            rw [e1] at hq1
            rw [e2] at hq2
            simp only [e1, e2] at hK
            go_simp
            go_at_call 23
            refine (kt _ _ _ hq1 hq2).mono ?_
            rintro e w1 ⟨v, rfl, hb1, hq⟩
            obtain ⟨al, cl, rfl⟩ := hq.slice
            exact hK _ _ ⟨al, cl, rfl, hq⟩ hb1 (fun h => absurd h (by decide))
          · have p78 : ∃ (al : Option Addr) (cl : Nat), (σ 78) = .tuple #[.slice al LL.length cl, .bool true] ∧ IsP W' (.slice al LL.length cl) LL := hn 78 (by decide)
            clear hn
            obtain ⟨al, cl, e, hq⟩ := p78
            simp only [e] at hK
            go_simp
            exact hK _ _ ⟨al, cl, rfl, hq⟩ (Below.refl _ _) (fun h => absurd h (by decide))
          · have p68 : ∃ (al : Option Addr) (cl : Nat), (σ 68) = .tuple #[.slice al LL.length cl, .bool true] ∧ IsP W' (.slice al LL.length cl) LL := hn 68 (by decide)
            clear hn
            obtain ⟨al, cl, e, hq⟩ := p68
            simp only [e] at hK
            go_simp
            exact hK _ _ ⟨al, cl, rfl, hq⟩ (Below.refl _ _) (fun h => absurd h (by decide))
          · have p68 : ∃ (al : Option Addr) (cl : Nat), (σ 68) = .tuple #[.slice al LL.length cl, .bool true] ∧ IsP W' (.slice al LL.length cl) LL := hn 68 (by decide)
            clear hn
            obtain ⟨al, cl, e, hq⟩ := p68
            simp only [e] at hK
            go_simp
            exact hK _ _ rfl (Below.refl _ _) (fun h => absurd h (by decide))
          · have p79 : ∃ (al : Option Addr) (cl : Nat), (σ 79) = .slice al LL.length cl ∧ IsP W' (.slice al LL.length cl) LL := hn 79 (by decide)
            clear hn
            obtain ⟨al, cl, e, hq⟩ := p79
            simp only [e] at hK
            go_simp
            exact hK _ _ ⟨al, cl, rfl, hq⟩ (Below.refl _ _) (fun h => absurd h (by decide))
          · have h80 : σ 80 = _ := hn 80 (by decide)
            clear hn
            simp only [h80] at hK
            go_simp
            exact hK _ _ rfl (Below.refl _ _) (fun h => absurd h (by decide))
        · intro σ W' hb hR' hF
          have h80 : σ 16 = .bool true := hR' 16 (by decide)
          obtain ⟨al, cl, h79, hl⟩ : ∃ (al : Option Addr) (cl : Nat), σ 15 = .slice al LL.length cl ∧ IsP W' (.slice al LL.length cl) LL := hR' 15 (by decide)
          replace a0c := bkeep hb a0c
          replace a1c := bkeep hb a1c
          replace b0c := bkeep hb b0c
          replace b1c := bkeep hb b1c
          replace y0c := bkeep hb y0c
          replace y1c := bkeep hb y1c
          replace p0c := bkeep hb p0c
          replace p1c := bkeep hb p1c
          replace q0c := bkeep hb q0c
          replace q1c := bkeep hb q1c
          replace z0c := bkeep hb z0c
          replace z1c := bkeep hb z1c
          replace HB := Lib.hid (bthen HB.out hb)
          have HL := Lib.hid hl
          clear hR' hF hb hl kt kl kn kl2
          simp only [fill, List.map, Act.put, List.setIfInBounds_toArray, List.set_cons_zero, List.set_cons_succ, List.length_cons, List.length_nil, List.drop_succ_cons, List.drop_zero, Nat.reduceAdd, h79, h80]
          clear h79 h80
          go_upto_region 9 with fail
          have aw := fun W (h : Below W'.heap.size W' W) => aw W (bthen HB.out h)
          have kad1 := fun W (h : Below W'.heap.size W' W) => kad1 W (bthen HB.out h)
          have kad2 := fun W (h : Below W'.heap.size W' W) => kad2 W (bthen HB.out h)
          have kat := fun W (h : Below W'.heap.size W' W) => kat al cl W (HL.out.keep h)
          replace a0c := fun q : Regrown => cell_regrown a0c q.d q.os
          replace a1c := fun q : Regrown => cell_regrown a1c q.d q.os
          replace b0c := fun q : Regrown => cell_regrown b0c q.d q.os
          replace b1c := fun q : Regrown => cell_regrown b1c q.d q.os
          replace y0c := fun q : Regrown => cell_regrown y0c q.d q.os
          replace y1c := fun q : Regrown => cell_regrown y1c q.d q.os
          replace p0c := fun q : Regrown => cell_regrown p0c q.d q.os
          replace p1c := fun q : Regrown => cell_regrown p1c q.d q.os
          replace q0c := fun q : Regrown => cell_regrown q0c q.d q.os
          replace q1c := fun q : Regrown => cell_regrown q1c q.d q.os
          replace z0c := fun q : Regrown => cell_regrown z0c q.d q.os
          replace z1c := fun q : Regrown => cell_regrown z1c q.d q.os
          refine wp_region_quiet_below (by kernel_rfl) (by kernel_rfl) ?_
          repeat (first | go_big_quiet_step (first
            | (go_at_call 8; with_reducible exact Calls.regrown_of (aw _ (below_regrown W' _ _)))
            | (go_at_call 19; with_reducible exact Calls.regrown_of (kad1 _ (below_regrown W' _ _)))
            | (go_at_call 19; with_reducible exact Calls.regrown_of (kad2 _ (below_regrown W' _ _)))
            | (go_at_call 24; with_reducible exact Calls.regrown_of (kat _ (below_regrown W' _ _)))) | quiet_step (fail))
          refine wpQuiet_nil ?_
          rintro _ ⟨pq, rfl⟩
          have HBE := Lib.hid (bthen HB.out (below_regrown W' pq.d pq.os))
          clear a0c a1c b0c b1c y0c y1c p0c p1c q0c q1c z0c z1c HB aw kad1 kad2 kat HL
          go_wp2_with fail
          go_ret
          exact ⟨rfl, bthen HB2.out HBE.out⟩
end Go.Proofs.YtepfdhcdalkddaaDoor
