/-
  Layer 22's fourth statement. (Written by gen_jl3.py.)
-/
import Derived.Test.YteghnaocncmiaaaJLTells
import Derived.Test.YteghnaocncmiaaaJudgeQ
namespace Go.Proofs.Yteghnaocncmiaaa
open Go Go.RowKit Go.Sort Go.BigFrame
set_option linter.unusedVariables false

def JSu3 (g g2 B : Nat) (q0 q1 q2 q3 p0 p1 p2 p3 : Int) (z1 z2 : F2) (sl : Nat) (v : Value) (W : World) : Prop :=
  match sl with
  | 55 => v = .pointer (some ⟨g, 7, none⟩)
  | 56 => v = .pointer (some ⟨g, 7, none⟩)
  | 57 => v = .agg #[.int .u64 q0, .int .u64 q1]
  | 58 => v = .pointer (some ⟨g2, 7, none⟩)
  | 59 => v = .pointer (some ⟨g2, 7, none⟩)
  | 60 => v = .agg #[.int .u64 p0, .int .u64 p1]
  | 61 => v = .agg #[.int .u64 (enc z1.a), .int .u64 (enc z1.b)]
  | 62 => v = .pointer (some ⟨g, 7, none⟩)
  | 63 => v = .pointer (some ⟨g, 9, none⟩)
  | 64 => v = .agg #[.int .u64 q2, .int .u64 q3]
  | 65 => v = .pointer (some ⟨g2, 7, none⟩)
  | 66 => v = .pointer (some ⟨g2, 9, none⟩)
  | 67 => v = .agg #[.int .u64 p2, .int .u64 p3]
  | 68 => v = .agg #[.int .u64 (enc z2.a), .int .u64 (enc z2.b)]
  | 69 => v = .agg #[.int .u64 (enc z1.a), .int .u64 (enc z1.b), .int .u64 (enc z2.a), .int .u64 (enc z2.b)]
  | 5 => ∃ q : Nat, B ≤ q ∧ v = .pointer (some ⟨q, 0, none⟩) ∧ Quo W q (.int .u64 0) (.int .u64 0) (.int .u64 0) (.int .u64 0)
  | _ => v = .bool true
theorem JSu3.keep {g g2 B : Nat} {q0 q1 q2 q3 p0 p1 p2 p3 : Int} {z1 z2 : F2} {sl : Nat} {v : Value} {W W' : World} (h : JSu3 g g2 B q0 q1 q2 q3 p0 p1 p2 p3 z1 z2 sl v W) (hb : Below W.heap.size W W') : JSu3 g g2 B q0 q1 q2 q3 p0 p1 p2 p3 z1 z2 sl v W' := by
  unfold JSu3 at *
  split at h
  all_goals first | exact h | (obtain ⟨q, h0, h1, h2⟩ := h; exact ⟨q, h0, h1, h2.keep hb⟩)
def JSu8 (g g2 : Nat) (ad : Option Addr) (j cp b1 o1 n1 c1 b2 o2 n2 c2 : Nat) (x0 x1 x2 x3 y0 y1 y2 y3 : Int) (z1 z2 : F2) (sl : Nat) (v : Value) (W : World) : Prop :=
  match sl with
  | 77 => v = .slice ad j cp
  | 78 => v = .pointer (some ⟨g, 11, none⟩)
  | 79 => v = .slice (some ⟨b1, o1, none⟩) n1 c1
  | 80 => v = .int .i64 (j : Int)
  | 81 => v = .pointer (some ⟨b1, o1 + j * 4, none⟩)
  | 82 => v = .pointer (some ⟨b1, o1 + j * 4, none⟩)
  | 83 => v = .agg #[.int .u64 x0, .int .u64 x1]
  | 84 => v = .pointer (some ⟨g2, 11, none⟩)
  | 85 => v = .slice (some ⟨b2, o2, none⟩) n2 c2
  | 86 => v = .int .i64 (j : Int)
  | 87 => v = .pointer (some ⟨b2, o2 + j * 4, none⟩)
  | 88 => v = .pointer (some ⟨b2, o2 + j * 4, none⟩)
  | 89 => v = .agg #[.int .u64 y0, .int .u64 y1]
  | 90 => v = .agg #[.int .u64 (enc z1.a), .int .u64 (enc z1.b)]
  | 91 => v = .pointer (some ⟨g, 11, none⟩)
  | 92 => v = .slice (some ⟨b1, o1, none⟩) n1 c1
  | 93 => v = .int .i64 (j : Int)
  | 94 => v = .pointer (some ⟨b1, o1 + j * 4, none⟩)
  | 95 => v = .pointer (some ⟨b1, o1 + j * 4 + 2, none⟩)
  | 96 => v = .agg #[.int .u64 x2, .int .u64 x3]
  | 97 => v = .pointer (some ⟨g2, 11, none⟩)
  | 98 => v = .slice (some ⟨b2, o2, none⟩) n2 c2
  | 99 => v = .int .i64 (j : Int)
  | 100 => v = .pointer (some ⟨b2, o2 + j * 4, none⟩)
  | 101 => v = .pointer (some ⟨b2, o2 + j * 4 + 2, none⟩)
  | 102 => v = .agg #[.int .u64 y2, .int .u64 y3]
  | 103 => v = .agg #[.int .u64 (enc z2.a), .int .u64 (enc z2.b)]
  | 104 => v = .agg #[.int .u64 (enc z1.a), .int .u64 (enc z1.b), .int .u64 (enc z2.a), .int .u64 (enc z2.b)]
  | 105 => ∃ q : Nat, q < W.heap.size ∧ v = .slice (some ⟨q, 0, none⟩) 1 1 ∧ W.cell? ⟨q, 0, none⟩ = some (.int .u64 (enc z1.a)) ∧ W.cell? ⟨q, 1, none⟩ = some (.int .u64 (enc z1.b)) ∧ W.cell? ⟨q, 2, none⟩ = some (.int .u64 (enc z2.a)) ∧ W.cell? ⟨q, 3, none⟩ = some (.int .u64 (enc z2.b))
  | _ => v = .bool true
theorem JSu8.keep {g g2 : Nat} {ad : Option Addr} {j cp b1 o1 n1 c1 b2 o2 n2 c2 : Nat} {x0 x1 x2 x3 y0 y1 y2 y3 : Int} {z1 z2 : F2} {sl : Nat} {v : Value} {W W' : World} (h : JSu8 g g2 ad j cp b1 o1 n1 c1 b2 o2 n2 c2 x0 x1 x2 x3 y0 y1 y2 y3 z1 z2 sl v W) (hb : Below W.heap.size W W') : JSu8 g g2 ad j cp b1 o1 n1 c1 b2 o2 n2 c2 x0 x1 x2 x3 y0 y1 y2 y3 z1 z2 sl v W' := by
  unfold JSu8 at *
  split at h
  all_goals first | exact h | (obtain ⟨q, h0, h1, h2, h3, h4, h5⟩ := h; exact ⟨q, Nat.lt_of_lt_of_le h0 hb.size, h1, bkeep hb h2, bkeep hb h3, bkeep hb h4, bkeep hb h5⟩)
def JSu13 (g g2 : Nat) (ad : Option Addr) (j cp b1 o1 n1 c1 b2 o2 n2 c2 : Nat) (x0 x1 y0 y1 : Int) (z1 : F2) (sl : Nat) (v : Value) (W : World) : Prop :=
  match sl with
  | 114 => v = .slice ad j cp
  | 115 => v = .pointer (some ⟨g, 12, none⟩)
  | 116 => v = .slice (some ⟨b1, o1, none⟩) n1 c1
  | 117 => v = .int .i64 (j : Int)
  | 118 => v = .pointer (some ⟨b1, o1 + j * 2, none⟩)
  | 119 => v = .agg #[.int .u64 x0, .int .u64 x1]
  | 120 => v = .pointer (some ⟨g2, 12, none⟩)
  | 121 => v = .slice (some ⟨b2, o2, none⟩) n2 c2
  | 122 => v = .int .i64 (j : Int)
  | 123 => v = .pointer (some ⟨b2, o2 + j * 2, none⟩)
  | 124 => v = .agg #[.int .u64 y0, .int .u64 y1]
  | 125 => v = .agg #[.int .u64 (enc z1.a), .int .u64 (enc z1.b)]
  | 126 => ∃ q : Nat, q < W.heap.size ∧ v = .slice (some ⟨q, 0, none⟩) 1 1 ∧ W.cell? ⟨q, 0, none⟩ = some (.int .u64 (enc z1.a)) ∧ W.cell? ⟨q, 1, none⟩ = some (.int .u64 (enc z1.b))
  | _ => v = .bool true
theorem JSu13.keep {g g2 : Nat} {ad : Option Addr} {j cp b1 o1 n1 c1 b2 o2 n2 c2 : Nat} {x0 x1 y0 y1 : Int} {z1 : F2} {sl : Nat} {v : Value} {W W' : World} (h : JSu13 g g2 ad j cp b1 o1 n1 c1 b2 o2 n2 c2 x0 x1 y0 y1 z1 sl v W) (hb : Below W.heap.size W W') : JSu13 g g2 ad j cp b1 o1 n1 c1 b2 o2 n2 c2 x0 x1 y0 y1 z1 sl v W' := by
  unfold JSu13 at *
  split at h
  all_goals first | exact h | (obtain ⟨q, h0, h1, h2, h3⟩ := h; exact ⟨q, Nat.lt_of_lt_of_le h0 hb.size, h1, bkeep hb h2, bkeep hb h3⟩)

theorem sumQs_snoc (l r : List Quad) (j : Nat) : sumQs l r (j + 1) = sumQs l r j ++ [addQd (l.getD j zeroQ) (r.getD j zeroQ)] := by simp [sumQs, List.range_succ]
theorem sumQs_U (l r : List Quad) (n : Nat) : ∀ q ∈ sumQs l r n, UsQ q := by
  intro q hq
  obtain ⟨j, _, rfl⟩ := List.mem_map.1 hq
  exact ⟨encP_U _, encP_U _⟩
theorem getD_us {l : List Quad} (h : ∀ q ∈ l, UsQ q) {j : Nat} (hj : j < l.length) : UsQ (l.getD j zeroQ) := by
  have e : l.getD j zeroQ = l[j] := by simp [List.getD, hj]
  rw [e]; exact h _ (List.getElem_mem hj)
theorem getD_up {l : QL} (h : ∀ q ∈ l, U q.1 ∧ U q.2) {j : Nat} (hj : j < l.length) : U (l.getD j (0, 0)).1 ∧ U (l.getD j (0, 0)).2 := by
  have e : l.getD j (0, 0) = l[j] := by simp [List.getD, hj]
  rw [e]; exact h _ (List.getElem_mem hj)
theorem CaseB.far {W : World} {g g' : Nat} {k bl fo qu gr : Int} {a : Option Addr} {n c : Nat} {pl : Int} {q : Quad} {la : Option Addr} {ln lc : Nat} {fa : Option Addr} {fn fc : Nat} (h : CaseB W g k bl fo qu gr a n c pl q la ln lc fa fn fc) (hne : g ≠ g') (o : Nat) (x : Value) : CaseB (W.setCell ⟨g', o, none⟩ x) g k bl fo qu gr a n c pl q la ln lc fa fn fc := by
  obtain ⟨e0, e1, e2, e3, e4, e5, e6, e7, e8, e9, e10, e11, e12⟩ := h
  have hk : ∀ i v, W.cell? ⟨g, i, none⟩ = some v → (W.setCell ⟨g', o, none⟩ x).cell? ⟨g, i, none⟩ = some v := fun i v hv => by simp [go_sem, hv]
  exact ⟨hk _ _ e0, hk _ _ e1, hk _ _ e2, hk _ _ e3, hk _ _ e4, hk _ _ e5, hk _ _ e6, hk _ _ e7, hk _ _ e8, hk _ _ e9, hk _ _ e10, hk _ _ e11, hk _ _ e12⟩
def JLyRel (w1 : World) (l r : List Quad) (n : Nat) (v i : Value) (W : World) : Prop := ∃ j : Nat, j ≤ n ∧ i = .int .i64 j ∧ MadeD w1 W v (sumQs l r j)
def JFiRel (w1 : World) (l r : QL) (n : Nat) (v i : Value) (W : World) : Prop := ∃ j : Nat, j ≤ n ∧ i = .int .i64 j ∧ MadeQ w1 W v (sumQ l r j)
set_option maxRecDepth 100000 in
set_option maxHeartbeats 8000000 in
theorem judge_sumsB (G : World → Prop) (hA : AskJudge G) (k bl fo qu gr : Int) (a : Option Addr) (n c : Nat) (pl : Int) (q : Quad) (la : Option Addr) (ln lc : Nat) (fa : Option Addr) (fn fc : Nat) (dk dbl dfo dqu dgr : Int) (da : Option Addr) (dn dc : Nat) (dpl : Int) (p : Quad) (dla : Option Addr) (dln dlc : Nat) (dfa : Option Addr) (dfn dfc : Nat) (bys : QL) (layers : List Quad) (fin : QL) (layd : List Quad) (find : QL) (w : World) (hG : G w) (hk : I64 k) (hbl : I64 bl) (hfo : I64 fo) (hpl : I64 pl) (hby : QRowA w a n bys) (hbu : ∀ n ∈ bys, U n.1 ∧ U n.2) (hq : UsQ q) (hly : QuadsA w la ln layers) (hlu : ∀ q ∈ layers, UsQ q) (hf : QRowA w fa fn fin) (hfu : ∀ n ∈ fin, U n.1 ∧ U n.2)
    (hp : UsQ p) (hdl : QuadsA w dla dln layd) (hdu : ∀ q ∈ layd, UsQ q) (hdf : QRowA w dfa dfn find) (hdfu : ∀ n ∈ find, U n.1 ∧ U n.2) :
    Calls Try.prog 6 #[caseV k bl fo qu gr a n c pl q la ln lc fa fn fc, caseV dk dbl dfo dqu dgr da dn dc dpl p dla dln dlc dfa dfn dfc] w fun e w' => e = .returned (.bool true) ∧ Below w.heap.size w w' := by
  have aw := fun W (h : Below w.heap.size w W) => jawake G hA W (hA.keep hG h)
  obtain ⟨r0, hr0⟩ : ∃ r, decide (n ≤ 12 ∧ ln ≤ 12 ∧ fn ≤ 70) = r := ⟨_, rfl⟩
  obtain ⟨r1, hr1⟩ : ∃ r, decide (dn ≤ 12 ∧ dln ≤ 12 ∧ dfn ≤ 70) = r := ⟨_, rfl⟩
  have ks := fun W => jshort k bl fo qu gr a n c pl q la ln lc fa fn fc r0 W hr0
  have kt := fun W => jshort dk dbl dfo dqu dgr da dn dc dpl p dla dln dlc dfa dfn dfc r1 W hr1
  have k3 := fun W (h : Below w.heap.size w W) => hA.judge k bl fo qu gr a n c bys pl q la ln lc layers fa fn fc fin _ W hk hbl hfo hpl (hby.keep h) hbu hq (hly.keep h) hlu (hf.keep h) hfu rfl (hA.keep hG h)
  have k5 := fun W (h : Below w.heap.size w W) => hA.judge k bl fo qu gr a n c bys pl p dla dln dlc layd dfa dfn dfc find _ W hk hbl hfo hpl (hby.keep h) hbu hp (hdl.keep h) hdu (hdf.keep h) hdfu rfl (hA.keep hG h)
  obtain ⟨v2, hv2⟩ : ∃ v, judgeB k bl fo bys pl q layers fin = v := ⟨_, rfl⟩
  obtain ⟨v3, hv3⟩ : ∃ v, judgeB k bl fo bys pl p layd find = v := ⟨_, rfl⟩
  rw [hv2] at k3
  rw [hv3] at k5
  have HSUM := Lib.hid (fun (h2 : v2 = true) (h3 : v3 = true) => judge_sums (hv2.trans h2) (hv3.trans h3))
  have HR2 := Lib.hid (fun h2 : v2 = true => judge_right (hv2.trans h2)); have HR3 := Lib.hid (fun h3 : v3 = true => judge_right (hv3.trans h3))
  have HL2 := Lib.hid hly; have HL3 := Lib.hid hdl; have HF2 := Lib.hid hf; have HF3 := Lib.hid hdf; have HLU := Lib.hid (And.intro hlu hdu); have HFU := Lib.hid (And.intro hfu hdfu)
  have HJ := Lib.hid (fun (W : World) (h : Below w.heap.size w W) (q' : Quad) (hq' : UsQ q') (xa : Option Addr) (xn xc : Nat) (xs : List Quad) (ya : Option Addr) (yn yc : Nat) (ys : QL) (h1 : QuadsA W xa xn xs) (h2 : ∀ q ∈ xs, UsQ q) (h3 : QRowA W ya yn ys) (h4 : ∀ n ∈ ys, U n.1 ∧ U n.2) (h5 : judgeB k bl fo bys pl q' xs ys = true) => hA.judge k bl fo qu gr a n c bys pl q' xa xn xc xs ya yn yc ys true W hk hbl hfo hpl (hby.keep h) hbu hq' h1 h2 h3 h4 h5 (hA.keep hG h))
  obtain ⟨⟨q0, q1⟩, ⟨q2, q3⟩⟩ := q
  obtain ⟨⟨p0, p1⟩, ⟨p2, p3⟩⟩ := p
  obtain ⟨z1, hz1⟩ : ∃ z, toQ (q0, q1) + toQ (p0, p1) = z := ⟨_, rfl⟩
  obtain ⟨z2, hz2⟩ : ∃ z, toQ (q2, q3) + toQ (p2, p3) = z := ⟨_, rfl⟩
  have ka := fun W => radd_q q0 q1 p0 p1 (toQ (q0, q1)) (toQ (p0, p1)) z1 (rep_raw hq.1.1 hq.1.2) (rep_raw hp.1.1 hp.1.2) hz1 W
  have kb := fun W => radd_q q2 q3 p2 p3 (toQ (q2, q3)) (toQ (p2, p3)) z2 (rep_raw hq.2.1 hq.2.2) (rep_raw hp.2.1 hp.2.2) hz2 W
  have HAD : Hid (addQd ((q0, q1), (q2, q3)) ((p0, p1), (p2, p3)) = ((enc z1.a, enc z1.b), (enc z2.a, enc z2.b))) := Lib.hid (by rw [← hz1, ← hz2]; rfl)
  have HSH := Lib.hid (fun h : r0 = true => of_decide_eq_true (hr0.trans h))
  clear hr0 hr1 hA hG hby hly hf hbu hlu hfu hq hp hk hbl hfo hpl hdl hdu hdf hdfu hv2 hv3 hz1 hz2
  go_enter Try.func6, Try.ntmps6
  go_upto_region 1 with fail
  obtain ⟨g, hg⟩ : ∃ g, w.heap.size = g := ⟨_, rfl⟩
  refine wp_gen (fun W => Below w.heap.size w W ∧ CaseB W g k bl fo qu gr a n c pl ((q0, q1), (q2, q3)) la ln lc fa fn fc ∧ CaseB W (g + 1) dk dbl dfo dqu dgr da dn dc dpl ((p0, p1), (p2, p3)) dla dln dlc dfa dfn dfc) ⟨((Below.refl _ _).alloc (Nat.le_refl _) _).alloc (by simp) _, by subst hg; simp [CaseB, go_sem], by subst hg; simp [CaseB, go_sem]⟩ ?_
  obtain ⟨h, hh⟩ : ∃ h, g + 1 = h := ⟨_, rfl⟩
  rw [hh]
  rintro w0 ⟨hB, hC, hD⟩
  simp only [hg, hh]
  have HB := Lib.hid hB; have HC := Lib.hid hC; have HD := Lib.hid hD
  clear hB hC hD hg hh
  obtain ⟨e0, e1, e2, e3, e4, e5, e6, e7, e8, e9, e10, e11, e12⟩ := HC.out; obtain ⟨f0, f1, f2, f3, f4, f5, f6, f7, f8, f9, f10, f11, f12⟩ := HD.out
  cases r0
  · go_wp2_with (first
        | (go_at_call 7; (with_reducible refine (ks _).mono ?_); rintro e w2 ⟨rfl, hb⟩; replace HC := Lib.hid (HC.out.keep hb); replace HD := Lib.hid (HD.out.keep hb); replace HB := Lib.hid (bthen HB.out hb); clear hb; clear e0 e1 e2 e3 e4 e5 e6 e7 e8 e9 e10 e11 e12 f0 f1 f2 f3 f4 f5 f6 f7 f8 f9 f10 f11 f12; obtain ⟨e0, e1, e2, e3, e4, e5, e6, e7, e8, e9, e10, e11, e12⟩ := HC.out; obtain ⟨f0, f1, f2, f3, f4, f5, f6, f7, f8, f9, f10, f11, f12⟩ := HD.out)
        | (go_at_call 8; (with_reducible refine (aw _ HB.out).mono ?_); rintro e w2 ⟨rfl, hb⟩; replace HC := Lib.hid (HC.out.keep hb); replace HD := Lib.hid (HD.out.keep hb); replace HB := Lib.hid (bthen HB.out hb); clear hb; clear e0 e1 e2 e3 e4 e5 e6 e7 e8 e9 e10 e11 e12 f0 f1 f2 f3 f4 f5 f6 f7 f8 f9 f10 f11 f12; obtain ⟨e0, e1, e2, e3, e4, e5, e6, e7, e8, e9, e10, e11, e12⟩ := HC.out; obtain ⟨f0, f1, f2, f3, f4, f5, f6, f7, f8, f9, f10, f11, f12⟩ := HD.out))
    go_ret
    exact ⟨rfl, HB.out⟩
  cases r1
  · go_wp2_with (first
        | (go_at_call 7; (with_reducible refine (ks _).mono ?_); rintro e w2 ⟨rfl, hb⟩; replace HC := Lib.hid (HC.out.keep hb); replace HD := Lib.hid (HD.out.keep hb); replace HB := Lib.hid (bthen HB.out hb); clear hb; clear e0 e1 e2 e3 e4 e5 e6 e7 e8 e9 e10 e11 e12 f0 f1 f2 f3 f4 f5 f6 f7 f8 f9 f10 f11 f12; obtain ⟨e0, e1, e2, e3, e4, e5, e6, e7, e8, e9, e10, e11, e12⟩ := HC.out; obtain ⟨f0, f1, f2, f3, f4, f5, f6, f7, f8, f9, f10, f11, f12⟩ := HD.out)
        | (go_at_call 7; (with_reducible refine (kt _).mono ?_); rintro e w2 ⟨rfl, hb⟩; replace HC := Lib.hid (HC.out.keep hb); replace HD := Lib.hid (HD.out.keep hb); replace HB := Lib.hid (bthen HB.out hb); clear hb; clear e0 e1 e2 e3 e4 e5 e6 e7 e8 e9 e10 e11 e12 f0 f1 f2 f3 f4 f5 f6 f7 f8 f9 f10 f11 f12; obtain ⟨e0, e1, e2, e3, e4, e5, e6, e7, e8, e9, e10, e11, e12⟩ := HC.out; obtain ⟨f0, f1, f2, f3, f4, f5, f6, f7, f8, f9, f10, f11, f12⟩ := HD.out)
        | (go_at_call 8; (with_reducible refine (aw _ HB.out).mono ?_); rintro e w2 ⟨rfl, hb⟩; replace HC := Lib.hid (HC.out.keep hb); replace HD := Lib.hid (HD.out.keep hb); replace HB := Lib.hid (bthen HB.out hb); clear hb; clear e0 e1 e2 e3 e4 e5 e6 e7 e8 e9 e10 e11 e12 f0 f1 f2 f3 f4 f5 f6 f7 f8 f9 f10 f11 f12; obtain ⟨e0, e1, e2, e3, e4, e5, e6, e7, e8, e9, e10, e11, e12⟩ := HC.out; obtain ⟨f0, f1, f2, f3, f4, f5, f6, f7, f8, f9, f10, f11, f12⟩ := HD.out))
    go_ret
    exact ⟨rfl, HB.out⟩
  cases v2
  · go_wp2_with (first
        | (go_at_call 7; (with_reducible refine (ks _).mono ?_); rintro e w2 ⟨rfl, hb⟩; replace HC := Lib.hid (HC.out.keep hb); replace HD := Lib.hid (HD.out.keep hb); replace HB := Lib.hid (bthen HB.out hb); clear hb; clear e0 e1 e2 e3 e4 e5 e6 e7 e8 e9 e10 e11 e12 f0 f1 f2 f3 f4 f5 f6 f7 f8 f9 f10 f11 f12; obtain ⟨e0, e1, e2, e3, e4, e5, e6, e7, e8, e9, e10, e11, e12⟩ := HC.out; obtain ⟨f0, f1, f2, f3, f4, f5, f6, f7, f8, f9, f10, f11, f12⟩ := HD.out)
        | (go_at_call 7; (with_reducible refine (kt _).mono ?_); rintro e w2 ⟨rfl, hb⟩; replace HC := Lib.hid (HC.out.keep hb); replace HD := Lib.hid (HD.out.keep hb); replace HB := Lib.hid (bthen HB.out hb); clear hb; clear e0 e1 e2 e3 e4 e5 e6 e7 e8 e9 e10 e11 e12 f0 f1 f2 f3 f4 f5 f6 f7 f8 f9 f10 f11 f12; obtain ⟨e0, e1, e2, e3, e4, e5, e6, e7, e8, e9, e10, e11, e12⟩ := HC.out; obtain ⟨f0, f1, f2, f3, f4, f5, f6, f7, f8, f9, f10, f11, f12⟩ := HD.out)
        | (go_at_call 11; (with_reducible refine (k3 _ HB.out).mono ?_); rintro e w2 ⟨rfl, hb⟩; replace HC := Lib.hid (HC.out.keep hb); replace HD := Lib.hid (HD.out.keep hb); replace HB := Lib.hid (bthen HB.out hb); clear hb; clear e0 e1 e2 e3 e4 e5 e6 e7 e8 e9 e10 e11 e12 f0 f1 f2 f3 f4 f5 f6 f7 f8 f9 f10 f11 f12; obtain ⟨e0, e1, e2, e3, e4, e5, e6, e7, e8, e9, e10, e11, e12⟩ := HC.out; obtain ⟨f0, f1, f2, f3, f4, f5, f6, f7, f8, f9, f10, f11, f12⟩ := HD.out)
        | (go_at_call 8; (with_reducible refine (aw _ HB.out).mono ?_); rintro e w2 ⟨rfl, hb⟩; replace HC := Lib.hid (HC.out.keep hb); replace HD := Lib.hid (HD.out.keep hb); replace HB := Lib.hid (bthen HB.out hb); clear hb; clear e0 e1 e2 e3 e4 e5 e6 e7 e8 e9 e10 e11 e12 f0 f1 f2 f3 f4 f5 f6 f7 f8 f9 f10 f11 f12; obtain ⟨e0, e1, e2, e3, e4, e5, e6, e7, e8, e9, e10, e11, e12⟩ := HC.out; obtain ⟨f0, f1, f2, f3, f4, f5, f6, f7, f8, f9, f10, f11, f12⟩ := HD.out))
    go_ret
    exact ⟨rfl, HB.out⟩
  cases v3
  · go_wp2_with (first
        | (go_at_call 7; (with_reducible refine (ks _).mono ?_); rintro e w2 ⟨rfl, hb⟩; replace HC := Lib.hid (HC.out.keep hb); replace HD := Lib.hid (HD.out.keep hb); replace HB := Lib.hid (bthen HB.out hb); clear hb; clear e0 e1 e2 e3 e4 e5 e6 e7 e8 e9 e10 e11 e12 f0 f1 f2 f3 f4 f5 f6 f7 f8 f9 f10 f11 f12; obtain ⟨e0, e1, e2, e3, e4, e5, e6, e7, e8, e9, e10, e11, e12⟩ := HC.out; obtain ⟨f0, f1, f2, f3, f4, f5, f6, f7, f8, f9, f10, f11, f12⟩ := HD.out)
        | (go_at_call 7; (with_reducible refine (kt _).mono ?_); rintro e w2 ⟨rfl, hb⟩; replace HC := Lib.hid (HC.out.keep hb); replace HD := Lib.hid (HD.out.keep hb); replace HB := Lib.hid (bthen HB.out hb); clear hb; clear e0 e1 e2 e3 e4 e5 e6 e7 e8 e9 e10 e11 e12 f0 f1 f2 f3 f4 f5 f6 f7 f8 f9 f10 f11 f12; obtain ⟨e0, e1, e2, e3, e4, e5, e6, e7, e8, e9, e10, e11, e12⟩ := HC.out; obtain ⟨f0, f1, f2, f3, f4, f5, f6, f7, f8, f9, f10, f11, f12⟩ := HD.out)
        | (go_at_call 11; (with_reducible refine (k3 _ HB.out).mono ?_); rintro e w2 ⟨rfl, hb⟩; replace HC := Lib.hid (HC.out.keep hb); replace HD := Lib.hid (HD.out.keep hb); replace HB := Lib.hid (bthen HB.out hb); clear hb; clear e0 e1 e2 e3 e4 e5 e6 e7 e8 e9 e10 e11 e12 f0 f1 f2 f3 f4 f5 f6 f7 f8 f9 f10 f11 f12; obtain ⟨e0, e1, e2, e3, e4, e5, e6, e7, e8, e9, e10, e11, e12⟩ := HC.out; obtain ⟨f0, f1, f2, f3, f4, f5, f6, f7, f8, f9, f10, f11, f12⟩ := HD.out)
        | (go_at_call 11; (with_reducible refine (k5 _ HB.out).mono ?_); rintro e w2 ⟨rfl, hb⟩; replace HC := Lib.hid (HC.out.keep hb); replace HD := Lib.hid (HD.out.keep hb); replace HB := Lib.hid (bthen HB.out hb); clear hb; clear e0 e1 e2 e3 e4 e5 e6 e7 e8 e9 e10 e11 e12 f0 f1 f2 f3 f4 f5 f6 f7 f8 f9 f10 f11 f12; obtain ⟨e0, e1, e2, e3, e4, e5, e6, e7, e8, e9, e10, e11, e12⟩ := HC.out; obtain ⟨f0, f1, f2, f3, f4, f5, f6, f7, f8, f9, f10, f11, f12⟩ := HD.out)
        | (go_at_call 8; (with_reducible refine (aw _ HB.out).mono ?_); rintro e w2 ⟨rfl, hb⟩; replace HC := Lib.hid (HC.out.keep hb); replace HD := Lib.hid (HD.out.keep hb); replace HB := Lib.hid (bthen HB.out hb); clear hb; clear e0 e1 e2 e3 e4 e5 e6 e7 e8 e9 e10 e11 e12 f0 f1 f2 f3 f4 f5 f6 f7 f8 f9 f10 f11 f12; obtain ⟨e0, e1, e2, e3, e4, e5, e6, e7, e8, e9, e10, e11, e12⟩ := HC.out; obtain ⟨f0, f1, f2, f3, f4, f5, f6, f7, f8, f9, f10, f11, f12⟩ := HD.out))
    go_ret
    exact ⟨rfl, HB.out⟩
  have hright := HR2.out rfl
  have hright3 := HR3.out rfl
  have hsum := HSUM.out rfl rfl
  rw [HAD.out] at hsum
  have HSM := Lib.hid hsum
  have HLN : Hid (dln = ln) := Lib.hid (by
    have h1 := hright.2.2.2.2.1
    have h2 := hright3.2.2.2.2.1
    rw [HL2.out.1] at h1
    rw [HL3.out.1] at h2
    omega)
  have HFN : Hid (dfn = fn) := Lib.hid (by
    have h1 := hright.2.2.2.2.2
    have h2 := hright3.2.2.2.2.2
    rw [HF2.out.1] at h1
    rw [HF3.out.1] at h2
    exact Int.ofNat.inj (h2.trans h1.symm))
  obtain rfl := HLN.out
  obtain rfl := HFN.out
  obtain ⟨_, hl12, hf70⟩ := HSH.out rfl
  clear hright hright3 hsum HSUM HSH HR2 HR3 HLN HFN
  go_upto_region 3 with (first
    | (go_at_call 7; (with_reducible refine (ks _).mono ?_); rintro e w2 ⟨rfl, hb⟩; replace HC := Lib.hid (HC.out.keep hb); replace HD := Lib.hid (HD.out.keep hb); replace HB := Lib.hid (bthen HB.out hb); clear hb; clear e0 e1 e2 e3 e4 e5 e6 e7 e8 e9 e10 e11 e12 f0 f1 f2 f3 f4 f5 f6 f7 f8 f9 f10 f11 f12; obtain ⟨e0, e1, e2, e3, e4, e5, e6, e7, e8, e9, e10, e11, e12⟩ := HC.out; obtain ⟨f0, f1, f2, f3, f4, f5, f6, f7, f8, f9, f10, f11, f12⟩ := HD.out)
    | (go_at_call 7; (with_reducible refine (kt _).mono ?_); rintro e w2 ⟨rfl, hb⟩; replace HC := Lib.hid (HC.out.keep hb); replace HD := Lib.hid (HD.out.keep hb); replace HB := Lib.hid (bthen HB.out hb); clear hb; clear e0 e1 e2 e3 e4 e5 e6 e7 e8 e9 e10 e11 e12 f0 f1 f2 f3 f4 f5 f6 f7 f8 f9 f10 f11 f12; obtain ⟨e0, e1, e2, e3, e4, e5, e6, e7, e8, e9, e10, e11, e12⟩ := HC.out; obtain ⟨f0, f1, f2, f3, f4, f5, f6, f7, f8, f9, f10, f11, f12⟩ := HD.out)
    | (go_at_call 11; (with_reducible refine (k3 _ HB.out).mono ?_); rintro e w2 ⟨rfl, hb⟩; replace HC := Lib.hid (HC.out.keep hb); replace HD := Lib.hid (HD.out.keep hb); replace HB := Lib.hid (bthen HB.out hb); clear hb; clear e0 e1 e2 e3 e4 e5 e6 e7 e8 e9 e10 e11 e12 f0 f1 f2 f3 f4 f5 f6 f7 f8 f9 f10 f11 f12; obtain ⟨e0, e1, e2, e3, e4, e5, e6, e7, e8, e9, e10, e11, e12⟩ := HC.out; obtain ⟨f0, f1, f2, f3, f4, f5, f6, f7, f8, f9, f10, f11, f12⟩ := HD.out)
    | (go_at_call 11; (with_reducible refine (k5 _ HB.out).mono ?_); rintro e w2 ⟨rfl, hb⟩; replace HC := Lib.hid (HC.out.keep hb); replace HD := Lib.hid (HD.out.keep hb); replace HB := Lib.hid (bthen HB.out hb); clear hb; clear e0 e1 e2 e3 e4 e5 e6 e7 e8 e9 e10 e11 e12 f0 f1 f2 f3 f4 f5 f6 f7 f8 f9 f10 f11 f12; obtain ⟨e0, e1, e2, e3, e4, e5, e6, e7, e8, e9, e10, e11, e12⟩ := HC.out; obtain ⟨f0, f1, f2, f3, f4, f5, f6, f7, f8, f9, f10, f11, f12⟩ := HD.out))
  clear ks kt k3 k5
  obtain ⟨w3, hw3⟩ : ∃ w3, w2 = w3 := ⟨_, rfl⟩
  obtain ⟨B3, hB3⟩ : ∃ B, w2.heap.size = B := ⟨_, rfl⟩
  refine wp_loose [(55, []), (56, [55]), (57, [56]), (58, []), (59, [58]), (60, [59]), (61, [57, 60]), (62, []), (63, [62]), (64, [63]), (65, []), (66, [65]), (67, [66]), (68, [64, 67]), (69, [61, 68]), (5, [])]
    (JSu3 g h w2.heap.size q0 q1 q2 q3 p0 p1 p2 p3 z1 z2) (fun d => false) (by kernel_rfl) (by kernel_rfl) (fun _ _ _ _ h hb => h.keep hb) ?_ ?_
  · refine opsrun_cons ?_ (opsrun_cons ?_ (opsrun_cons ?_ (opsrun_cons ?_ (opsrun_cons ?_ (opsrun_cons ?_ (opsrun_cons ?_ (opsrun_cons ?_ (opsrun_cons ?_ (opsrun_cons ?_ (opsrun_cons ?_ (opsrun_cons ?_ (opsrun_cons ?_ (opsrun_cons ?_ (opsrun_cons ?_ (opsrun_cons ?_ opsrun_nil)))))))))))))))
    all_goals
      refine OpRuns.any ?_
      intro Q0 σ W' K hb hn hK
      simp only [fill, List.map, Act.put, List.setIfInBounds_toArray, List.set_cons_zero, List.set_cons_succ] at hK ⊢
    · clear hn
      go_simp
      exact hK _ _ rfl (Below.refl _ _) (fun h => absurd h (by decide))
    · have h55 : σ 55 = _ := hn 55 (by decide)
      clear hn
      simp only [h55] at hK
      go_simp
      exact hK _ _ rfl (Below.refl _ _) (fun h => absurd h (by decide))
    · have h56 : σ 56 = _ := hn 56 (by decide)
      clear hn
      simp only [h56] at hK
      have e7' := bkeep hb e7
      have e8' := bkeep hb e8
      clear e7 e8
      go_simp
      exact hK _ _ rfl (Below.refl _ _) (fun h => absurd h (by decide))
    · clear hn
      go_simp
      exact hK _ _ rfl (Below.refl _ _) (fun h => absurd h (by decide))
    · have h58 : σ 58 = _ := hn 58 (by decide)
      clear hn
      simp only [h58] at hK
      go_simp
      exact hK _ _ rfl (Below.refl _ _) (fun h => absurd h (by decide))
    · have h59 : σ 59 = _ := hn 59 (by decide)
      clear hn
      simp only [h59] at hK
      have f7' := bkeep hb f7
      have f8' := bkeep hb f8
      clear f7 f8
      go_simp
      exact hK _ _ rfl (Below.refl _ _) (fun h => absurd h (by decide))
    · have h57 : σ 57 = _ := hn 57 (by decide)
      have h60 : σ 60 = _ := hn 60 (by decide)
      clear hn
      simp only [h57, h60] at hK
      go_simp
      go_at_call 20
      refine (ka _).mono ?_
      rintro e w1 ⟨rfl, hb1⟩
      exact hK _ _ rfl hb1 (fun h => absurd h (by decide))
    · clear hn
      go_simp
      exact hK _ _ rfl (Below.refl _ _) (fun h => absurd h (by decide))
    · have h62 : σ 62 = _ := hn 62 (by decide)
      clear hn
      simp only [h62] at hK
      go_simp
      exact hK _ _ rfl (Below.refl _ _) (fun h => absurd h (by decide))
    · have h63 : σ 63 = _ := hn 63 (by decide)
      clear hn
      simp only [h63] at hK
      have e9' := bkeep hb e9
      have e10' := bkeep hb e10
      clear e9 e10
      go_simp
      exact hK _ _ rfl (Below.refl _ _) (fun h => absurd h (by decide))
    · clear hn
      go_simp
      exact hK _ _ rfl (Below.refl _ _) (fun h => absurd h (by decide))
    · have h65 : σ 65 = _ := hn 65 (by decide)
      clear hn
      simp only [h65] at hK
      go_simp
      exact hK _ _ rfl (Below.refl _ _) (fun h => absurd h (by decide))
    · have h66 : σ 66 = _ := hn 66 (by decide)
      clear hn
      simp only [h66] at hK
      have f9' := bkeep hb f9
      have f10' := bkeep hb f10
      clear f9 f10
      go_simp
      exact hK _ _ rfl (Below.refl _ _) (fun h => absurd h (by decide))
    · have h64 : σ 64 = _ := hn 64 (by decide)
      have h67 : σ 67 = _ := hn 67 (by decide)
      clear hn
      simp only [h64, h67] at hK
      go_simp
      go_at_call 20
      refine (kb _).mono ?_
      rintro e w1 ⟨rfl, hb1⟩
      exact hK _ _ rfl hb1 (fun h => absurd h (by decide))
    · have h61 : σ 61 = _ := hn 61 (by decide)
      have h68 : σ 68 = _ := hn 68 (by decide)
      clear hn
      simp only [h61, h68] at hK
      go_simp
      exact hK _ _ rfl (Below.refl _ _) (fun h => absurd h (by decide))
    · clear hn
      have hsz := hb.size
      clear hb
      go_simp
      exact hK _ _ ⟨W'.heap.size, hsz, rfl, Quo.new _ _⟩ ((Below.refl _ _).alloc (Nat.le_refl _) _) (fun h => absurd h (by decide))
  · intro σ W' hb hR' hF
    have h69 : σ 69 = _ := hR' 69 (by decide)
    obtain ⟨gf, hgf, h5, hquo⟩ : ∃ q : Nat, w2.heap.size ≤ q ∧ σ 5 = .pointer (some ⟨q, 0, none⟩) ∧ Quo W' q (.int .u64 0) (.int .u64 0) (.int .u64 0) (.int .u64 0) := hR' 5 (by decide)
    replace HC := Lib.hid (HC.out.keep hb); replace HD := Lib.hid (HD.out.keep hb)
    have HB0 := HB.out
    have HGF := Lib.hid (Nat.le_trans HB.out.size hgf)
    replace HB := Lib.hid (bthen HB.out hb)
    have hgb : g < w2.heap.size := World.block_lt_of_cell? w2 _ e0
    have hhb : h < w2.heap.size := World.block_lt_of_cell? w2 _ f0
    have hng : g ≠ gf := by omega
    have hnh : h ≠ gf := by omega
    clear e0 e1 e2 e3 e4 e5 e6 e7 e8 e9 e10 e11 e12 f0 f1 f2 f3 f4 f5 f6 f7 f8 f9 f10 f11 f12
    clear hR' hF hb hgf hgb hhb hw3 hB3 ka kb HB0
    simp only [fill, List.map, Act.put, List.setIfInBounds_toArray, List.set_cons_zero, List.set_cons_succ, List.length_cons, List.length_nil, List.drop_succ_cons, List.drop_zero, Nat.reduceAdd, h69, h5]
    clear h69 h5
    have HQ := Lib.hid hquo
    obtain ⟨⟨u0, u1, u2, u3⟩, u4, u5, u6, u7⟩ := hquo
    go_upto_region 4 with fail
    refine wp_gen (fun W => Below w.heap.size w W ∧ CaseB W g k bl fo qu gr a n c pl ((q0, q1), (q2, q3)) la dln lc fa dfn fc ∧ CaseB W h dk dbl dfo dqu dgr da dn dc dpl ((p0, p1), (p2, p3)) dla dln dlc dfa dfn dfc ∧ Quo W gf (.int .u64 (enc z1.a)) (.int .u64 (enc z1.b)) (.int .u64 (enc z2.a)) (.int .u64 (enc z2.b))) ⟨(((HB.out.setCell HGF.out _).setCell HGF.out _).setCell HGF.out _).setCell HGF.out _, ((((HC.out.far hng _ _).far hng _ _).far hng _ _).far hng _ _), ((((HD.out.far hnh _ _).far hnh _ _).far hnh _ _).far hnh _ _), HQ.out.put _ _ _ _⟩ ?_
    clear u0 u1 u2 u3 u4 u5 u6 u7 HC HD HB HQ HGF
    rintro w1 ⟨hB, hC, hD, hquo⟩
    have HB := Lib.hid hB; have HC := Lib.hid hC; have HD := Lib.hid hD; have HQ := Lib.hid hquo
    clear hB hC hD hquo hng hnh
    go_upto_region 6 with fail
    obtain ⟨i0, hi, hz0, hz1, hz2⟩ := info_parts infoD
    go_loopw [6, 7] (JLyRel w1 layers layd dln) (fun _ i _ => dln - (intOf i).toNat)
    case atStart => exact ⟨0, Nat.zero_le _, rfl, MadeD.start _⟩
    case round =>
      obtain ⟨j, hj, rfl, hM⟩ := hrel
      have hsl := sumQs_len layers layd j
      obtain ⟨ad, cp, hv0⟩ := own_form hM.1
      rw [hsl] at hv0
      subst hv0
      by_cases hlt : j < dln
      · have hltI : (j : Int) < (dln : Int) := by omega
        have hj0 : (0 : Int) ≤ (j : Int) := by omega
        obtain ⟨e0, e1, e2, e3, e4, e5, e6, e7, e8, e9, e10, e11, e12⟩ := HC.out.keep hM.2
        obtain ⟨f0, f1, f2, f3, f4, f5, f6, f7, f8, f9, f10, f11, f12⟩ := HD.out.keep hM.2
        obtain ⟨b1, o1, rfl, x0c, x1c, x2c, x3c⟩ := (HL2.out.keep (bthen HB.out hM.2)).2.2 j hlt
        obtain ⟨b2, o2, rfl, y0c, y1c, y2c, y3c⟩ := (HL3.out.keep (bthen HB.out hM.2)).2.2 j hlt
        have r1 := getD_us HLU.out.1 (show j < layers.length by rw [HL2.out.1]; exact hlt)
        have r2 := getD_us HLU.out.2 (show j < layd.length by rw [HL3.out.1]; exact hlt)
        obtain ⟨z3, hz3⟩ : ∃ z, toQ (layers.getD j zeroQ).1 + toQ (layd.getD j zeroQ).1 = z := ⟨_, rfl⟩
        obtain ⟨z4, hz4⟩ : ∃ z, toQ (layers.getD j zeroQ).2 + toQ (layd.getD j zeroQ).2 = z := ⟨_, rfl⟩
        have ka := fun W => radd_q _ _ _ _ _ _ z3 (rep_raw r1.1.1 r1.1.2) (rep_raw r2.1.1 r2.1.2) hz3 W
        have kb := fun W => radd_q _ _ _ _ _ _ z4 (rep_raw r1.2.1 r1.2.2) (rep_raw r2.2.1 r2.2.2) hz4 W
        have HS : Hid (sumQs layers layd (j + 1) = sumQs layers layd j ++ [((enc z3.a, enc z3.b), (enc z4.a, enc z4.b))]) := Lib.hid (by rw [sumQs_snoc, ← hz3, ← hz4]; rfl)
        have HM := Lib.hid hM
        clear hM r1 r2 hz3 hz4 hlt
        generalize (layers.getD j zeroQ).1.1 = x0 at *
        generalize (layers.getD j zeroQ).1.2 = x1 at *
        generalize (layers.getD j zeroQ).2.1 = x2 at *
        generalize (layers.getD j zeroQ).2.2 = x3 at *
        generalize (layd.getD j zeroQ).1.1 = y0 at *
        generalize (layd.getD j zeroQ).1.2 = y1 at *
        generalize (layd.getD j zeroQ).2.1 = y2 at *
        generalize (layd.getD j zeroQ).2.2 = y3 at *
        generalize sumQs layers layd j = xs at *
        go_upto_region 8 with fail
        clear e0 e1 e2 e3 e4 e5 e6 e7 e8 e9 e10 e12 f0 f1 f2 f3 f4 f5 f6 f7 f8 f9 f10 f12
        refine wp_loose [(77, []), (78, []), (79, [78]), (80, []), (81, [79, 80]), (82, [81]), (83, [82]), (84, []), (85, [84]), (86, []), (87, [85, 86]), (88, [87]), (89, [88]), (90, [83, 89]), (91, []), (92, [91]), (93, []), (94, [92, 93]), (95, [94]), (96, [95]), (97, []), (98, [97]), (99, []), (100, [98, 99]), (101, [100]), (102, [101]), (103, [96, 102]), (104, [90, 103]), (105, [104])]
          (JSu8 g h ad j cp b1 o1 dln lc b2 o2 dln dlc x0 x1 x2 x3 y0 y1 y2 y3 z3 z4) (fun d => false) (by kernel_rfl) (by kernel_rfl) (fun _ _ _ _ h hb => h.keep hb) ?_ ?_
        · refine opsrun_cons ?_ (opsrun_cons ?_ (opsrun_cons ?_ (opsrun_cons ?_ (opsrun_cons ?_ (opsrun_cons ?_ (opsrun_cons ?_ (opsrun_cons ?_ (opsrun_cons ?_ (opsrun_cons ?_ (opsrun_cons ?_ (opsrun_cons ?_ (opsrun_cons ?_ (opsrun_cons ?_ (opsrun_cons ?_ (opsrun_cons ?_ (opsrun_cons ?_ (opsrun_cons ?_ (opsrun_cons ?_ (opsrun_cons ?_ (opsrun_cons ?_ (opsrun_cons ?_ (opsrun_cons ?_ (opsrun_cons ?_ (opsrun_cons ?_ (opsrun_cons ?_ (opsrun_cons ?_ (opsrun_cons ?_ (opsrun_cons ?_ opsrun_nil))))))))))))))))))))))))))))
          all_goals
            refine OpRuns.any ?_
            intro Q0 σ W' K hb hn hK
            simp only [fill, List.map, Act.put, List.setIfInBounds_toArray, List.set_cons_zero, List.set_cons_succ] at hK ⊢
          · clear hn
            go_simp
            exact hK _ _ rfl (Below.refl _ _) (fun h => absurd h (by decide))
          · clear hn
            go_simp
            exact hK _ _ rfl (Below.refl _ _) (fun h => absurd h (by decide))
          · have h78 : σ 78 = _ := hn 78 (by decide)
            clear hn
            simp only [h78] at hK
            have e11' := bkeep hb e11
            clear e11
            go_simp
            exact hK _ _ rfl (Below.refl _ _) (fun h => absurd h (by decide))
          · clear hn
            go_simp
            exact hK _ _ rfl (Below.refl _ _) (fun h => absurd h (by decide))
          · have h79 : σ 79 = _ := hn 79 (by decide)
            have h80 : σ 80 = _ := hn 80 (by decide)
            clear hn
            simp only [h79, h80] at hK
            go_simp
            exact hK _ _ rfl (Below.refl _ _) (fun h => absurd h (by decide))
          · have h81 : σ 81 = _ := hn 81 (by decide)
            clear hn
            simp only [h81] at hK
            go_simp
            exact hK _ _ rfl (Below.refl _ _) (fun h => absurd h (by decide))
          · have h82 : σ 82 = _ := hn 82 (by decide)
            clear hn
            simp only [h82] at hK
            have x0c' := bkeep hb x0c
            have x1c' := bkeep hb x1c
            clear x0c x1c
            go_simp
            exact hK _ _ rfl (Below.refl _ _) (fun h => absurd h (by decide))
          · clear hn
            go_simp
            exact hK _ _ rfl (Below.refl _ _) (fun h => absurd h (by decide))
          · have h84 : σ 84 = _ := hn 84 (by decide)
            clear hn
            simp only [h84] at hK
            have f11' := bkeep hb f11
            clear f11
            go_simp
            exact hK _ _ rfl (Below.refl _ _) (fun h => absurd h (by decide))
          · clear hn
            go_simp
            exact hK _ _ rfl (Below.refl _ _) (fun h => absurd h (by decide))
          · have h85 : σ 85 = _ := hn 85 (by decide)
            have h86 : σ 86 = _ := hn 86 (by decide)
            clear hn
            simp only [h85, h86] at hK
            go_simp
            exact hK _ _ rfl (Below.refl _ _) (fun h => absurd h (by decide))
          · have h87 : σ 87 = _ := hn 87 (by decide)
            clear hn
            simp only [h87] at hK
            go_simp
            exact hK _ _ rfl (Below.refl _ _) (fun h => absurd h (by decide))
          · have h88 : σ 88 = _ := hn 88 (by decide)
            clear hn
            simp only [h88] at hK
            have y0c' := bkeep hb y0c
            have y1c' := bkeep hb y1c
            clear y0c y1c
            go_simp
            exact hK _ _ rfl (Below.refl _ _) (fun h => absurd h (by decide))
          · have h83 : σ 83 = _ := hn 83 (by decide)
            have h89 : σ 89 = _ := hn 89 (by decide)
            clear hn
            simp only [h83, h89] at hK
            go_simp
            go_at_call 20
            refine (ka _).mono ?_
            rintro e w1 ⟨rfl, hb1⟩
            exact hK _ _ rfl hb1 (fun h => absurd h (by decide))
          · clear hn
            go_simp
            exact hK _ _ rfl (Below.refl _ _) (fun h => absurd h (by decide))
          · have h91 : σ 91 = _ := hn 91 (by decide)
            clear hn
            simp only [h91] at hK
            have e11' := bkeep hb e11
            clear e11
            go_simp
            exact hK _ _ rfl (Below.refl _ _) (fun h => absurd h (by decide))
          · clear hn
            go_simp
            exact hK _ _ rfl (Below.refl _ _) (fun h => absurd h (by decide))
          · have h92 : σ 92 = _ := hn 92 (by decide)
            have h93 : σ 93 = _ := hn 93 (by decide)
            clear hn
            simp only [h92, h93] at hK
            go_simp
            exact hK _ _ rfl (Below.refl _ _) (fun h => absurd h (by decide))
          · have h94 : σ 94 = _ := hn 94 (by decide)
            clear hn
            simp only [h94] at hK
            go_simp
            exact hK _ _ rfl (Below.refl _ _) (fun h => absurd h (by decide))
          · have h95 : σ 95 = _ := hn 95 (by decide)
            clear hn
            simp only [h95] at hK
            have x2c' := bkeep hb x2c
            have x3c' := bkeep hb x3c
            clear x2c x3c
            go_simp
            exact hK _ _ rfl (Below.refl _ _) (fun h => absurd h (by decide))
          · clear hn
            go_simp
            exact hK _ _ rfl (Below.refl _ _) (fun h => absurd h (by decide))
          · have h97 : σ 97 = _ := hn 97 (by decide)
            clear hn
            simp only [h97] at hK
            have f11' := bkeep hb f11
            clear f11
            go_simp
            exact hK _ _ rfl (Below.refl _ _) (fun h => absurd h (by decide))
          · clear hn
            go_simp
            exact hK _ _ rfl (Below.refl _ _) (fun h => absurd h (by decide))
          · have h98 : σ 98 = _ := hn 98 (by decide)
            have h99 : σ 99 = _ := hn 99 (by decide)
            clear hn
            simp only [h98, h99] at hK
            go_simp
            exact hK _ _ rfl (Below.refl _ _) (fun h => absurd h (by decide))
          · have h100 : σ 100 = _ := hn 100 (by decide)
            clear hn
            simp only [h100] at hK
            go_simp
            exact hK _ _ rfl (Below.refl _ _) (fun h => absurd h (by decide))
          · have h101 : σ 101 = _ := hn 101 (by decide)
            clear hn
            simp only [h101] at hK
            have y2c' := bkeep hb y2c
            have y3c' := bkeep hb y3c
            clear y2c y3c
            go_simp
            exact hK _ _ rfl (Below.refl _ _) (fun h => absurd h (by decide))
          · have h96 : σ 96 = _ := hn 96 (by decide)
            have h102 : σ 102 = _ := hn 102 (by decide)
            clear hn
            simp only [h96, h102] at hK
            go_simp
            go_at_call 20
            refine (kb _).mono ?_
            rintro e w1 ⟨rfl, hb1⟩
            exact hK _ _ rfl hb1 (fun h => absurd h (by decide))
          · have h90 : σ 90 = _ := hn 90 (by decide)
            have h103 : σ 103 = _ := hn 103 (by decide)
            clear hn
            simp only [h90, h103] at hK
            go_simp
            exact hK _ _ rfl (Below.refl _ _) (fun h => absurd h (by decide))
          · have h104 : σ 104 = _ := hn 104 (by decide)
            clear hn
            simp only [h104] at hK
            go_simp
            exact hK _ _ ⟨W'.heap.size, by simp, rfl, by simp [go_sem], by simp [go_sem], by simp [go_sem], by simp [go_sem]⟩ ((Below.refl _ _).alloc (Nat.le_refl _) _) (fun h => absurd h (by decide))
        · intro σ W' hb hR' hF
          have h77 : σ 77 = _ := hR' 77 (by decide)
          obtain ⟨q, hq, h105, s0, s1, s2, s3⟩ : ∃ q : Nat, q < W'.heap.size ∧ σ 105 = .slice (some ⟨q, 0, none⟩) 1 1 ∧ W'.cell? ⟨q, 0, none⟩ = some (.int .u64 (enc z3.a)) ∧ W'.cell? ⟨q, 1, none⟩ = some (.int .u64 (enc z3.b)) ∧ W'.cell? ⟨q, 2, none⟩ = some (.int .u64 (enc z4.a)) ∧ W'.cell? ⟨q, 3, none⟩ = some (.int .u64 (enc z4.b)) := hR' 105 (by decide)
          have hown := (HM.out.keep hb).1
          have HM' := Lib.hid (HM.out.keep hb)
          have hsz := HM'.out.2.size
          clear hR' hF hb e11 f11 x0c x1c x2c x3c y0c y1c y2c y3c ka kb HM
          simp only [fill, List.map, Act.put, List.setIfInBounds_toArray, List.set_cons_zero, List.set_cons_succ, List.length_cons, List.length_nil, List.drop_succ_cons, List.drop_zero, Nat.reduceAdd, h77, h105]
          clear h77 h105
          generalize enc z3.a = s4 at *
          generalize enc z3.b = s5 at *
          generalize enc z4.a = s6 at *
          generalize enc z4.b = s7 at *
          rw [hsl] at hown
          go_upto_region 7 with (at_builtin; refine wpList_append_own _ rfl _ _ 29 rfl w1.heap.size 28 i0 (.agg #[.int .u64 0, .int .u64 0, .int .u64 0, .int .u64 0]) 4 32 Try.underlying29 hi hz0 hz1 hz2 rfl (by decide) _ _ _ rfl hown ⟨q, 0, none⟩ 1 1 [.int .u64 s4, .int .u64 s5, .int .u64 s6, .int .u64 s7] rfl rfl ?c1 ?c2 ?c3 ?c4 ?c5 ?_)
          case c1 => first | exact quad_src s0 s1 s2 s3 | (intro j u hu; have := quad_src s0 s1 s2 s3 j u hu; simpa [go_sem] using this)
          case c2 => first | exact ⟨rfl, rfl, rfl, rfl⟩ | (intro u hu; simp at hu; rcases hu with rfl | rfl | rfl | rfl <;> rfl)
          case c3 => unfold maxLen; omega
          case c4 => omega
          case c5 => exact hsz
          · intro v' w2 hown' hgrow _
            have HR : Hid (MadeD w1 w2 v' (sumQs layers layd (j + 1))) := Lib.hid (by
              rw [HS.out]
              refine HM'.out.step ?_ hgrow
              rw [hsl]
              exact hown')
            clear hown hown' hgrow HM' s0 s1 s2 s3 hq HS
            go_wp2_with fail
            go_roundw
            case rel => exact ⟨j + 1, by omega, by go_num, HR.out⟩
            case measure => simp [intOf]; omega
      · obtain rfl : j = dln := by omega
        have HBM := Lib.hid (bthen HB.out hM.2)
        have HC2 := Lib.hid (HC.out.keep hM.2); have HD2 := Lib.hid (HD.out.keep hM.2); have HQ2 := Lib.hid (HQ.out.keep hM.2)
        obtain ⟨_, _, _, _, _, _, _, _, _, _, _, e11, _⟩ := HC2.out
        have HM := Lib.hid hM
        clear hM HC HD HQ HB
        go_upto_region 11 with fail
        clear e11
        refine wp_gen (fun W => Below w.heap.size w W ∧ W.ownsRow w1.heap.size 28 4 (.slice ad j cp) j (flatD (sumQs layers layd j)) ∧ CaseB W g k bl fo qu gr a n c pl ((q0, q1), (q2, q3)) la j lc fa dfn fc ∧ CaseB W h dk dbl dfo dqu dgr da dn dc dpl ((p0, p1), (p2, p3)) dla j dlc dfa dfn dfc ∧ Quo W gf (.int .u64 (enc z1.a)) (.int .u64 (enc z1.b)) (.int .u64 (enc z2.a)) (.int .u64 (enc z2.b))) ⟨HBM.out, by have := HM.out.1; rwa [hsl] at this, HC2.out, HD2.out, HQ2.out⟩ ?_
        clear HBM HC2 HD2 HQ2 HM
        rintro w5 ⟨hB, hrow, hC, hD, hquo⟩
        have HB := Lib.hid hB; have HC := Lib.hid hC; have HD := Lib.hid hD; have HQ := Lib.hid hquo; have HROW := Lib.hid hrow
        clear hB hC hD hquo hrow hi hz0 hz1 hz2 i0
        obtain ⟨i0, hi, hz0, hz1, hz2⟩ := info_parts infoQf
        go_loopw [8, 9] (JFiRel w5 fin find dfn) (fun _ i _ => dfn - (intOf i).toNat)
        case atStart => exact ⟨0, Nat.zero_le _, rfl, MadeQ.start _⟩
        case round =>
          obtain ⟨t, ht, rfl, hM⟩ := hrel
          have hsq := sumQ_len fin find t
          obtain ⟨ad2, cp2, hv0⟩ := own_form hM.1
          rw [hsq] at hv0
          subst hv0
          by_cases hlt : t < dfn
          · have hltI : (t : Int) < (dfn : Int) := by omega
            have ht0 : (0 : Int) ≤ (t : Int) := by omega
            obtain ⟨e0, e1, e2, e3, e4, e5, e6, e7, e8, e9, e10, e11, e12⟩ := HC.out.keep hM.2
            obtain ⟨f0, f1, f2, f3, f4, f5, f6, f7, f8, f9, f10, f11, f12⟩ := HD.out.keep hM.2
            obtain ⟨b1, o1, rfl, x0c, x1c⟩ := (HF2.out.keep (bthen HB.out hM.2)).2.2 t hlt
            obtain ⟨b2, o2, rfl, y0c, y1c⟩ := (HF3.out.keep (bthen HB.out hM.2)).2.2 t hlt
            have r1 := getD_up HFU.out.1 (show t < fin.length by rw [HF2.out.1]; exact hlt)
            have r2 := getD_up HFU.out.2 (show t < find.length by rw [HF3.out.1]; exact hlt)
            obtain ⟨z3, hz3⟩ : ∃ z, toQ (fin.getD t (0, 0)) + toQ (find.getD t (0, 0)) = z := ⟨_, rfl⟩
            have ka := fun W => radd_q _ _ _ _ _ _ z3 (rep_raw r1.1 r1.2) (rep_raw r2.1 r2.2) hz3 W
            have HS : Hid (sumQ fin find (t + 1) = sumQ fin find t ++ [(enc z3.a, enc z3.b)]) := Lib.hid (by rw [sumQ_snoc, ← hz3]; rfl)
            have HM := Lib.hid hM
            clear hM r1 r2 hz3 hlt
            generalize (fin.getD t (0, 0)).1 = x0 at *
            generalize (fin.getD t (0, 0)).2 = x1 at *
            generalize (find.getD t (0, 0)).1 = y0 at *
            generalize (find.getD t (0, 0)).2 = y1 at *
            generalize sumQ fin find t = xs at *
            go_upto_region 13 with fail
            clear e0 e1 e2 e3 e4 e5 e6 e7 e8 e9 e10 e11 f0 f1 f2 f3 f4 f5 f6 f7 f8 f9 f10 f11
            refine wp_loose [(114, []), (115, []), (116, [115]), (117, []), (118, [116, 117]), (119, [118]), (120, []), (121, [120]), (122, []), (123, [121, 122]), (124, [123]), (125, [119, 124]), (126, [125])]
              (JSu13 g h ad2 t cp2 b1 o1 dfn fc b2 o2 dfn dfc x0 x1 y0 y1 z3) (fun d => false) (by kernel_rfl) (by kernel_rfl) (fun _ _ _ _ h hb => h.keep hb) ?_ ?_
            · refine opsrun_cons ?_ (opsrun_cons ?_ (opsrun_cons ?_ (opsrun_cons ?_ (opsrun_cons ?_ (opsrun_cons ?_ (opsrun_cons ?_ (opsrun_cons ?_ (opsrun_cons ?_ (opsrun_cons ?_ (opsrun_cons ?_ (opsrun_cons ?_ (opsrun_cons ?_ opsrun_nil))))))))))))
              all_goals
                refine OpRuns.any ?_
                intro Q0 σ W' K hb hn hK
                simp only [fill, List.map, Act.put, List.setIfInBounds_toArray, List.set_cons_zero, List.set_cons_succ] at hK ⊢
              · clear hn
                go_simp
                exact hK _ _ rfl (Below.refl _ _) (fun h => absurd h (by decide))
              · clear hn
                go_simp
                exact hK _ _ rfl (Below.refl _ _) (fun h => absurd h (by decide))
              · have h115 : σ 115 = _ := hn 115 (by decide)
                clear hn
                simp only [h115] at hK
                have e12' := bkeep hb e12
                clear e12
                go_simp
                exact hK _ _ rfl (Below.refl _ _) (fun h => absurd h (by decide))
              · clear hn
                go_simp
                exact hK _ _ rfl (Below.refl _ _) (fun h => absurd h (by decide))
              · have h116 : σ 116 = _ := hn 116 (by decide)
                have h117 : σ 117 = _ := hn 117 (by decide)
                clear hn
                simp only [h116, h117] at hK
                go_simp
                exact hK _ _ rfl (Below.refl _ _) (fun h => absurd h (by decide))
              · have h118 : σ 118 = _ := hn 118 (by decide)
                clear hn
                simp only [h118] at hK
                have x0c' := bkeep hb x0c
                have x1c' := bkeep hb x1c
                clear x0c x1c
                go_simp
                exact hK _ _ rfl (Below.refl _ _) (fun h => absurd h (by decide))
              · clear hn
                go_simp
                exact hK _ _ rfl (Below.refl _ _) (fun h => absurd h (by decide))
              · have h120 : σ 120 = _ := hn 120 (by decide)
                clear hn
                simp only [h120] at hK
                have f12' := bkeep hb f12
                clear f12
                go_simp
                exact hK _ _ rfl (Below.refl _ _) (fun h => absurd h (by decide))
              · clear hn
                go_simp
                exact hK _ _ rfl (Below.refl _ _) (fun h => absurd h (by decide))
              · have h121 : σ 121 = _ := hn 121 (by decide)
                have h122 : σ 122 = _ := hn 122 (by decide)
                clear hn
                simp only [h121, h122] at hK
                go_simp
                exact hK _ _ rfl (Below.refl _ _) (fun h => absurd h (by decide))
              · have h123 : σ 123 = _ := hn 123 (by decide)
                clear hn
                simp only [h123] at hK
                have y0c' := bkeep hb y0c
                have y1c' := bkeep hb y1c
                clear y0c y1c
                go_simp
                exact hK _ _ rfl (Below.refl _ _) (fun h => absurd h (by decide))
              · have h119 : σ 119 = _ := hn 119 (by decide)
                have h124 : σ 124 = _ := hn 124 (by decide)
                clear hn
                simp only [h119, h124] at hK
                go_simp
                go_at_call 20
                refine (ka _).mono ?_
                rintro e w1 ⟨rfl, hb1⟩
                exact hK _ _ rfl hb1 (fun h => absurd h (by decide))
              · have h125 : σ 125 = _ := hn 125 (by decide)
                clear hn
                simp only [h125] at hK
                go_simp
                exact hK _ _ ⟨W'.heap.size, by simp, rfl, by simp [go_sem], by simp [go_sem]⟩ ((Below.refl _ _).alloc (Nat.le_refl _) _) (fun h => absurd h (by decide))
            · intro σ W' hb hR' hF
              have h114 : σ 114 = _ := hR' 114 (by decide)
              obtain ⟨q, hq, h126, s0, s1⟩ : ∃ q : Nat, q < W'.heap.size ∧ σ 126 = .slice (some ⟨q, 0, none⟩) 1 1 ∧ W'.cell? ⟨q, 0, none⟩ = some (.int .u64 (enc z3.a)) ∧ W'.cell? ⟨q, 1, none⟩ = some (.int .u64 (enc z3.b)) := hR' 126 (by decide)
              have hown := (HM.out.keep hb).1
              have HM' := Lib.hid (HM.out.keep hb)
              have hsz := HM'.out.2.size
              clear hR' hF hb e12 f12 x0c x1c y0c y1c ka HM
              simp only [fill, List.map, Act.put, List.setIfInBounds_toArray, List.set_cons_zero, List.set_cons_succ, List.length_cons, List.length_nil, List.drop_succ_cons, List.drop_zero, Nat.reduceAdd, h114, h126]
              clear h114 h126
              generalize enc z3.a = s4 at *
              generalize enc z3.b = s5 at *
              rw [hsq] at hown
              go_upto_region 12 with (at_builtin; refine wpList_append_own _ rfl _ _ 24 rfl w5.heap.size 27 i0 (.agg #[.int .u64 0, .int .u64 0]) 2 16 Try.underlying24 hi hz0 hz1 hz2 rfl (by decide) _ _ _ rfl hown ⟨q, 0, none⟩ 1 1 [.int .u64 s4, .int .u64 s5] rfl rfl ?d1 ?d2 ?d3 ?d4 ?d5 ?_)
              case d1 => first | exact two_src s0 s1 | (intro j u hu; have := two_src s0 s1 j u hu; simpa [go_sem] using this)
              case d2 => first | exact ⟨rfl, rfl⟩ | (intro u hu; simp at hu; rcases hu with rfl | rfl <;> rfl)
              case d3 => unfold maxLen; omega
              case d4 => omega
              case d5 => exact hsz
              · intro v' w2 hown' hgrow _
                have HR : Hid (MadeQ w5 w2 v' (sumQ fin find (t + 1))) := Lib.hid (by
                  rw [HS.out]
                  refine ⟨?_, HM'.out.2.grown hgrow HM'.out.2.size (own_ge HM'.out.1)⟩
                  rw [List.length_append, flat_append, hsq]
                  exact hown')
                clear hown hown' hgrow HM' s0 s1 hq HS
                go_wp2_with fail
                go_roundw
                case rel => exact ⟨t + 1, by omega, by go_num, HR.out⟩
                case measure => simp [intOf]; omega
          · obtain rfl : t = dfn := by omega
            obtain ⟨ad3, cp3, hv3, hq3⟩ := hM.told
            rw [hsq] at hv3 hq3
            cases hv3
            have hrow := own_keep HROW.out hM.2
            have hqd : QuadsA wr ad j (sumQs layers layd j) := by
              have h0 := hrow
              have h1 : wr.ownsRow w1.heap.size 28 4 (.slice ad j cp) (sumQs layers layd j).length (flatD (sumQs layers layd j)) := by rw [hsl]; exact h0
              obtain ⟨a5, c5, e5, h5⟩ := own_quads h1
              rw [hsl] at e5 h5
              cases e5
              exact h5
            have kj := fun W (h : Below wr.heap.size wr W) => HJ.out W (bthen HB.out (bthen hM.2 h)) ((enc z1.a, enc z1.b), (enc z2.a, enc z2.b)) ⟨⟨enc_U _, enc_U _⟩, enc_U _, enc_U _⟩ ad j cp _ ad2 t cp2 _ (hqd.keep h) (sumQs_U _ _ _) (hq3.keep h) (sumQ_U _ _ _) (by
              have h0 := HSM.out
              rw [HL2.out.1, HF2.out.1] at h0
              exact h0)
            have HB5 := Lib.hid (bthen HB.out hM.2)
            have HB6 := Lib.hid (Below.refl wr.heap.size wr)
            obtain ⟨e0, e1, e2, e3, e4, e5, e6, e7, e8, e9, e10, e11, e12⟩ := HC.out.keep hM.2
            obtain ⟨⟨u0, u1, u2, u3⟩, _, _, _, _⟩ := HQ.out.keep hM.2
            have HCELLS := Lib.hid (And.intro (HC.out.keep hM.2) (HQ.out.keep hM.2))
            clear hM hrow hqd hq3 HROW HC HD HQ HB HSM HJ
            generalize enc z1.a = s4 at *
            generalize enc z1.b = s5 at *
            generalize enc z2.a = s6 at *
            generalize enc z2.b = s7 at *
            go_wp2_with (first
              | (go_at_call 8; (with_reducible refine (aw _ (bthen HB5.out HB6.out)).mono ?_); rintro e w8 ⟨rfl, hb⟩; clear e0 e1 e2 e3 e4 e5 e6 e7 e8 e9 e10 e11 e12 u0 u1 u2 u3; obtain ⟨e0, e1, e2, e3, e4, e5, e6, e7, e8, e9, e10, e11, e12⟩ := HCELLS.out.1.keep hb; obtain ⟨⟨u0, u1, u2, u3⟩, _, _, _, _⟩ := HCELLS.out.2.keep hb; replace HB6 := Lib.hid (bthen HB6.out hb); clear hb)
              | (go_at_call 11; (with_reducible refine (kj _ HB6.out).mono ?_); rintro e w9 ⟨rfl, hb⟩; replace HB6 := Lib.hid (bthen HB6.out hb); clear hb))
            go_ret
            exact ⟨rfl, bthen HB5.out HB6.out⟩
end Go.Proofs.Yteghnaocncmiaaa
