/-
  What root.InvertPairs comes to: contracts for the walk. (Written by gen_invq.py.)
-/
import Derived.Test.YtbhnbpagjmeffaaDoorInvert
import Derived.Test.YtbhnbpagjmeffaaDoorPairPow
import Derived.Test.YtbhnbpagjmeffaaDoorLoose
namespace Go.Proofs.YtbhnbpagjmeffaaDoor
open Go.RowKit Go.Sort Go.BigFrame
set_option linter.unusedVariables false

/-- The product of the first k pairs of a row. -/
def preq (zs : List (Int × Int)) : Nat → F2
  | 0 => 1
  | k + 1 => preq zs k * toQ (zs.getD k (0, 0))
def Nil0Q (zs : List (Int × Int)) : Prop := ∀ k, k < zs.length → toQ (zs.getD k (0, 0)) ≠ 0
theorem preq_ne {zs : List (Int × Int)} (h : Nil0Q zs) : ∀ k, k ≤ zs.length → preq zs k ≠ 0
  | 0, _ => F2.one_ne_zero
  | k + 1, hk => F2.mul_ne_zero (preq_ne h k (by omega)) (h k hk)
theorem preq_eq0 {zs : List (Int × Int)} (h : ¬ Nil0Q zs) : preq zs zs.length = 0 := by
  simp only [Nil0Q, Classical.not_forall] at h
  obtain ⟨j, hj, hz⟩ := h
  have hz0 : toQ (zs.getD j (0, 0)) = 0 := Classical.byContradiction hz
  have : ∀ k, j < k → k ≤ zs.length → preq zs k = 0 := by
    intro k
    induction k with
    | zero => intro h; omega
    | succ k ih =>
      intro h1 h2
      show preq zs k * toQ (zs.getD k (0, 0)) = 0
      by_cases e : j = k
      · subst e; rw [hz0, F2.mul_zero]
      · rw [ih (by omega) (by omega), F2.zero_mul]
  exact this _ hj (Nat.le_refl _)
theorem preq_back {zs : List (Int × Int)} (h : Nil0Q zs) (k : Nat) (hk : k < zs.length) : preq zs k * qinv (preq zs (k + 1)) = qinv (toQ (zs.getD k (0, 0))) ∧ qinv (preq zs (k + 1)) * toQ (zs.getD k (0, 0)) = qinv (preq zs k) := by
  have h1 := mul_qinv _ (preq_ne h (k + 1) hk)
  have e : preq zs (k + 1) = preq zs k * toQ (zs.getD k (0, 0)) := rfl
  rw [e] at h1 ⊢
  generalize qinv (preq zs k * toQ (zs.getD k (0, 0))) = y at *
  have b1 : toQ (zs.getD k (0, 0)) * (preq zs k * y) = 1 := by rw [← h1, F2.mul_left, F2.mul_assoc]
  have b2 : preq zs k * (y * toQ (zs.getD k (0, 0))) = 1 := by rw [← h1, F2.mul_comm y, F2.mul_assoc]
  exact ⟨qinv_unique b1, qinv_unique b2⟩

def encP (x : F2) : Int × Int := (enc x.a, enc x.b)
/-- What gives 1 with each. -/
def invsq (zs : List (Int × Int)) : List (Int × Int) := zs.map fun z => encP (qinv (toQ z))
theorem invsq_len (zs : List (Int × Int)) : (invsq zs).length = zs.length := by simp [invsq]
theorem invsq_at (zs : List (Int × Int)) (k : Nat) (h : k < zs.length) : (invsq zs).getD k (0, 0) = encP (qinv (toQ (zs.getD k (0, 0)))) := by simp [invsq, List.getD, h]
theorem invsq_U (zs : List (Int × Int)) : ∀ n ∈ invsq zs, U n.1 ∧ U n.2 := by
  intro n hn
  simp only [invsq, List.mem_map] at hn
  obtain ⟨z, _, rfl⟩ := hn
  exact ⟨enc_U _, enc_U _⟩

theorem infoQ : (Tryd.prog.info? 44).map (fun i => (i.zero, i.size, i.bytes)) = some (some (.agg #[.int .u64 0, .int .u64 0]), 2, 16) := by kernel_rfl
abbrev mulQ : Value := .func (.func 35) #[] #[]
abbrev invQ : Value := .func (.func 36) #[] #[]

def upq (zs : List (Int × Int)) (k : Nat) (i : Nat) : Int × Int := if i < k then encP (preq zs i) else (0, 0)
def downq (zs : List (Int × Int)) (k : Nat) (i : Nat) : Int × Int := if i < k then encP (preq zs i) else (invsq zs).getD i (0, 0)
theorem upq_fin {zs : List (Int × Int)} {k : Nat} : ∀ i, i < zs.length → (if i = k then (enc (preq zs k).a, enc (preq zs k).b) else upq zs k i) = upq zs (k + 1) i := by
  intro i hi
  unfold upq
  by_cases h : i = k
  · subst h; rw [if_pos rfl, if_pos (by omega)]; rfl
  · rw [if_neg h]
    by_cases h2 : i < k
    · rw [if_pos h2, if_pos (by omega)]
    · rw [if_neg h2, if_neg (by omega)]
theorem downq_fin {zs : List (Int × Int)} {k : Nat} {x y : Int} (hx : (invsq zs).getD k (0, 0) = (x, y)) : ∀ i, i < zs.length → (if i = k then (x, y) else downq zs (k + 1) i) = downq zs k i := by
  intro i hi
  unfold downq
  by_cases h : i = k
  · subst h; rw [if_pos rfl, if_neg (by omega), hx]
  · rw [if_neg h]
    by_cases h2 : i < k
    · rw [if_pos h2, if_pos (by omega)]
    · rw [if_neg h2, if_neg (by omega)]
theorem downq_all {zs : List (Int × Int)} : ∀ i, i < zs.length → upq zs zs.length i = downq zs zs.length i := by
  intro i hi; unfold upq downq; rw [if_pos hi, if_pos hi]
theorem downq_zero {zs : List (Int × Int)} : ∀ i, i < zs.length → downq zs 0 i = (invsq zs).getD i (0, 0) := by
  intro i hi; unfold downq; rw [if_neg (by omega)]

/-- What is told. -/
def InvPostQ (w : World) (zs : List (Int × Int)) (e : Ending) (w' : World) : Prop :=
  Below w.heap.size w w' ∧ ((¬ Nil0Q zs ∧ e = .returned (.tuple #[.slice none 0 0, .bool false])) ∨
    (Nil0Q zs ∧ ∃ g : Nat, e = .returned (.tuple #[.slice (some ⟨g, 0, none⟩) zs.length zs.length, .bool true]) ∧ QRow w' (.slice (some ⟨g, 0, none⟩) zs.length zs.length) (invsq zs)))

/-- What stands in memory all the while: the product so far, and the answer's row. -/
def SQ (w : World) (n g g11 : Nat) (p : F2) (x : Nat → Int × Int) (W : World) : Prop := Below w.heap.size w W ∧ Var W g11 (enc p.a) (enc p.b) ∧ Arr W g (n * 2) (pc x)
def UpQ (w : World) (zs : List (Int × Int)) (g g11 : Nat) (i : Value) (W : World) : Prop :=
  ∃ k : Nat, k ≤ zs.length ∧ i = .int .i64 k ∧ SQ w zs.length g g11 (preq zs k) (upq zs k) W
def DownQ (w : World) (zs : List (Int × Int)) (g g14 : Nat) (i : Value) (W : World) : Prop :=
  ∃ k : Nat, k ≤ zs.length ∧ i = .int .i64 ((k : Int) - 1) ∧ SQ w zs.length g g14 (qinv (preq zs k)) (downq zs k) W

/-- What the slots of the first drawn region hold. -/
def InvR (g n k : Nat) (p1 p2 r1 r2 q1 q2 : Int) (j : Nat) (v : Value) (W : World) : Prop :=
  match j with
  | 52 => v = .slice (some ⟨g, 0, none⟩) n n
  | 53 => v = .int .i64 k
  | 54 => v = mulQ
  | 55 => v = .slice (some ⟨g, 0, none⟩) n n
  | 56 => v = .int .i64 k
  | 57 => v = .pointer (some ⟨g, k * 2, none⟩)
  | 58 => v = .agg #[.int .u64 p1, .int .u64 p2]
  | 59 => v = .agg #[.int .u64 r1, .int .u64 r2]
  | 60 => v = .agg #[.int .u64 q1, .int .u64 q2]
  | _ => v = .pointer (some ⟨g, k * 2, none⟩)
theorem InvR.keep {g n k : Nat} {p1 p2 r1 r2 q1 q2 : Int} {j : Nat} {v : Value} {W W' : World} (h : InvR g n k p1 p2 r1 r2 q1 q2 j v W) (hb : Below W.heap.size W W') : InvR g n k p1 p2 r1 r2 q1 q2 j v W' := h
/-- What the slots of the second one hold. -/
def InvR2 (b off n cap k : Nat) (r1 r2 z1 z2 q1 q2 : Int) (j : Nat) (v : Value) (W : World) : Prop :=
  match j with
  | 62 => v = mulQ
  | 63 => v = .agg #[.int .u64 r1, .int .u64 r2]
  | 64 => v = .slice (some ⟨b, off, none⟩) n cap
  | 65 => v = .int .i64 k
  | 66 => v = .pointer (some ⟨b, off + k * 2, none⟩)
  | 67 => v = .agg #[.int .u64 z1, .int .u64 z2]
  | _ => v = .agg #[.int .u64 q1, .int .u64 q2]
theorem InvR2.keep {b off n cap k : Nat} {r1 r2 z1 z2 q1 q2 : Int} {j : Nat} {v : Value} {W W' : World} (h : InvR2 b off n cap k r1 r2 z1 z2 q1 q2 j v W) (hb : Below W.heap.size W W') : InvR2 b off n cap k r1 r2 z1 z2 q1 q2 j v W' := h

set_option maxHeartbeats 4000000 in
theorem invertq_any (a : Option Addr) (len cap : Nat) (zs : List (Int × Int)) (w : World) (hr : QRowA w a len zs) (hu : ∀ n ∈ zs, U n.1 ∧ U n.2) (hl : len ≤ 4294967296) :
    Calls Tryd.prog 33 #[.slice a len cap, .agg #[.int .u64 1, .int .u64 0], mulQ, invQ] w (InvPostQ w zs) := by
  have hmk := fun W => run_make_pairs (P := Tryd.prog) 29 44 (.agg #[.int .u64 0, .int .u64 0]) Tryd.underlying29 infoQ rfl len hl W
  obtain ⟨hlen, hlm, hcell⟩ := hr
  unfold maxLen at hlm
  have HM := Lib.hid hlm
  have HC := Lib.hid hcell; have HU := Lib.hid (UU_getD hu)
  generalize hn : len = n at *
  have HN := Lib.hid hlen
  clear hcell hu hlen hn
  go_enter Tryd.func33, Tryd.ntmps33
  go_upto_region 3 with fail
  refine wp_gen (SQ w n (w.heap.size + 1) (w.heap.size + 2) (preq zs 0) (upq zs 0)) ⟨((((Below.refl _ _).alloc (Nat.le_refl _) _).alloc (by simp) _).alloc (by simp; omega) _), ?_, ?_⟩ ?_
  · have h := Var.new ((w.alloc (.cells #[.int .u64 1, .int .u64 0] 44)).alloc (.cells (madeCells #[.int .u64 0, .int .u64 0] (n * 2)) 44)) 1 0 44
    rw [show ((w.alloc (.cells #[.int .u64 1, .int .u64 0] 44)).alloc (.cells (madeCells #[.int .u64 0, .int .u64 0] (n * 2)) 44)).heap.size = w.heap.size + 2 by simp] at h
    exact h
  · have h := (Arr.newq (w.alloc (.cells #[.int .u64 1, .int .u64 0] 44)) n 44).alloc (.cells #[.int .u64 1, .int .u64 0] 44)
    rw [show (w.alloc (.cells #[.int .u64 1, .int .u64 0] 44)).heap.size = w.heap.size + 1 by simp] at h
    exact h.same (pc_same (fun i hi => by show (0, 0) = upq zs 0 i; unfold upq; rw [if_neg (by omega)]))
  intro W hS
  go_upto_region 4 with fail
  go_loopw [23] (UpQ w zs (w.heap.size + 1) (w.heap.size + 2)) (fun i _ => n - (intOf i).toNat)
  case atStart => exact ⟨0, Nat.zero_le _, rfl, by rw [HN.out]; exact hS⟩
  case round =>
    clear hS
    obtain ⟨k, hk, rfl, hS⟩ := hrel
    rw [HN.out] at hk hS
    by_cases hlt : k < n
    · obtain ⟨hB, hV, hA⟩ := hS
      obtain ⟨b, off, rfl, g00, g10⟩ := HC.out k hlt
      have g0 := bkeep hB g00
      have g1 := bkeep hB g10
      clear g00 g10
      have gU := HU.out k (by rw [HN.out]; exact hlt)
      obtain ⟨p1, hp1⟩ : ∃ v, enc (preq zs k).a = v := ⟨_, rfl⟩
      obtain ⟨p2, hp2⟩ : ∃ v, enc (preq zs k).b = v := ⟨_, rfl⟩
      have m1 := pmul_q (enc (preq zs k).a) (enc (preq zs k).b) (zs.getD k (0, 0)).1 (zs.getD k (0, 0)).2 (preq zs k) (toQ (zs.getD k (0, 0))) (preq zs (k + 1)) (rep_enc _) (rep_raw gU.1 gU.2) rfl
      rw [hp1, hp2] at hV m1
      have P1 := Lib.hid hp1; have P2 := Lib.hid hp2
      clear gU hp1 hp2
      generalize (zs.getD k (0, 0)).1 = z1 at *
      generalize (zs.getD k (0, 0)).2 = z2 at *
      go_upto_region 6 with fail
      refine wp_gen (fun W => Below w.heap.size w W ∧ Var W (w.heap.size + 2) p1 p2 ∧ Arr W (w.heap.size + 1) (n * 2) (pc (upq zs k)) ∧ Var W wr.heap.size z1 z2) ⟨hB.alloc hB.size _, hV.alloc _, hA.alloc _, Var.new _ _ _ _⟩ ?_
      have hsz := hV.lt
      clear hB hV hA g0 g1
      rintro W2 ⟨hB, ⟨c0, c1, f0, f1⟩, hA, ⟨d0, d1, e0, e1⟩⟩
      have HA := Lib.hid (hA.setq k p1 p2 hlt)
      obtain ⟨b0, b1, b2, b3⟩ := hA.cells k hlt
      clear hA
      go_upto_region 7 with fail
      refine wp_gen (fun W => Below w.heap.size w W ∧ Var W (w.heap.size + 2) p1 p2 ∧ Arr W (w.heap.size + 1) (n * 2) (pc (upq zs (k + 1))) ∧ Var W wr.heap.size z1 z2) ⟨(hB.setCell (by simp) _).setCell (by simp) _, (Var.far ⟨c0, c1, f0, f1⟩ (by omega) _ _).far (by omega) _ _, HA.out.same (pc_same (fun i hi => by rw [← P1.out, ← P2.out]; exact upq_fin i (by rw [HN.out]; exact hi))), (Var.far ⟨d0, d1, e0, e1⟩ (by omega) _ _).far (by omega) _ _⟩ ?_
      clear hB c0 c1 f0 f1 b0 b1 b2 b3 d0 d1 e0 e1 HA
      rintro W3 ⟨hB, ⟨c0, c1, f0, f1⟩, hA, ⟨d0, d1, e0, e1⟩⟩
      clear e0 e1
      go_upto_region 8 with ((go_at_call 35; ((with_reducible refine (m1 _).mono ?_); rintro e w1 ⟨rfl, hb⟩; replace f0 := bfree hb c0 f0; replace f1 := bfree hb c1 f1; replace c0 := bkeep hb c0; replace c1 := bkeep hb c1; replace hA := hA.keep hb; replace hB := bthen hB hb; clear hb d0 d1)))
      refine wp_gen (SQ w n (w.heap.size + 1) (w.heap.size + 2) (preq zs (k + 1)) (upq zs (k + 1))) ⟨(hB.setCell (show w.heap.size ≤ w.heap.size + 2 by omega) _).setCell (show w.heap.size ≤ w.heap.size + 2 by omega) _, Var.set ⟨c0, c1, f0, f1⟩ _ _, (hA.far (by omega) _ _).far (by omega) _ _⟩ ?_
      clear hB c0 c1 f0 f1 hA
      intro W4 hS
      go_wp2
      go_roundw
      case rel => exact ⟨k + 1, by rw [HN.out]; omega, by go_num, by rw [HN.out]; exact hS⟩
      case measure => simp [intOf]; omega
    · obtain rfl : k = n := by omega
      obtain ⟨hB, ⟨c0, c1, f0, f1⟩, hA⟩ := hS
      have hlt2 := Var.lt ⟨c0, c1, f0, f1⟩
      by_cases h0 : Nil0Q zs
      · have hne := preq_ne h0 k (by rw [HN.out]; omega)
        have i1 := pinv_yes (enc (preq zs k).a) (enc (preq zs k).b) (preq zs k) (qinv (preq zs k)) (rep_enc _) hne rfl
        have H0 := Lib.hid h0
        clear hne hlt h0
        go_upto_region 10 with ((go_at_call 36; ((with_reducible refine (i1 _).mono ?_); rintro e w1 ⟨rfl, hb⟩; replace hA := hA.keep hb; replace hB := bthen hB hb; replace hlt2 := Nat.lt_of_lt_of_le hlt2 hb.size; clear hb c0 c1 f0 f1)))
        refine wp_gen (SQ w k (w.heap.size + 1) w1.heap.size (qinv (preq zs k)) (downq zs k)) ⟨hB.alloc hB.size _, Var.new _ _ _ _, (hA.alloc _).same (pc_same (fun i hi => by have := downq_all (zs := zs) i (by rw [HN.out]; exact hi); rw [HN.out] at this; exact this))⟩ ?_
        have g14 := hB.size
        generalize w1.heap.size = g at *
        clear hB hA i1
        intro W2 hS
        go_upto_region 13 with fail
        go_loopw [16] (DownQ w zs (w.heap.size + 1) g) (fun i _ => (intOf i + 1).toNat)
        case atStart => exact ⟨k, by rw [HN.out]; omega, rfl, by rw [HN.out]; exact hS⟩
        case round =>
          clear hS
          obtain ⟨j, hj, rfl, hS⟩ := hrel
          rw [HN.out] at hj hS
          obtain ⟨hB, hV, hA⟩ := hS
          cases j with
          | zero =>
            rw [show ((0 : Nat) : Int) - 1 = -1 from rfl]
            have HB := Lib.hid hB; have HA := Lib.hid hA
            clear hA hB hV
            go_wp2
            refine bodyPost_ret (v := .tuple #[.slice (some ⟨w.heap.size + 1, 0, none⟩) k k, .bool true]) (by simp [results, Tryd.results33, go_sem]) rfl ⟨HB.out, Or.inr ⟨H0.out, w.heap.size + 1, by rw [HN.out], ?_⟩⟩
            rw [HN.out]
            exact Arr.qrow (HA.out.same (pc_same (fun i hi => downq_zero i (by rw [HN.out]; exact hi)))) (by rw [invsq_len, HN.out]) (by have := HM.out; unfold maxLen; omega)
          | succ j =>
            rw [show ((j + 1 : Nat) : Int) - 1 = (j : Int) by omega]
            obtain ⟨b, off, rfl, g00, g10⟩ := HC.out j (by omega)
            have hblk : b < w.heap.size := World.block_lt_of_cell? w _ g00
            have g0 := bkeep hB g00
            have g1 := bkeep hB g10
            clear g00 g10
            have gU := HU.out j (by rw [HN.out]; omega)
            obtain ⟨y1, y2⟩ := preq_back H0.out j (by rw [HN.out]; omega)
            have m1 := pmul_q (enc (preq zs j).a) (enc (preq zs j).b) (enc (qinv (preq zs (j + 1))).a) (enc (qinv (preq zs (j + 1))).b) (preq zs j) (qinv (preq zs (j + 1))) _ (rep_enc _) (rep_enc _) y1
            have m2 := pmul_q (enc (qinv (preq zs (j + 1))).a) (enc (qinv (preq zs (j + 1))).b) (zs.getD j (0, 0)).1 (zs.getD j (0, 0)).2 (qinv (preq zs (j + 1))) (toQ (zs.getD j (0, 0))) (qinv (preq zs j)) (rep_enc _) (rep_raw gU.1 gU.2) y2
            have HX := Lib.hid (invsq_at zs j (by rw [HN.out]; omega))
            obtain ⟨p1, hp1⟩ : ∃ v, enc (preq zs j).a = v := ⟨_, rfl⟩
            obtain ⟨p2, hp2⟩ : ∃ v, enc (preq zs j).b = v := ⟨_, rfl⟩
            obtain ⟨r1, hr1⟩ : ∃ v, enc (qinv (preq zs (j + 1))).a = v := ⟨_, rfl⟩
            obtain ⟨r2, hr2⟩ : ∃ v, enc (qinv (preq zs (j + 1))).b = v := ⟨_, rfl⟩
            obtain ⟨q1, hq1⟩ : ∃ v, enc (qinv (toQ (zs.getD j (0, 0)))).a = v := ⟨_, rfl⟩
            obtain ⟨q2, hq2⟩ : ∃ v, enc (qinv (toQ (zs.getD j (0, 0)))).b = v := ⟨_, rfl⟩
            obtain ⟨s1, hs1⟩ : ∃ v, enc (qinv (preq zs j)).a = v := ⟨_, rfl⟩
            obtain ⟨s2, hs2⟩ : ∃ v, enc (qinv (preq zs j)).b = v := ⟨_, rfl⟩
            have HX2 : Hid ((invsq zs).getD j (0, 0) = (q1, q2)) := Lib.hid (by rw [HX.out, ← hq1, ← hq2]; rfl)
            rw [hp1, hp2, hr1, hr2, hq1, hq2] at m1
            rw [hr1, hr2, hs1, hs2] at m2
            rw [hr1, hr2] at hV
            have S1 := Lib.hid hs1; have S2 := Lib.hid hs2; have R1 := Lib.hid hr1; have R2 := Lib.hid hr2
            obtain ⟨a0, a1, b2, b3⟩ := hA.cells j (by omega)
            rw [show downq zs (j + 1) j = encP (preq zs j) by unfold downq; rw [if_pos (by omega)]] at a0 a1
            simp only [encP, hp1, hp2] at a0 a1
            have P1 := Lib.hid hp1; have P2 := Lib.hid hp2
            clear gU y1 y2 HX hp1 hp2 hr1 hr2 hq1 hq2 hs1 hs2
            generalize (zs.getD j (0, 0)).1 = z1 at *
            generalize (zs.getD j (0, 0)).2 = z2 at *
            obtain ⟨d0, d1, e0, e1⟩ := hV
            have hjk : (j : Int) < (k : Int) := by omega
            have hj0 : (0 : Int) ≤ (j : Int) := by omega
            go_upto_region 15 with fail
            refine wp_loose [(52, []), (53, []), (54, []), (55, []), (56, []), (57, [55, 56]), (58, [57]), (59, []), (60, [54, 58, 59]), (61, [52, 53])]
              (InvR (w.heap.size + 1) k j p1 p2 r1 r2 q1 q2) (fun d => false) (by kernel_rfl) (by kernel_rfl) (fun _ _ _ _ h hb => h.keep hb) ?_ ?_
            · refine opsrun_cons ?_ (opsrun_cons ?_ (opsrun_cons ?_ (opsrun_cons ?_ (opsrun_cons ?_ (opsrun_cons ?_ (opsrun_cons ?_ (opsrun_cons ?_ (opsrun_cons ?_ (opsrun_cons ?_ opsrun_nil)))))))))
              all_goals
                refine OpRuns.any ?_
                intro Q0 σ W' K hb hn hK
                simp only [fill, List.map, Act.put, List.setIfInBounds_toArray, List.set_cons_zero, List.set_cons_succ] at hK ⊢
              · clear hn
                go_simp
                exact hK _ _ rfl (Below.refl _ _) (fun h => absurd h (by decide))
              · clear hn
                go_simp
                exact hK _ _ rfl (Below.refl _ _) (fun h => absurd h (by decide))
              · clear hn
                go_simp
                exact hK _ _ rfl (Below.refl _ _) (fun h => absurd h (by decide))
              · clear hn
                go_simp
                exact hK _ _ rfl (Below.refl _ _) (fun h => absurd h (by decide))
              · clear hn
                go_simp
                exact hK _ _ rfl (Below.refl _ _) (fun h => absurd h (by decide))
              · have h55 : σ 55 = _ := hn 55 (by decide)
                have h56 : σ 56 = _ := hn 56 (by decide)
                clear hn
                simp only [h55, h56] at hK
                go_simp
                exact hK _ _ rfl (Below.refl _ _) (fun h => absurd h (by decide))
              · have h57 : σ 57 = _ := hn 57 (by decide)
                clear hn
                simp only [h57] at hK
                have a0' := bkeep hb a0
                have a1' := bkeep hb a1
                clear a0 a1
                go_simp
                exact hK _ _ rfl (Below.refl _ _) (fun h => absurd h (by decide))
              · clear hn
                have d0' := bkeep hb d0
                have d1' := bkeep hb d1
                clear d0 d1
                go_simp
                exact hK _ _ rfl (Below.refl _ _) (fun h => absurd h (by decide))
              · have h54 : σ 54 = _ := hn 54 (by decide)
                have h58 : σ 58 = _ := hn 58 (by decide)
                have h59 : σ 59 = _ := hn 59 (by decide)
                clear hn
                simp only [h54, h58, h59] at hK
                go_simp
                go_at_call 35
                refine (m1 _).mono ?_
                rintro e w1 ⟨rfl, hb1⟩
                exact hK _ _ rfl hb1 (fun h => absurd h (by decide))
              · have h52 : σ 52 = _ := hn 52 (by decide)
                have h53 : σ 53 = _ := hn 53 (by decide)
                clear hn
                simp only [h52, h53] at hK
                go_simp
                exact hK _ _ rfl (Below.refl _ _) (fun h => absurd h (by decide))
            · intro σ W' hb hR' hF
              have h60 : σ 60 = _ := hR' 60 (by decide)
              have h61 : σ 61 = _ := hR' 61 (by decide)
              have V3 := Lib.hid (Var.keep ⟨d0, d1, e0, e1⟩ hb)
              have HA := Lib.hid ((hA.keep hb).setq j q1 q2 (by omega))
              replace b2 := bfree hb a0 b2; replace b3 := bfree hb a1 b3; replace a0 := bkeep hb a0; replace a1 := bkeep hb a1
              replace g0 := bkeep hb g0; replace g1 := bkeep hb g1
              replace hB := bthen hB hb
              clear hR' hF d0 d1 e0 e1 hA
              simp only [fill, List.map, Act.put, List.setIfInBounds_toArray, List.set_cons_zero, List.set_cons_succ, List.length_cons, List.length_nil, List.drop_succ_cons, List.drop_zero, Nat.reduceAdd, h60, h61]
              clear h60 h61 hb
              go_upto_region 16 with fail
              refine wp_gen (fun W => SQ w k (w.heap.size + 1) g (qinv (preq zs (j + 1))) (downq zs j) W ∧ W.cell? ⟨b, off + j * 2, none⟩ = some (.int .u64 z1) ∧ W.cell? ⟨b, off + j * 2 + 1, none⟩ = some (.int .u64 z2)) ⟨⟨(hB.setCell (show w.heap.size ≤ w.heap.size + 1 by omega) _).setCell (show w.heap.size ≤ w.heap.size + 1 by omega) _, ?_, HA.out.same (pc_same (fun i hi => downq_fin HX2.out i (by rw [HN.out]; exact hi)))⟩, (World.cell?_setCell_far _ _ _ _ (show w.heap.size + 1 ≠ b by omega)).trans ((World.cell?_setCell_far _ _ _ _ (show w.heap.size + 1 ≠ b by omega)).trans g0), (World.cell?_setCell_far _ _ _ _ (show w.heap.size + 1 ≠ b by omega)).trans ((World.cell?_setCell_far _ _ _ _ (show w.heap.size + 1 ≠ b by omega)).trans g1)⟩ ?_
              · rw [R1.out, R2.out]; exact (V3.out.far (by omega) _ _).far (by omega) _ _
              clear hB HA V3 a0 a1 b2 b3 g0 g1
              rintro W3 ⟨⟨hB, hV, hA⟩, g0, g1⟩
              rw [R1.out, R2.out] at hV
              obtain ⟨d0, d1, e0, e1⟩ := hV
              refine wp_loose [(62, []), (63, []), (64, []), (65, []), (66, [64, 65]), (67, [66]), (68, [62, 63, 67])]
                (InvR2 b off k cap j r1 r2 z1 z2 s1 s2) (fun d => false) (by kernel_rfl) (by kernel_rfl) (fun _ _ _ _ h hb => h.keep hb) ?_ ?_
              · refine opsrun_cons ?_ (opsrun_cons ?_ (opsrun_cons ?_ (opsrun_cons ?_ (opsrun_cons ?_ (opsrun_cons ?_ (opsrun_cons ?_ opsrun_nil))))))
                all_goals
                  refine OpRuns.any ?_
                  intro Q0 σ W' K hb hn hK
                  simp only [fill, List.map, Act.put, List.setIfInBounds_toArray, List.set_cons_zero, List.set_cons_succ] at hK ⊢
                · clear hn
                  go_simp
                  exact hK _ _ rfl (Below.refl _ _) (fun h => absurd h (by decide))
                · clear hn
                  have d0' := bkeep hb d0
                  have d1' := bkeep hb d1
                  clear d0 d1
                  go_simp
                  exact hK _ _ rfl (Below.refl _ _) (fun h => absurd h (by decide))
                · clear hn
                  go_simp
                  exact hK _ _ rfl (Below.refl _ _) (fun h => absurd h (by decide))
                · clear hn
                  go_simp
                  exact hK _ _ rfl (Below.refl _ _) (fun h => absurd h (by decide))
                · have h64 : σ 64 = _ := hn 64 (by decide)
                  have h65 : σ 65 = _ := hn 65 (by decide)
                  clear hn
                  simp only [h64, h65] at hK
                  go_simp
                  exact hK _ _ rfl (Below.refl _ _) (fun h => absurd h (by decide))
                · have h66 : σ 66 = _ := hn 66 (by decide)
                  clear hn
                  simp only [h66] at hK
                  have g0' := bkeep hb g0
                  have g1' := bkeep hb g1
                  clear g0 g1
                  go_simp
                  exact hK _ _ rfl (Below.refl _ _) (fun h => absurd h (by decide))
                · have h62 : σ 62 = _ := hn 62 (by decide)
                  have h63 : σ 63 = _ := hn 63 (by decide)
                  have h67 : σ 67 = _ := hn 67 (by decide)
                  clear hn
                  simp only [h62, h63, h67] at hK
                  go_simp
                  go_at_call 35
                  refine (m2 _).mono ?_
                  rintro e w1 ⟨rfl, hb1⟩
                  exact hK _ _ rfl hb1 (fun h => absurd h (by decide))
              · intro σ W' hb hR' hF
                have h68 : σ 68 = _ := hR' 68 (by decide)
                have HA := Lib.hid (hA.keep hb)
                replace e0 := bfree hb d0 e0; replace e1 := bfree hb d1 e1; replace d0 := bkeep hb d0; replace d1 := bkeep hb d1
                replace hB := bthen hB hb
                clear hR' hF g0 g1 hA
                simp only [fill, List.map, Act.put, List.setIfInBounds_toArray, List.set_cons_zero, List.set_cons_succ, List.length_cons, List.length_nil, List.drop_succ_cons, List.drop_zero, Nat.reduceAdd, h68]
                clear h68 hb
                go_upto_region 14 with fail
                refine wp_gen (SQ w k (w.heap.size + 1) g (qinv (preq zs j)) (downq zs j)) ⟨(hB.setCell (show w.heap.size ≤ g by omega) _).setCell (show w.heap.size ≤ g by omega) _, ?_, (HA.out.far (by omega) _ _).far (by omega) _ _⟩ ?_
                · rw [S1.out, S2.out]; exact Var.set ⟨d0, d1, e0, e1⟩ _ _
                clear hB HA d0 d1 e0 e1
                intro W4 hS
                go_wp2
                go_roundw
                case rel => exact ⟨j, by rw [HN.out]; omega, rfl, by rw [HN.out]; exact hS⟩
                case measure => simp [intOf]
      · have he := preq_eq0 h0
        rw [HN.out] at he
        have i1 := pinv_no (enc (preq zs k).a) (enc (preq zs k).b) (preq zs k) (rep_enc _) he
        have H0 := Lib.hid h0
        clear he hlt h0 hA
        go_wp2_with ((go_at_call 36; ((with_reducible refine (i1 _).mono ?_); rintro e w1 ⟨rfl, hb⟩; replace hB := bthen hB hb; clear hb c0 c1 f0 f1)))
        exact bodyPost_ret (v := .tuple #[.slice none 0 0, .bool false]) (by simp [results, Tryd.results33, go_sem]) rfl ⟨hB.alloc hB.size _, Or.inl ⟨H0.out, rfl⟩⟩

/-- The same, by cases. -/
def InvYesQ (w : World) (zs : List (Int × Int)) (e : Ending) (w' : World) : Prop :=
  ∃ g : Nat, e = .returned (.tuple #[.slice (some ⟨g, 0, none⟩) zs.length zs.length, .bool true]) ∧ Below w.heap.size w w' ∧ QRow w' (.slice (some ⟨g, 0, none⟩) zs.length zs.length) (invsq zs)
theorem InvPostQ.no {w w' : World} {zs : List (Int × Int)} {e : Ending} (h : InvPostQ w zs e w') (h0 : ¬ Nil0Q zs) : e = .returned (.tuple #[.slice none 0 0, .bool false]) ∧ Below w.heap.size w w' := by
  rcases h with ⟨hb, ⟨_, he⟩ | ⟨h1, _⟩⟩
  · exact ⟨he, hb⟩
  · exact absurd h1 h0
theorem InvPostQ.yes {w w' : World} {zs : List (Int × Int)} {e : Ending} (h : InvPostQ w zs e w') (h0 : Nil0Q zs) : InvYesQ w zs e w' := by
  rcases h with ⟨hb, ⟨h1, _⟩ | ⟨_, g, he, hr⟩⟩
  · exact absurd h0 h1
  · exact ⟨g, he, hb, hr⟩

theorem rinvertq_no (a : Option Addr) (len cap : Nat) (zs : List (Int × Int)) (w : World) (hr : QRowA w a len zs) (hu : ∀ n ∈ zs, U n.1 ∧ U n.2) (hl : len ≤ 4294967296) (h0 : ¬ Nil0Q zs) :
    Calls Tryd.prog 18 #[.slice a len cap] w fun e w' => e = .returned (.tuple #[.slice none 0 0, .bool false]) ∧ Below w.heap.size w w' := by
  have k := fun W (hb : Below w.heap.size w W) => (invertq_any a len cap zs W (hr.keep hb) hu hl).mono fun e w' h => h.no h0
  have l1 := lift_q 1 1 (U_lit _ rfl rfl) (by decide +kernel)
  have e1 : enc (1 : F2).a = 1 := rfl
  have e2 : enc (1 : F2).b = 0 := rfl
  rw [e1, e2] at l1
  clear hr hu hl h0 e1 e2
  go_enter Tryd.func18, Tryd.ntmps18
  go_wp2_with (first
    | (go_at_call 34; ((with_reducible refine (l1 _).mono ?_); rintro e w1 ⟨rfl, hb1⟩))
    | (go_at_call 33; ((with_reducible refine (k _ hb1).mono ?_); rintro e w2 ⟨rfl, hb2⟩)))
  exact bodyPost_ret (v := .tuple #[.slice none 0 0, .bool false]) (by simp [results, Tryd.results18, go_sem]) rfl ⟨rfl, bthen hb1 hb2⟩
theorem rinvertq_yes (a : Option Addr) (len cap : Nat) (zs : List (Int × Int)) (w : World) (hr : QRowA w a len zs) (hu : ∀ n ∈ zs, U n.1 ∧ U n.2) (hl : len ≤ 4294967296) (h0 : Nil0Q zs) :
    Calls Tryd.prog 18 #[.slice a len cap] w (InvYesQ w zs) := by
  have k := fun W (hb : Below w.heap.size w W) => (invertq_any a len cap zs W (hr.keep hb) hu hl).mono fun e w' h => h.yes h0
  have l1 := lift_q 1 1 (U_lit _ rfl rfl) (by decide +kernel)
  have e1 : enc (1 : F2).a = 1 := rfl
  have e2 : enc (1 : F2).b = 0 := rfl
  rw [e1, e2] at l1
  clear hr hu hl h0 e1 e2
  go_enter Tryd.func18, Tryd.ntmps18
  go_wp2_with (first
    | (go_at_call 34; ((with_reducible refine (l1 _).mono ?_); rintro e w1 ⟨rfl, hb1⟩))
    | (go_at_call 33; ((with_reducible refine (k _ hb1).mono ?_); rintro e w2 ⟨g, rfl, hb2, hrow⟩)))
  exact bodyPost_ret (v := .tuple #[.slice (some ⟨g, 0, none⟩) zs.length zs.length, .bool true]) (by simp [results, Tryd.results18, go_sem]) rfl ⟨g, rfl, bthen hb1 hb2, hrow⟩
end Go.Proofs.YtbhnbpagjmeffaaDoor
