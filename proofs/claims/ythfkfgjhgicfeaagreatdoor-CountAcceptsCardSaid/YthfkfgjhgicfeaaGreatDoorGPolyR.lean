/-
  PolyC: A slice of pairs as a polynomial: what comes in (as it may stand), what is told (as it is kept). No function of the program is named.
  PTrim: What the document's Trim and Degree of layer 5 come to: contracts for the walk. (Written by gen_ptrim.py.)
  PolyRef: What the document's At, Scale and Add of layer 5 come to: contracts for the walk. (Written by gen_polyref.py.)
  PolyAdd: What the document's Add of layer 5 comes to: a contract for the walk. (Written by gen_polyref2.py.)
  PolyMul: What the document's Mul and Divide of layer 5 come to: contracts for the walk. (Written by gen_polyref3.py.)
  PolyThr: What the document's Lift and Through of layer 5 come to: contracts for the walk.
  PolyThru: What the document's Through of layer 5 comes to: a contract for the walk. (Written by gen_polythr.py.)
  PolyAsk: What is asked of package poly, call by call, under names; the document's 'the same' of two polynomials.
  PolyLem: What holds of sums, products and quotients of polynomials as they are told. Plain mathematics over XPolyAsk's words.
  PolyLemT: What holds of the one through points, as it is told: for the walk of PolyThrough. Plain mathematics over XPolyAsk's words.
-/
import Derived.Test.YthfkfgjhgicfeaaGreatDoorPolyM
import Derived.Test.YthfkfgjhgicfeaaGreatDoorGRow
import Derived.Test.YthfkfgjhgicfeaaGreatDoorGRef
import Derived.Test.YthfkfgjhgicfeaaGreatDoorGNum
import Derived.IntWalk
import Derived.Test.YthfkfgjhgicfeaaGreatDoorSame
import Derived.Test.YthfkfgjhgicfeaaGreatDoorOpenPairs
namespace Go.Proofs.YthfkfgjhgicfeaaGreatDoor
open Go.RowKit
set_option linter.unusedVariables false

def encL (l : List F2) : List (Int × Int) := l.map fun x => (enc x.a, enc x.b)
theorem encL_len (l : List F2) : (encL l).length = l.length := by simp [encL]
theorem encL_at (l : List F2) (k : Nat) : (encL l).getD k (0, 0) = (enc (cq l k).a, enc (cq l k).b) := by
  unfold encL cq
  rw [List.getD, List.getD, List.getElem?_map]
  cases l[k]? <;> rfl
/-- What comes in. -/
def Poly (W : World) (v : Value) (l : List F2) : Prop := ∃ zs, QRow W v zs ∧ (∀ n ∈ zs, U n.1 ∧ U n.2) ∧ zs.map toQ = l
theorem Poly.keep {W w1 : World} {v : Value} {l : List F2} (h : Poly W v l) (hb : Below W.heap.size W w1) : Poly w1 v l := by
  obtain ⟨zs, h1, h2, h3⟩ := h
  exact ⟨zs, h1.keep hb, h2, h3⟩
/-- .. cell by cell. -/
def PolyA (W : World) (a : Option Addr) (len : Nat) (l : List F2) : Prop :=
  l.length = len ∧ len ≤ maxLen ∧ ∀ k, k < len → ∃ (b off : Nat) (z0 z1 : Int), a = some ⟨b, off, none⟩ ∧ W.cell? ⟨b, off + k * 2, none⟩ = some (.int .u64 z0) ∧ W.cell? ⟨b, off + k * 2 + 1, none⟩ = some (.int .u64 z1) ∧ Rep z0 z1 (cq l k)
theorem PolyA.keep {W w1 : World} {a : Option Addr} {len : Nat} {l : List F2} (h : PolyA W a len l) (hb : Below W.heap.size W w1) : PolyA w1 a len l :=
  ⟨h.1, h.2.1, fun k hk => by obtain ⟨b, off, z0, z1, e, c, d, r⟩ := h.2.2 k hk; exact ⟨b, off, z0, z1, e, bkeep hb c, bkeep hb d, r⟩⟩
theorem Poly.at {W : World} {a : Option Addr} {len cap : Nat} {l : List F2} (h : Poly W (.slice a len cap) l) : PolyA W a len l := by
  obtain ⟨zs, h1, h2, rfl⟩ := h
  obtain ⟨e, hm, hc⟩ := h1.at
  refine ⟨by rw [List.length_map]; exact e, hm, fun k hk => ?_⟩
  obtain ⟨b, off, ea, c, d⟩ := hc k hk
  have hu := UU_getD h2 k (by omega)
  refine ⟨b, off, _, _, ea, c, d, ?_⟩
  have : cq (zs.map toQ) k = toQ (zs.getD k (0, 0)) := by
    unfold cq
    simp [List.getD, show k < zs.length by omega]
  rw [this]
  exact rep_raw hu.1 hu.2
theorem Poly.slice {W : World} {v : Value} {l : List F2} (h : Poly W v l) : ∃ a c, v = .slice a l.length c := by
  obtain ⟨zs, h1, _, rfl⟩ := h
  rcases h1 with ⟨rfl, rfl⟩ | ⟨a, c, rfl, rfl⟩ | ⟨b, off, c, rfl, _⟩
  · exact ⟨none, 0, rfl⟩
  · exact ⟨_, c, rfl⟩
  · exact ⟨_, c, by rw [List.length_map]⟩
theorem Poly.of {W : World} {a : Option Addr} {len cap : Nat} {zs : List (Int × Int)} (h : QRow W (.slice a len cap) zs) (hu : ∀ n ∈ zs, U n.1 ∧ U n.2) : Poly W (.slice a len cap) (zs.map toQ) := ⟨zs, h, hu, rfl⟩
/-- What is told. -/
def IsP (W : World) (v : Value) (l : List F2) : Prop := QRow W v (encL l)
theorem IsP.keep {W w1 : World} {v : Value} {l : List F2} (h : IsP W v l) (hb : Below W.heap.size W w1) : IsP w1 v l := QRow.keep h hb
theorem IsP.poly {W : World} {v : Value} {l : List F2} (h : IsP W v l) : Poly W v l := by
  refine ⟨encL l, h, fun n hn => ?_, ?_⟩
  · obtain ⟨x, _, rfl⟩ := List.mem_map.1 hn
    exact ⟨enc_U _, enc_U _⟩
  · unfold encL
    rw [List.map_map]
    have : (toQ ∘ fun x : F2 => (enc x.a, enc x.b)) = id := by
      funext x; exact F2.eq (toF_enc _) (toF_enc _)
    rw [this, List.map_id]
theorem IsP.slice {W : World} {v : Value} {l : List F2} (h : IsP W v l) : ∃ a c, v = .slice a l.length c := h.poly.slice
theorem IsP.nil (W : World) : IsP W (.slice none 0 0) [] := Or.inl ⟨rfl, rfl⟩
/-- A row that a call made, as a polynomial. -/
def mk (n : Nat) (f : Nat → F2) : List F2 := (List.range n).map f
theorem mk_len (n : Nat) (f : Nat → F2) : (mk n f).length = n := by simp [mk]
theorem mk_at (n : Nat) (f : Nat → F2) (i : Nat) (h : i < n) : cq (mk n f) i = f i := by simp [mk, cq, List.getD, h]
theorem mk_upto {n : Nat} {f : Nat → F2} (h : Upto n f) (i : Nat) : cq (mk n f) i = f i := by
  by_cases hi : i < n
  · exact mk_at n f i hi
  · rw [h i (by omega)]
    have := cq_upto (mk n f) i (by rw [mk_len]; omega)
    exact this
theorem pl_mk {n : Nat} {f : Nat → F2} (h : Upto n f) : pl (mk n f).length (cq (mk n f)) = pl n f := pl_same (cq_upto _) h (mk_upto h)
theorem Arr.isP {W : World} {g n c : Nat} {f : Nat → F2} (h : Arr W g (n * 2) (pc fun j => encP (f j))) (h1 : n ≤ c) (h2 : c ≤ maxLen) : IsP W (.slice (some ⟨g, 0, none⟩) n c) (mk n f) :=
  Or.inr (Or.inr ⟨g, 0, c, by rw [encL_len, mk_len], by rw [encL_len, mk_len]; exact h1, h2, fun i hi => by
    rw [encL_len, mk_len] at hi
    rw [encL_at, mk_at n f i hi, Nat.zero_add]
    exact ⟨(h.cells i hi).1, (h.cells i hi).2.1⟩⟩)
/-- A call that tells a polynomial. -/
def RetP (l : List F2) (w : World) (e : Ending) (w' : World) : Prop := ∃ v, e = .returned v ∧ Below w.heap.size w w' ∧ IsP w' v l
/-- .. in a row of its own. -/
def Fresh (B : Nat) (v : Value) : Prop := ∀ a n c, v = .slice (some a) n c → B ≤ a.block
def RetF (l : List F2) (w : World) (e : Ending) (w' : World) : Prop := ∃ v, e = .returned v ∧ Below w.heap.size w w' ∧ IsP w' v l ∧ Fresh w.heap.size v
theorem RetF.ret {l : List F2} {w w' : World} {e : Ending} (h : RetF l w e w') : RetP l w e w' := by
  obtain ⟨v, h1, h2, h3, _⟩ := h
  exact ⟨v, h1, h2, h3⟩
theorem Fresh.less {B C : Nat} {v : Value} (h : Fresh B v) (hc : C ≤ B) : Fresh C v := fun a n c e => Nat.le_trans hc (h a n c e)
theorem IsP.far {W : World} {v : Value} {l : List F2} {B g : Nat} (h : IsP W v l) (hf : Fresh B v) (hg : g < B) (o : Nat) (u : Value) : IsP (W.setCell ⟨g, o, none⟩ u) v l := by
  rcases h with ⟨rfl, h⟩ | ⟨a, c, rfl, h⟩ | ⟨b, off, c, rfl, h1, h2, h3⟩
  · exact Or.inl ⟨rfl, h⟩
  · exact Or.inr (Or.inl ⟨a, c, rfl, h⟩)
  · have hb := hf _ _ _ rfl
    simp only at hb
    exact Or.inr (Or.inr ⟨b, off, c, rfl, h1, h2, fun i hi => ⟨(World.cell?_setCell_far _ _ _ _ (by show g ≠ b; omega)).trans (h3 i hi).1, (World.cell?_setCell_far _ _ _ _ (by show g ≠ b; omega)).trans (h3 i hi).2⟩⟩)
/-- Under way: the first m cells stand. -/
def prt (f : Nat → F2) (m j : Nat) : Int × Int := if j < m then encP (f j) else (0, 0)
theorem prt_step {f : Nat → F2} {m : Nat} {x : F2} (hx : f m = x) : ∀ j, (if j = m then (enc x.a, enc x.b) else prt f m j) = prt f (m + 1) j := by
  intro j
  unfold prt
  by_cases h : j = m
  · subst h; rw [if_pos rfl, if_pos (by omega), hx]; rfl
  · rw [if_neg h]
    by_cases h2 : j < m
    · rw [if_pos h2, if_pos (by omega)]
    · rw [if_neg h2, if_neg (by omega)]
theorem prt_all (f : Nat → F2) (n : Nat) : ∀ j, j < n → prt f n j = encP (f j) := fun j hj => if_pos hj
end Go.Proofs.YthfkfgjhgicfeaaGreatDoor
namespace Go.Proofs.YthfkfgjhgicfeaaGreatDoor
open Go.RowKit
set_option linter.unusedVariables false

theorem infoQ5 : (Tryz.prog.info? 31).map (fun i => (i.zero, i.size, i.bytes)) = some (some (.agg #[.int .u64 0, .int .u64 0]), 2, 16) := by kernel_rfl
def TrimDown (w : World) (l : List F2) (len : Nat) (i : Value) (W : World) : Prop := ∃ n : Nat, n ≤ len ∧ i = .int .i64 n ∧ tn (cq l) len = tn (cq l) n ∧ Below w.heap.size w W
def TrimUp (w : World) (g n : Nat) (f : Nat → F2) (i : Value) (W : World) : Prop := ∃ m : Nat, m ≤ n ∧ i = .int .i64 m ∧ Below w.heap.size w W ∧ Arr W g (n * 2) (pc (prt f m))
theorem enc_zero_iff (x : F) : enc x = 0 ↔ x = 0 := by
  constructor
  · intro h
    have := toF_enc x
    rw [h] at this
    rw [← this]; rfl
  · rintro rfl; rfl
theorem enc_ne {x : F2} (h : x ≠ 0) : enc x.a ≠ 0 ∨ enc x.b ≠ 0 := by
  by_cases h1 : enc x.a = 0
  · refine Or.inr fun h2 => h (F2.eq ((enc_zero_iff _).1 h1) ((enc_zero_iff _).1 h2))
  · exact Or.inl h1

set_option maxHeartbeats 4000000 in
theorem rtrim_new (v : Value) (l : List F2) (w : World) (h : Poly w v l) (hl : l.length ≤ 4294967296) : Calls Tryz.prog 106 #[v] w (RetF (pl l.length (cq l)) w) := by
  obtain ⟨a, cap, rfl⟩ := h.slice
  obtain ⟨_, hm, hc⟩ := h.at
  unfold maxLen at hm
  have HC := Lib.hid hc
  have HT := Lib.hid (tn_le (cq l))
  have hT1 : Hid (∀ m, cq l m = 0 → tn (cq l) (m + 1) = tn (cq l) m) := Lib.hid (fun m h => by show (if _ then _ else _) = _; rw [if_pos h])
  have hT2 : Hid (∀ m, cq l m ≠ 0 → tn (cq l) (m + 1) = m + 1) := Lib.hid (fun m h => by show (if _ then _ else _) = _; rw [if_neg h])
  have HPL : Hid (∀ W g c, tn (cq l) l.length ≤ c → c ≤ maxLen → Arr W g (tn (cq l) l.length * 2) (pc fun j => encP (cq l j)) → IsP W (.slice (some ⟨g, 0, none⟩) (tn (cq l) l.length) c) (pl l.length (cq l))) := Lib.hid (fun W g c h1 h2 h => h.isP h1 h2)
  clear hc h
  generalize hL : l.length = len at *
  have hL1 : (len : Int) ≤ 4294967296 := by omega
  clear hL
  go_enter Tryz.func106, Tryz.ntmps106
  go_upto_region 2 with fail
  go_loopw [3] (TrimDown w l len) (fun i _ => (intOf i).toNat)
  case atStart => exact ⟨len, Nat.le_refl _, rfl, rfl, Below.refl _ _⟩
  case round =>
    obtain ⟨n, hn, rfl, ht, hB⟩ := hrel
    rcases Nat.eq_zero_or_pos n with hn0 | hn0
    · have p0 : ¬ (0 : Int) < (n : Int) := by omega
      have HN0 := Lib.hid hn0
      clear hn0
      have hmk := fun W => run_make_pairs (P := Tryz.prog) 24 31 (.agg #[.int .u64 0, .int .u64 0]) Tryz.underlying24 infoQ5 rfl n (by omega) W
      have HTN : Hid (tn (cq l) len = n) := Lib.hid (by rw [ht, HN0.out]; rfl)
      have HB := Lib.hid hB
      have hnn : n ≤ len := hn
      clear ht hB
      go_upto_region 6 with fail
      go_loopw [5] (TrimUp w wr.heap.size n (cq l)) (fun i _ => n - (intOf i).toNat)
      case atStart => exact ⟨0, Nat.zero_le _, rfl, HB.out.alloc HB.out.size _, (Arr.newq wr _ _).same (pc_same (fun i _ => by unfold prt; rw [if_neg (by omega)]))⟩
      case round =>
        clear hmk
        obtain ⟨k, hk, rfl, hW, hA⟩ := hrel
        by_cases hlt : k < n
        · exact absurd hlt (by rw [HN0.out]; exact Nat.not_lt_zero _)
        · have hkn : k = n := by omega
          subst hkn
          have HP := Lib.hid (HPL.out _ _ (tn (cq l) len) (Nat.le_refl _) (by have := HT.out len; unfold maxLen; omega) (by rw [HTN.out]; exact hA.same (pc_same (prt_all _ _))))
          have HW := Lib.hid hW
          rw [HTN.out] at HP
          clear hA hW
          go_wp2_with fail
          go_ret
          exact ⟨_, rfl, HW.out, HP.out, fun a n c h => by cases h; exact HB.out.size⟩
    · obtain ⟨m, hm1⟩ : ∃ m, n = m + 1 := ⟨n - 1, by omega⟩
      obtain ⟨b, off, z0, z1, rfl, g0, g1, hR⟩ := HC.out m (by omega)
      replace g0 := bkeep hB g0
      replace g1 := bkeep hB g1
      have e1 : ((n : Int) - 1) = (m : Int) := by omega
      have p1 : (0 : Int) < (n : Int) := by omega
      have HM := Lib.hid hm1
      have p2 : (m : Int) < (len : Int) := by omega
      by_cases hx : cq l m = 0
      · have a1 := radd_q z0 z1 0 0 (cq l m) 0 0 hR rep_zero (by rw [F2.add_zero, hx])
        rw [show enc (0 : F2).a = 0 from rfl, show enc (0 : F2).b = 0 from rfl] at a1
        have HT1 : Hid (tn (cq l) len = tn (cq l) m) := Lib.hid (by rw [ht, HM.out]; exact hT1.out m hx)
        clear ht hx hR hm1 hn0
        go_upto_region 3 with ((go_at_call 33; ((with_reducible refine (a1 _).mono ?_); rintro e w1 ⟨rfl, hb⟩; replace hB := bthen hB hb; clear hb g0 g1)))
        have HB := Lib.hid hB
        clear hB
        go_wp2_with fail
        go_roundw
        case rel => exact ⟨m, by omega, by first | rfl | exact congrArg (Value.int .i64) e1, HT1.out, HB.out⟩
        case measure => have := HM.out; simp [intOf]; omega
      · have a1 := radd_q z0 z1 0 0 (cq l m) 0 (cq l m) hR rep_zero (F2.add_zero _)
        have HNE := Lib.hid (enc_ne hx)
        replace ht : tn (cq l) len = n := ht.trans (by rw [HM.out]; exact hT2.out m hx)
        generalize enc (cq l m).a = s at *
        generalize enc (cq l m).b = t at *
        clear hx hR hm1 hn0
        have hmk := fun W => run_make_pairs (P := Tryz.prog) 24 31 (.agg #[.int .u64 0, .int .u64 0]) Tryz.underlying24 infoQ5 rfl n (by omega) W
        have HTN : Hid (tn (cq l) len = n) := Lib.hid (by exact ht)
        have HB := Lib.hid hB
        have hnn : n ≤ len := hn
        clear ht hB
        go_upto_region 6 with ((go_at_call 33; ((with_reducible refine (a1 _).mono ?_); rintro e w1 ⟨rfl, hb⟩; replace HB := Lib.hid (bthen HB.out hb); clear hb g0 g1 a1)))
        case roundEnd => exfalso; rcases HNE.out with h | h <;> exact h (by assumption)
        all_goals
          go_loopw [5] (TrimUp w w1.heap.size n (cq l)) (fun i _ => n - (intOf i).toNat)
          case atStart => exact ⟨0, Nat.zero_le _, rfl, HB.out.alloc HB.out.size _, (Arr.newq w1 _ _).same (pc_same (fun i _ => by unfold prt; rw [if_neg (by omega)]))⟩
          case round =>
            clear hmk
            obtain ⟨k, hk, rfl, hW, hA⟩ := hrel
            by_cases hlt : k < n
            · obtain ⟨b', off', z2, z3, he, g2, g3, hR⟩ := HC.out k (by omega)
              cases he
              have a2 := radd_q z2 z3 0 0 (cq l k) 0 (cq l k) hR rep_zero (F2.add_zero _)
              have HST := Lib.hid (prt_step (f := cq l) (m := k) rfl)
              generalize cq l k = x at a2 HST
              replace g2 := bkeep hW g2
              replace g3 := bkeep hW g3
              clear hR
              have hlt' : (k : Int) < ((n : Nat) : Int) := by omega
              have hlt2 : (k : Int) < (len : Int) := by omega
              have hwr : w.heap.size ≤ w1.heap.size := HB.out.size
              go_upto_region 7 with ((go_at_call 33; ((with_reducible refine (a2 _).mono ?_); rintro e w2 ⟨rfl, hb⟩; replace hA := hA.keep hb; replace hW := bthen hW hb; obtain ⟨c0, c1, f0, f1⟩ := hA.cells k hlt; clear hb g2 g3)))
              have HA := Lib.hid ((hA.setq k (enc x.a) (enc x.b) hlt).same (pc_same fun j _ => HST.out j))
              have HW := Lib.hid hW
              clear hA hW c0 c1 f0 f1
              go_wp2_with fail
              go_roundw
              case rel => exact ⟨k + 1, by omega, by go_num, (HW.out.setCell hwr _).setCell hwr _, HA.out⟩
              case measure => simp [intOf]; omega
            · have hkn : k = n := by omega
              subst hkn
              have HP := Lib.hid (HPL.out _ _ (tn (cq l) len) (Nat.le_refl _) (by have := HT.out len; unfold maxLen; omega) (by rw [HTN.out]; exact hA.same (pc_same (prt_all _ _))))
              have HW := Lib.hid hW
              rw [HTN.out] at HP
              clear hA hW
              go_wp2_with fail
              go_ret
              exact ⟨_, rfl, HW.out, HP.out, fun a n c h => by cases h; exact HB.out.size⟩

end Go.Proofs.YthfkfgjhgicfeaaGreatDoor
namespace Go.Proofs.YthfkfgjhgicfeaaGreatDoor
open Go.RowKit
set_option linter.unusedVariables false
def AtR (b off len cap k g3 g5 : Nat) (x0 x1 o0 o1 m0 m1 z0 z1 n0 n1 : Int) (sl : Nat) (v : Value) (W : World) : Prop :=
  match sl with
  | 14 => v = .agg #[.int .u64 o0, .int .u64 o1]
  | 15 => v = .agg #[.int .u64 x0, .int .u64 x1]
  | 16 => v = .agg #[.int .u64 m0, .int .u64 m1]
  | 17 => v = .slice (some ⟨b, off, none⟩) len cap
  | 18 => v = .int .i64 k
  | 19 => v = .pointer (some ⟨b, off + k * 2, none⟩)
  | 20 => v = .agg #[.int .u64 z0, .int .u64 z1]
  | _ => v = .agg #[.int .u64 n0, .int .u64 n1]
theorem AtR.keep {b off len cap k g3 g5 : Nat} {x0 x1 o0 o1 m0 m1 z0 z1 n0 n1 : Int} {sl : Nat} {v : Value} {W W' : World} (h : AtR b off len cap k g3 g5 x0 x1 o0 o1 m0 m1 z0 z1 n0 n1 sl v W) (hb : Below W.heap.size W W') : AtR b off len cap k g3 g5 x0 x1 o0 o1 m0 m1 z0 z1 n0 n1 sl v W' := h

def AtDown (w : World) (l : List F2) (x : F2) (len : Nat) (x0 x1 : Int) (i : Value) (W : World) : Prop :=
  ∃ n : Nat, n ≤ len ∧ i = .int .i64 ((n : Int) - 1) ∧ Below w.heap.size w W ∧ Var W w.heap.size x0 x1 ∧ Var W (w.heap.size + 1) 0 0 ∧ Var W (w.heap.size + 1 + 1) (enc (hq len (cq l) x n).a) (enc (hq len (cq l) x n).b)
set_option maxHeartbeats 4000000 in
theorem rat_a (a : Option Addr) (cap : Nat) (l : List F2) (x0 x1 : Int) (x y : F2) (w : World) (h : PolyA w a l.length l) (hx : Rep x0 x1 x) (hl : l.length ≤ 4294967296) (hy : qe l.length (cq l) x = y) :
    Calls Tryz.prog 32 #[.slice a l.length cap, .agg #[.int .u64 x0, .int .u64 x1]] w fun e w' => e = .returned (.agg #[.int .u64 (enc y.a), .int .u64 (enc y.b)]) ∧ Below w.heap.size w w' := by
  subst hy
  obtain ⟨_, hm, hc⟩ := h
  unfold maxLen at hm
  have HC := Lib.hid hc
  have hS := Lib.hid (hq_step l.length (cq l) x); have hE := Lib.hid (hq_end l.length (cq l) x); have hZ := Lib.hid (hq_zero l.length (cq l) x)
  clear hc
  generalize hL : l.length = len at *
  have hL1 : (len : Int) ≤ 4294967296 := by omega
  clear hL
  go_enter Tryz.func32, Tryz.ntmps32
  go_upto_region 3 with fail
  go_loopw [6] (AtDown w l x len x0 x1) (fun i _ => (intOf i + 1).toNat)
  case atStart =>
    refine ⟨len, Nat.le_refl _, rfl, (((Below.refl _ _).alloc (Nat.le_refl _) _).alloc (by simp) _).alloc (by simp; omega) _, ((Var.new w x0 x1 _).alloc _).alloc _, ?_, ?_⟩
    · have := (Var.new (w.alloc (.cells #[.int .u64 x0, .int .u64 x1] 31)) 0 0 31).alloc (.cells #[.int .u64 0, .int .u64 0] 31)
      simpa using this
    · rw [hE.out len (Nat.le_refl _), show enc (0 : F2).a = 0 from rfl, show enc (0 : F2).b = 0 from rfl]
      have := Var.new ((w.alloc (.cells #[.int .u64 x0, .int .u64 x1] 31)).alloc (.cells #[.int .u64 0, .int .u64 0] 31)) 0 0 31
      simpa using this
  case round =>
    obtain ⟨n, hn, rfl, hB, hX, hZ0, hO⟩ := hrel
    rcases Nat.eq_zero_or_pos n with hn0 | hn0
    · subst hn0
      rw [hZ.out] at hO
      have p0 : ((0 : Nat) : Int) - 1 = -1 := by omega
      rw [p0]
      obtain ⟨c0, c1, f0, f1⟩ := hO
      obtain ⟨d0, d1, e0, e1⟩ := hZ0
      clear hX
      go_wp2
      exact bodyPost_ret (v := .agg #[.int .u64 (enc (qe len (cq l) x).a), .int .u64 (enc (qe len (cq l) x).b)]) (by simp [results, Tryz.results32, go_sem, d0, d1]) rfl ⟨rfl, (hB.setCell (by simp) _).setCell (by simp) _⟩
    · obtain ⟨k, rfl⟩ : ∃ k, n = k + 1 := ⟨n - 1, by omega⟩
      have p1 : ((k + 1 : Nat) : Int) - 1 = (k : Int) := by omega
      rw [p1]
      obtain ⟨b, off, z0, z1, rfl, g0, g1, hR⟩ := HC.out k (by omega)
      replace g0 := bkeep hB g0
      replace g1 := bkeep hB g1
      have e := hS.out k (by omega)
      generalize hq len (cq l) x (k + 1) = o at *
      generalize hO' : hq len (cq l) x k = o' at *
      obtain ⟨m, hmm⟩ : ∃ m, o * x = m := ⟨_, rfl⟩
      rw [hmm] at e
      have m1 := rmul_q (enc o.a) (enc o.b) x0 x1 o x m (rep_enc o) hx hmm
      have a1 := radd_q (enc m.a) (enc m.b) z0 z1 m (cq l k) o' (rep_enc m) hR e.symm
      have HO' := Lib.hid hO'
      have HXX := Lib.hid hX; have HOO := Lib.hid hO; have HZ0 := Lib.hid hZ0; have HB := Lib.hid hB
      obtain ⟨x0c, x1c, _, _⟩ := hX
      obtain ⟨o0c, o1c, _, _⟩ := hO
      have hk1 : (k : Int) < (len : Int) := by omega
      have hk0 : (0 : Int) ≤ (k : Int) := by omega
      clear e hmm hO' hR hZ0 hB p1 hn0
      go_upto_region 5 with fail
      refine wp_loose [(14, []), (15, []), (16, [14, 15]), (17, []), (18, []), (19, [17, 18]), (20, [19]), (21, [16, 20])]
        (AtR b off len cap k w.heap.size (w.heap.size + 1 + 1) x0 x1 (enc o.a) (enc o.b) (enc m.a) (enc m.b) z0 z1 (enc o'.a) (enc o'.b)) (fun d => false) (by kernel_rfl) (by kernel_rfl) (fun _ _ _ _ h hb => h.keep hb) ?_ ?_
      · refine opsrun_cons ?_ (opsrun_cons ?_ (opsrun_cons ?_ (opsrun_cons ?_ (opsrun_cons ?_ (opsrun_cons ?_ (opsrun_cons ?_ (opsrun_cons ?_ opsrun_nil)))))))
        all_goals
          refine OpRuns.any ?_
          intro Q0 σ W' K hb hn hK
          simp only [fill, List.map, Act.put, List.setIfInBounds_toArray, List.set_cons_zero, List.set_cons_succ] at hK ⊢
        · clear hn
          have o0c' := bkeep hb o0c
          have o1c' := bkeep hb o1c
          clear o0c o1c
          go_simp
          exact hK _ _ rfl (Below.refl _ _) (fun h => absurd h (by decide))
        · clear hn
          have x0c' := bkeep hb x0c
          have x1c' := bkeep hb x1c
          clear x0c x1c
          go_simp
          exact hK _ _ rfl (Below.refl _ _) (fun h => absurd h (by decide))
        · have h14 : σ 14 = _ := hn 14 (by decide)
          have h15 : σ 15 = _ := hn 15 (by decide)
          clear hn
          simp only [h14, h15] at hK
          go_simp
          go_at_call 46
          refine (m1 _).mono ?_
          rintro e w1 ⟨rfl, hb1⟩
          exact hK _ _ rfl hb1 (fun h => absurd h (by decide))
        · clear hn
          go_simp
          exact hK _ _ rfl (Below.refl _ _) (fun h => absurd h (by decide))
        · clear hn
          go_simp
          exact hK _ _ rfl (Below.refl _ _) (fun h => absurd h (by decide))
        · have h17 : σ 17 = _ := hn 17 (by decide)
          have h18 : σ 18 = _ := hn 18 (by decide)
          clear hn
          simp only [h17, h18] at hK
          go_simp
          exact hK _ _ rfl (Below.refl _ _) (fun h => absurd h (by decide))
        · have h19 : σ 19 = _ := hn 19 (by decide)
          clear hn
          simp only [h19] at hK
          have g0' := bkeep hb g0
          have g1' := bkeep hb g1
          clear g0 g1
          go_simp
          exact hK _ _ rfl (Below.refl _ _) (fun h => absurd h (by decide))
        · have h16 : σ 16 = _ := hn 16 (by decide)
          have h20 : σ 20 = _ := hn 20 (by decide)
          clear hn
          simp only [h16, h20] at hK
          go_simp
          go_at_call 33
          refine (a1 _).mono ?_
          rintro e w1 ⟨rfl, hb1⟩
          exact hK _ _ rfl hb1 (fun h => absurd h (by decide))
      · intro σ W' hb hR' hF
        have h21 : σ 21 = _ := hR' 21 (by decide)
        replace HB := Lib.hid (bthen HB.out hb)
        have hX := HXX.out.keep hb
        have hO := HOO.out.keep hb
        have hZ0 := HZ0.out.keep hb
        have HO := Lib.hid hO; have HX := Lib.hid hX; have HZZ := Lib.hid hZ0
        obtain ⟨c0, c1, f0, f1⟩ := hO
        clear hR' hF hX hZ0 x0c x1c o0c o1c g0 g1 hb m1 a1
        simp only [fill, List.map, Act.put, List.setIfInBounds_toArray, List.set_cons_zero, List.set_cons_succ, List.length_cons, List.length_nil, List.drop_succ_cons, List.drop_zero, Nat.reduceAdd, h21]
        clear h21
        go_wp2_with fail
        go_roundw
        case rel => exact ⟨k, by omega, by rfl, (HB.out.setCell (by show w.heap.size ≤ w.heap.size + 1 + 1; omega) _).setCell (by show w.heap.size ≤ w.heap.size + 1 + 1; omega) _, (HX.out.far (by omega) _ _).far (by omega) _ _, (HZZ.out.far (by omega) _ _).far (by omega) _ _, by rw [HO'.out]; exact HO.out.set _ _⟩
        case measure => simp [intOf]
def PScaleR (g n b off cap k : Nat) (x0 x1 z0 z1 m0 m1 : Int) (sl : Nat) (v : Value) (W : World) : Prop :=
  match sl with
  | 16 => v = .slice (some ⟨g, 0, none⟩) n n
  | 17 => v = .int .i64 k
  | 18 => v = .slice (some ⟨b, off, none⟩) n cap
  | 19 => v = .int .i64 k
  | 20 => v = .pointer (some ⟨b, off + k * 2, none⟩)
  | 21 => v = .agg #[.int .u64 z0, .int .u64 z1]
  | 22 => v = .agg #[.int .u64 x0, .int .u64 x1]
  | 23 => v = .agg #[.int .u64 m0, .int .u64 m1]
  | _ => v = .pointer (some ⟨g, k * 2, none⟩)
theorem PScaleR.keep {g n b off cap k : Nat} {x0 x1 z0 z1 m0 m1 : Int} {sl : Nat} {v : Value} {W W' : World} (h : PScaleR g n b off cap k x0 x1 z0 z1 m0 m1 sl v W) (hb : Below W.heap.size W W') : PScaleR g n b off cap k x0 x1 z0 z1 m0 m1 sl v W' := h

def ScaleUp (w : World) (n : Nat) (f : Nat → F2) (x0 x1 : Int) (i : Value) (W : World) : Prop :=
  ∃ m : Nat, m ≤ n ∧ i = .int .i64 m ∧ Below w.heap.size w W ∧ Var W w.heap.size x0 x1 ∧ Arr W (w.heap.size + 1) (n * 2) (pc (prt f m))
set_option maxHeartbeats 4000000 in
theorem rscaleP (v : Value) (l : List F2) (x0 x1 : Int) (x : F2) (w : World) (h : Poly w v l) (hx : Rep x0 x1 x) (hl : l.length ≤ 4294967296) :
    Calls Tryz.prog 74 #[v, .agg #[.int .u64 x0, .int .u64 x1]] w (RetF (pl l.length (fun i => cq l i * x)) w) := by
  have hup : Upto l.length (fun i => cq l i * x) := fun i hi => by dsimp only; rw [cq_upto l i hi, F2.zero_mul]
  have HPL := Lib.hid (pl_mk hup)
  have HTR : Hid (∀ (W : World) (g : Nat), Arr W g (l.length * 2) (pc fun j => encP (cq l j * x)) → Calls Tryz.prog 106 #[.slice (some ⟨g, 0, none⟩) l.length l.length] W (RetF (pl l.length (fun i => cq l i * x)) W)) := Lib.hid (fun W g hA => by
    have := rtrim_new _ (mk l.length (fun i => cq l i * x)) W (hA.isP (Nat.le_refl _) (by unfold maxLen; omega)).poly (by rw [mk_len]; exact hl)
    rw [HPL.out] at this
    exact this)
  obtain ⟨a, cap, rfl⟩ := h.slice
  obtain ⟨_, hm, hc⟩ := h.at
  unfold maxLen at hm
  have hmk := fun W => run_make_pairs (P := Tryz.prog) 24 31 (.agg #[.int .u64 0, .int .u64 0]) Tryz.underlying24 infoQ5 rfl l.length hl W
  have HC := Lib.hid hc
  clear hc h hup HPL
  generalize hL : l.length = len at *
  have hL1 : (len : Int) ≤ 4294967296 := by omega
  clear hL
  go_enter Tryz.func74, Tryz.ntmps74
  go_upto_region 3 with fail
  go_loopw [6] (ScaleUp w len (fun i => cq l i * x) x0 x1) (fun i _ => len - (intOf i).toNat)
  case atStart =>
    refine ⟨0, Nat.zero_le _, rfl, ((Below.refl _ _).alloc (Nat.le_refl _) _).alloc (by simp) _, (Var.new w x0 x1 _).alloc _, ?_⟩
    have := (Arr.newq (w.alloc (.cells #[.int .u64 x0, .int .u64 x1] 31)) len 31).same (pc_same (y := prt (fun i => cq l i * x) 0) (fun i _ => by unfold prt; rw [if_neg (by omega)]))
    simpa using this
  case round =>
    obtain ⟨k, hk, rfl, hB, hX, hA⟩ := hrel
    by_cases hlt : k < len
    · obtain ⟨b, off, z0, z1, rfl, g0, g1, hR⟩ := HC.out k hlt
      replace g0 := bkeep hB g0
      replace g1 := bkeep hB g1
      obtain ⟨m, hmm⟩ : ∃ m, cq l k * x = m := ⟨_, rfl⟩
      have m1 := rmul_q z0 z1 x0 x1 (cq l k) x m hR hx hmm
      have HST := Lib.hid (prt_step (f := fun i => cq l i * x) (m := k) hmm)
      have HXX := Lib.hid hX; have HB := Lib.hid hB; have HA := Lib.hid hA
      obtain ⟨x0c, x1c, _, _⟩ := hX
      have hk1 : (k : Int) < (len : Int) := by omega
      have hk0 : (0 : Int) ≤ (k : Int) := by omega
      clear hR hB hA hmm hmk
      go_upto_region 5 with fail
      refine wp_loose [(16, []), (17, []), (18, []), (19, []), (20, [18, 19]), (21, [20]), (22, []), (23, [21, 22]), (24, [16, 17])]
        (PScaleR (w.heap.size + 1) len b off cap k x0 x1 z0 z1 (enc m.a) (enc m.b)) (fun d => false) (by kernel_rfl) (by kernel_rfl) (fun _ _ _ _ h hb => h.keep hb) ?_ ?_
      · refine opsrun_cons ?_ (opsrun_cons ?_ (opsrun_cons ?_ (opsrun_cons ?_ (opsrun_cons ?_ (opsrun_cons ?_ (opsrun_cons ?_ (opsrun_cons ?_ (opsrun_cons ?_ opsrun_nil))))))))
        all_goals
          refine OpRuns.any ?_
          intro Q0 σ W' K hb hn hK
          simp only [fill, List.map, Act.put, List.setIfInBounds_toArray, List.set_cons_zero, List.set_cons_succ] at hK ⊢
        · clear hn
          go_simp
          exact hK _ _ rfl (Below.refl _ _) (fun h => absurd h (by decide))
        · clear hn
          go_simp
          exact hK _ _ rfl (Below.refl _ _) (fun h => absurd h (by decide))
        · clear hn
          go_simp
          exact hK _ _ rfl (Below.refl _ _) (fun h => absurd h (by decide))
        · clear hn
          go_simp
          exact hK _ _ rfl (Below.refl _ _) (fun h => absurd h (by decide))
        · have h18 : σ 18 = _ := hn 18 (by decide)
          have h19 : σ 19 = _ := hn 19 (by decide)
          clear hn
          simp only [h18, h19] at hK
          go_simp
          exact hK _ _ rfl (Below.refl _ _) (fun h => absurd h (by decide))
        · have h20 : σ 20 = _ := hn 20 (by decide)
          clear hn
          simp only [h20] at hK
          have g0' := bkeep hb g0
          have g1' := bkeep hb g1
          clear g0 g1
          go_simp
          exact hK _ _ rfl (Below.refl _ _) (fun h => absurd h (by decide))
        · clear hn
          have x0c' := bkeep hb x0c
          have x1c' := bkeep hb x1c
          clear x0c x1c
          go_simp
          exact hK _ _ rfl (Below.refl _ _) (fun h => absurd h (by decide))
        · have h21 : σ 21 = _ := hn 21 (by decide)
          have h22 : σ 22 = _ := hn 22 (by decide)
          clear hn
          simp only [h21, h22] at hK
          go_simp
          go_at_call 46
          refine (m1 _).mono ?_
          rintro e w1 ⟨rfl, hb1⟩
          exact hK _ _ rfl hb1 (fun h => absurd h (by decide))
        · have h16 : σ 16 = _ := hn 16 (by decide)
          have h17 : σ 17 = _ := hn 17 (by decide)
          clear hn
          simp only [h16, h17] at hK
          go_simp
          exact hK _ _ rfl (Below.refl _ _) (fun h => absurd h (by decide))
      · intro σ W' hb hR' hF
        have h23 : σ 23 = _ := hR' 23 (by decide)
        have h24 : σ 24 = _ := hR' 24 (by decide)
        replace HB := Lib.hid (bthen HB.out hb)
        have HX := Lib.hid (HXX.out.keep hb)
        have hA := HA.out.keep hb
        obtain ⟨c0, c1, f0, f1⟩ := hA.cells k hlt
        have HA2 := Lib.hid ((hA.setq k (enc m.a) (enc m.b) hlt).same (pc_same fun j _ => HST.out j))
        clear hR' hF hA x0c x1c g0 g1 hb m1
        simp only [fill, List.map, Act.put, List.setIfInBounds_toArray, List.set_cons_zero, List.set_cons_succ, List.length_cons, List.length_nil, List.drop_succ_cons, List.drop_zero, Nat.reduceAdd, h23, h24]
        clear h23 h24
        go_wp2_with fail
        go_roundw
        case rel => exact ⟨k + 1, by omega, by go_num, (HB.out.setCell (by show w.heap.size ≤ w.heap.size + 1; omega) _).setCell (by show w.heap.size ≤ w.heap.size + 1; omega) _, (HX.out.far (by omega) _ _).far (by omega) _ _, HA2.out⟩
        case measure => simp [intOf]; omega
    · have hkn : k = len := by omega
      subst hkn
      have T := HTR.out wr _ (hA.same (pc_same (prt_all _ _)))
      have HB := Lib.hid hB
      clear hA hB hX hmk
      go_wp2_with ((go_at_call 106; ((with_reducible refine T.mono ?_); rintro e w1 ⟨v1, rfl, hb, hp, hfr⟩; have HB2 := Lib.hid (bthen HB.out hb); have HP := Lib.hid hp; have HFR := Lib.hid (hfr.less HB.out.size); clear hb hp hfr T)))
      go_ret
      exact ⟨_, rfl, HB2.out, HP.out, HFR.out⟩
end Go.Proofs.YthfkfgjhgicfeaaGreatDoor
namespace Go.Proofs.YthfkfgjhgicfeaaGreatDoor
open Go.RowKit
set_option linter.unusedVariables false

/-- A sum. -/
def addP (l m : List F2) : List F2 := pl (max l.length m.length) (fun i => cq l i + cq m i)
theorem addP_upto (l m : List F2) {n : Nat} (h1 : l.length ≤ n) (h2 : m.length ≤ n) : Upto n (fun i => cq l i + cq m i) := fun i hi => by dsimp only; rw [cq_upto l i (by omega), cq_upto m i (by omega), F2.add_zero]
theorem addP_is (l m : List F2) {n : Nat} (h1 : l.length ≤ n) (h2 : m.length ≤ n) : pl n (fun i => cq l i + cq m i) = addP l m := pl_same (addP_upto l m h1 h2) (addP_upto l m (Nat.le_max_left _ _) (Nat.le_max_right _ _)) (fun _ => rfl)
def AddR6 (g n b off len cap k : Nat) (o0 o1 z0 z1 m0 m1 : Int) (sl : Nat) (v : Value) (W : World) : Prop :=
  match sl with
  | 23 => v = .slice (some ⟨g, 0, none⟩) n n
  | 24 => v = .int .i64 k
  | 25 => v = .slice (some ⟨g, 0, none⟩) n n
  | 26 => v = .int .i64 k
  | 27 => v = .pointer (some ⟨g, k * 2, none⟩)
  | 28 => v = .agg #[.int .u64 o0, .int .u64 o1]
  | 29 => v = .slice (some ⟨b, off, none⟩) len cap
  | 30 => v = .int .i64 k
  | 31 => v = .pointer (some ⟨b, off + k * 2, none⟩)
  | 32 => v = .agg #[.int .u64 z0, .int .u64 z1]
  | 33 => v = .agg #[.int .u64 m0, .int .u64 m1]
  | _ => v = .pointer (some ⟨g, k * 2, none⟩)
theorem AddR6.keep {g n b off len cap k : Nat} {o0 o1 z0 z1 m0 m1 : Int} {sl : Nat} {v : Value} {W W' : World} (h : AddR6 g n b off len cap k o0 o1 z0 z1 m0 m1 sl v W) (hb : Below W.heap.size W W') : AddR6 g n b off len cap k o0 o1 z0 z1 m0 m1 sl v W' := h
def AddR8 (g n b off len cap k : Nat) (o0 o1 z0 z1 m0 m1 : Int) (sl : Nat) (v : Value) (W : World) : Prop :=
  match sl with
  | 39 => v = .slice (some ⟨g, 0, none⟩) n n
  | 40 => v = .int .i64 k
  | 41 => v = .slice (some ⟨g, 0, none⟩) n n
  | 42 => v = .int .i64 k
  | 43 => v = .pointer (some ⟨g, k * 2, none⟩)
  | 44 => v = .agg #[.int .u64 o0, .int .u64 o1]
  | 45 => v = .slice (some ⟨b, off, none⟩) len cap
  | 46 => v = .int .i64 k
  | 47 => v = .pointer (some ⟨b, off + k * 2, none⟩)
  | 48 => v = .agg #[.int .u64 z0, .int .u64 z1]
  | 49 => v = .agg #[.int .u64 m0, .int .u64 m1]
  | _ => v = .pointer (some ⟨g, k * 2, none⟩)
theorem AddR8.keep {g n b off len cap k : Nat} {o0 o1 z0 z1 m0 m1 : Int} {sl : Nat} {v : Value} {W W' : World} (h : AddR8 g n b off len cap k o0 o1 z0 z1 m0 m1 sl v W) (hb : Below W.heap.size W W') : AddR8 g n b off len cap k o0 o1 z0 z1 m0 m1 sl v W' := h

def AddUp (w : World) (n : Nat) (f : Nat → F2) (i : Value) (W : World) : Prop :=
  ∃ m : Nat, m ≤ n ∧ i = .int .i64 m ∧ Below w.heap.size w W ∧ Arr W w.heap.size (n * 2) (pc (prt f m))

set_option maxHeartbeats 8000000 in
theorem raddP_lt (a b : Option Addr) (la lb ca cb : Nat) (l m : List F2) (w : World) (h1 : Poly w (.slice a la ca) l) (h2 : Poly w (.slice b lb cb) m) (hla : la ≤ 4294967296) (hlb : lb ≤ 4294967296) (hc : la < lb) :
    Calls Tryz.prog 73 #[.slice a la ca, .slice b lb cb] w (RetF (addP l m) w) := by
  obtain ⟨e1, hm1, hc1⟩ := h1.at
  obtain ⟨e2, hm2, hc2⟩ := h2.at
  have HTR : Hid (∀ (W : World) (g : Nat), Arr W g (lb * 2) (pc fun j => encP (cq l j + cq m j)) → Calls Tryz.prog 106 #[.slice (some ⟨g, 0, none⟩) lb lb] W (RetF (addP l m) W)) := Lib.hid (fun W g hA => by
    have := rtrim_new _ (mk lb (fun i => cq l i + cq m i)) W (hA.isP (Nat.le_refl _) (by unfold maxLen; omega)).poly (by rw [mk_len]; omega)
    rw [pl_mk (addP_upto l m (by omega) (by omega)), addP_is l m (by omega) (by omega)] at this
    exact this)
  have HLU := Lib.hid (e1 ▸ cq_upto l : Upto la (cq l)); have HMU := Lib.hid (e2 ▸ cq_upto m : Upto lb (cq m))
  have HNE2 : Hid (∀ k, k < lb → ∀ b2 off2, b = some ⟨b2, off2, none⟩ → w.heap.size ≠ b2) := Lib.hid (fun k hk b2 off2 hb e => by
    obtain ⟨b', off', z0, z1, e', c, d, r⟩ := hc2 k hk
    rw [hb] at e'
    cases e'
    have := World.block_lt_of_cell? w _ c
    simp at this; omega)
  unfold maxLen at hm1 hm2
  have hmk := fun W => run_make_pairs (P := Tryz.prog) 24 31 (.agg #[.int .u64 0, .int .u64 0]) Tryz.underlying24 infoQ5 rfl lb (by omega) W
  have HC := Lib.hid hc1; have HD := Lib.hid hc2
  have hcI : (la : Int) < (lb : Int) := by omega
  have l1 : (la : Int) ≤ 4294967296 := by omega
  have l2 : (lb : Int) ≤ 4294967296 := by omega
  clear hc1 hc2 h1 h2 e1 e2
  go_enter Tryz.func73, Tryz.ntmps73
  go_upto_region 3 with fail
  clear hmk
  go_loopw [6] (AddUp w lb (fun i => cq l i + cq m i)) (fun i _ => lb - (intOf i).toNat)
  case atStart => exact ⟨0, Nat.zero_le _, rfl, (Below.refl _ _).alloc (Nat.le_refl _) _, (Arr.newq w _ _).same (pc_same (fun i _ => by unfold prt; rw [if_neg (by omega)]))⟩
  case round =>
    obtain ⟨k, hk, rfl, hB, hA⟩ := hrel
    by_cases hlt : k < lb
    · have hk1 : (k : Int) < ((lb : Nat) : Int) := by omega
      have hk0 : (0 : Int) ≤ (k : Int) := by omega
      have HST : Hid (∀ x : F2, cq l k + cq m k = x → ∀ j, (if j = k then (enc x.a, enc x.b) else prt (fun i => cq l i + cq m i) k j) = prt (fun i => cq l i + cq m i) (k + 1) j) := Lib.hid (fun x hx => prt_step hx)
      by_cases hka : k < la
      · obtain ⟨b, off, z0, z1, rfl, g0, g1, hR⟩ := HC.out k hka
        replace g0 := bkeep hB g0
        replace g1 := bkeep hB g1
        have m1 := radd_q 0 0 z0 z1 0 (cq l k) (cq l k) rep_zero hR (F2.zero_add _)
        have hka1 : (k : Int) < (la : Int) := by omega
        have hz : prt (fun i => cq l i + cq m i) k k = (0, 0) := if_neg (Nat.lt_irrefl _)
        obtain ⟨o0c, o1c, _, _⟩ := hA.cells k hlt
        rw [hz] at o0c o1c
        dsimp only at o0c o1c
        have HB := Lib.hid hB; have HA := Lib.hid hA
        clear hR hB hA hz
        by_cases hkb : k < lb
        · obtain ⟨b2, off2, y0, y1, rfl, k0, k1, hS⟩ := HD.out k hkb
          have hkb1 : (k : Int) < (lb : Int) := by omega
          have m2 := radd_q (enc (cq l k).a) (enc (cq l k).b) y0 y1 (cq l k) (cq m k) (cq l k + cq m k) (rep_enc _) hS rfl
          have HST2 := Lib.hid (HST.out _ rfl)
          have K0 := Lib.hid (bkeep HB.out k0); have K1 := Lib.hid (bkeep HB.out k1)
          clear hS HST k0 k1
          generalize cq l k + cq m k = y at *
          generalize hxl : cq l k = x at *
          clear hxl
          go_upto_region 6 with fail
          refine wp_loose [(23, []), (24, []), (25, []), (26, []), (27, [25, 26]), (28, [27]), (29, []), (30, []), (31, [29, 30]), (32, [31]), (33, [28, 32]), (34, [23, 24])]
            (AddR6 w.heap.size lb b off la ca k 0 0 z0 z1 (enc x.a) (enc x.b)) (fun d => false) (by kernel_rfl) (by kernel_rfl) (fun _ _ _ _ h hb => h.keep hb) ?_ ?_
          · refine opsrun_cons ?_ (opsrun_cons ?_ (opsrun_cons ?_ (opsrun_cons ?_ (opsrun_cons ?_ (opsrun_cons ?_ (opsrun_cons ?_ (opsrun_cons ?_ (opsrun_cons ?_ (opsrun_cons ?_ (opsrun_cons ?_ (opsrun_cons ?_ opsrun_nil)))))))))))
            all_goals
              refine OpRuns.any ?_
              intro Q0 σ W' K hb hn hK
              simp only [fill, List.map, Act.put, List.setIfInBounds_toArray, List.set_cons_zero, List.set_cons_succ] at hK ⊢
            · clear hn
              go_simp
              exact hK _ _ rfl (Below.refl _ _) (fun h => absurd h (by decide))
            · clear hn
              go_simp
              exact hK _ _ rfl (Below.refl _ _) (fun h => absurd h (by decide))
            · clear hn
              go_simp
              exact hK _ _ rfl (Below.refl _ _) (fun h => absurd h (by decide))
            · clear hn
              go_simp
              exact hK _ _ rfl (Below.refl _ _) (fun h => absurd h (by decide))
            · have h25 : σ 25 = _ := hn 25 (by decide)
              have h26 : σ 26 = _ := hn 26 (by decide)
              clear hn
              simp only [h25, h26] at hK
              go_simp
              exact hK _ _ rfl (Below.refl _ _) (fun h => absurd h (by decide))
            · have h27 : σ 27 = _ := hn 27 (by decide)
              clear hn
              simp only [h27] at hK
              have o0c' := bkeep hb o0c
              have o1c' := bkeep hb o1c
              clear o0c o1c
              go_simp
              exact hK _ _ rfl (Below.refl _ _) (fun h => absurd h (by decide))
            · clear hn
              go_simp
              exact hK _ _ rfl (Below.refl _ _) (fun h => absurd h (by decide))
            · clear hn
              go_simp
              exact hK _ _ rfl (Below.refl _ _) (fun h => absurd h (by decide))
            · have h29 : σ 29 = _ := hn 29 (by decide)
              have h30 : σ 30 = _ := hn 30 (by decide)
              clear hn
              simp only [h29, h30] at hK
              go_simp
              exact hK _ _ rfl (Below.refl _ _) (fun h => absurd h (by decide))
            · have h31 : σ 31 = _ := hn 31 (by decide)
              clear hn
              simp only [h31] at hK
              have g0' := bkeep hb g0
              have g1' := bkeep hb g1
              clear g0 g1
              go_simp
              exact hK _ _ rfl (Below.refl _ _) (fun h => absurd h (by decide))
            · have h28 : σ 28 = _ := hn 28 (by decide)
              have h32 : σ 32 = _ := hn 32 (by decide)
              clear hn
              simp only [h28, h32] at hK
              go_simp
              go_at_call 33
              refine (m1 _).mono ?_
              rintro e w1 ⟨rfl, hb1⟩
              exact hK _ _ rfl hb1 (fun h => absurd h (by decide))
            · have h23 : σ 23 = _ := hn 23 (by decide)
              have h24 : σ 24 = _ := hn 24 (by decide)
              clear hn
              simp only [h23, h24] at hK
              go_simp
              exact hK _ _ rfl (Below.refl _ _) (fun h => absurd h (by decide))
          · intro σ W' hb hR' hF
            have h33 : σ 33 = _ := hR' 33 (by decide)
            have h34 : σ 34 = _ := hR' 34 (by decide)
            replace HB := Lib.hid (bthen HB.out hb)
            have hA := HA.out.keep hb
            have g2 := bkeep hb K0.out
            have g3 := bkeep hb K1.out
            obtain ⟨c0, c1, f0, f1⟩ := hA.cells k hlt
            have HA2 := Lib.hid (hA.setq k (enc x.a) (enc x.b) hlt)
            clear hR' hF hA o0c o1c g0 g1 hb m1
            simp only [fill, List.map, Act.put, List.setIfInBounds_toArray, List.set_cons_zero, List.set_cons_succ, List.length_cons, List.length_nil, List.drop_succ_cons, List.drop_zero, Nat.reduceAdd, h33, h34]
            clear h33 h34
            go_upto_region 8 with fail
            refine wp_gen (fun W => Below w.heap.size w W ∧ Arr W w.heap.size (lb * 2) (pc fun i => if i = k then (enc x.a, enc x.b) else prt (fun i => cq l i + cq m i) k i) ∧ W.cell? ⟨b2, off2 + k * 2, none⟩ = some (.int .u64 y0) ∧ W.cell? ⟨b2, off2 + k * 2 + 1, none⟩ = some (.int .u64 y1)) ⟨(HB.out.setCell (Nat.le_refl _) _).setCell (Nat.le_refl _) _, HA2.out, ?_, ?_⟩ ?_
            · exact (World.cell?_setCell_far _ _ _ _ (by show w.heap.size ≠ b2; exact HNE2.out k hkb _ _ rfl)).trans ((World.cell?_setCell_far _ _ _ _ (by show w.heap.size ≠ b2; exact HNE2.out k hkb _ _ rfl)).trans g2)
            · exact (World.cell?_setCell_far _ _ _ _ (by show w.heap.size ≠ b2; exact HNE2.out k hkb _ _ rfl)).trans ((World.cell?_setCell_far _ _ _ _ (by show w.heap.size ≠ b2; exact HNE2.out k hkb _ _ rfl)).trans g3)
            clear HB HA2 HA c0 c1 f0 f1 g2 g3
            rintro W3 ⟨hB, hA, g2, g3⟩
            obtain ⟨o0c, o1c, _, _⟩ := hA.cells k hlt
            rw [if_pos rfl] at o0c o1c
            dsimp only at o0c o1c
            have HB := Lib.hid hB; have HA := Lib.hid hA
            clear hB hA
            refine wp_loose [(39, []), (40, []), (41, []), (42, []), (43, [41, 42]), (44, [43]), (45, []), (46, []), (47, [45, 46]), (48, [47]), (49, [44, 48]), (50, [39, 40])]
              (AddR8 w.heap.size lb b2 off2 lb cb k (enc x.a) (enc x.b) y0 y1 (enc y.a) (enc y.b)) (fun d => false) (by kernel_rfl) (by kernel_rfl) (fun _ _ _ _ h hb => h.keep hb) ?_ ?_
            · refine opsrun_cons ?_ (opsrun_cons ?_ (opsrun_cons ?_ (opsrun_cons ?_ (opsrun_cons ?_ (opsrun_cons ?_ (opsrun_cons ?_ (opsrun_cons ?_ (opsrun_cons ?_ (opsrun_cons ?_ (opsrun_cons ?_ (opsrun_cons ?_ opsrun_nil)))))))))))
              all_goals
                refine OpRuns.any ?_
                intro Q0 σ W' K hb hn hK
                simp only [fill, List.map, Act.put, List.setIfInBounds_toArray, List.set_cons_zero, List.set_cons_succ] at hK ⊢
              · clear hn
                go_simp
                exact hK _ _ rfl (Below.refl _ _) (fun h => absurd h (by decide))
              · clear hn
                go_simp
                exact hK _ _ rfl (Below.refl _ _) (fun h => absurd h (by decide))
              · clear hn
                go_simp
                exact hK _ _ rfl (Below.refl _ _) (fun h => absurd h (by decide))
              · clear hn
                go_simp
                exact hK _ _ rfl (Below.refl _ _) (fun h => absurd h (by decide))
              · have h41 : σ 41 = _ := hn 41 (by decide)
                have h42 : σ 42 = _ := hn 42 (by decide)
                clear hn
                simp only [h41, h42] at hK
                go_simp
                exact hK _ _ rfl (Below.refl _ _) (fun h => absurd h (by decide))
              · have h43 : σ 43 = _ := hn 43 (by decide)
                clear hn
                simp only [h43] at hK
                have o0c' := bkeep hb o0c
                have o1c' := bkeep hb o1c
                clear o0c o1c
                go_simp
                exact hK _ _ rfl (Below.refl _ _) (fun h => absurd h (by decide))
              · clear hn
                go_simp
                exact hK _ _ rfl (Below.refl _ _) (fun h => absurd h (by decide))
              · clear hn
                go_simp
                exact hK _ _ rfl (Below.refl _ _) (fun h => absurd h (by decide))
              · have h45 : σ 45 = _ := hn 45 (by decide)
                have h46 : σ 46 = _ := hn 46 (by decide)
                clear hn
                simp only [h45, h46] at hK
                go_simp
                exact hK _ _ rfl (Below.refl _ _) (fun h => absurd h (by decide))
              · have h47 : σ 47 = _ := hn 47 (by decide)
                clear hn
                simp only [h47] at hK
                have g2' := bkeep hb g2
                have g3' := bkeep hb g3
                clear g2 g3
                go_simp
                exact hK _ _ rfl (Below.refl _ _) (fun h => absurd h (by decide))
              · have h44 : σ 44 = _ := hn 44 (by decide)
                have h48 : σ 48 = _ := hn 48 (by decide)
                clear hn
                simp only [h44, h48] at hK
                go_simp
                go_at_call 33
                refine (m2 _).mono ?_
                rintro e w1 ⟨rfl, hb1⟩
                exact hK _ _ rfl hb1 (fun h => absurd h (by decide))
              · have h39 : σ 39 = _ := hn 39 (by decide)
                have h40 : σ 40 = _ := hn 40 (by decide)
                clear hn
                simp only [h39, h40] at hK
                go_simp
                exact hK _ _ rfl (Below.refl _ _) (fun h => absurd h (by decide))
            · intro σ W' hb hR' hF
              have h49 : σ 49 = _ := hR' 49 (by decide)
              have h50 : σ 50 = _ := hR' 50 (by decide)
              replace HB := Lib.hid (bthen HB.out hb)
              have hA := HA.out.keep hb
              obtain ⟨c0, c1, f0, f1⟩ := hA.cells k hlt
              have HA2 := Lib.hid ((hA.setq k (enc y.a) (enc y.b) hlt).same (pc_same fun j _ => by
                show (if j = k then (enc y.a, enc y.b) else if j = k then (enc x.a, enc x.b) else prt (fun i => cq l i + cq m i) k j) = prt (fun i => cq l i + cq m i) (k + 1) j
                rw [← HST2.out j]
                by_cases e : j = k
                · rw [if_pos e, if_pos e]
                · rw [if_neg e, if_neg e, if_neg e]))
              clear hR' hF hA o0c o1c g2 g3 hb m2
              simp only [fill, List.map, Act.put, List.setIfInBounds_toArray, List.set_cons_zero, List.set_cons_succ, List.length_cons, List.length_nil, List.drop_succ_cons, List.drop_zero, Nat.reduceAdd, h49, h50]
              clear h49 h50
              go_wp2_with fail
              go_roundw
              case rel => exact ⟨k + 1, by omega, by go_num, (HB.out.setCell (Nat.le_refl _) _).setCell (Nat.le_refl _) _, HA2.out⟩
              case measure => simp [intOf]; omega
        · exact absurd hlt hkb
      · have hka1 : ¬ (k : Int) < (la : Int) := by omega
        have hkb : k < lb := by omega
        have hkb1 : (k : Int) < (lb : Int) := by omega
        obtain ⟨b2, off2, y0, y1, rfl, g2, g3, hS⟩ := HD.out k hkb
        replace g2 := bkeep hB g2
        replace g3 := bkeep hB g3
        have m2 := radd_q 0 0 y0 y1 0 (cq m k) (cq m k) rep_zero hS (F2.zero_add _)
        have e0 : cq l k = 0 := HLU.out k (by omega)
        have HST2 := Lib.hid (HST.out (cq m k) (by rw [e0, F2.zero_add]))
        have hz : prt (fun i => cq l i + cq m i) k k = (0, 0) := if_neg (Nat.lt_irrefl _)
        obtain ⟨o0c, o1c, _, _⟩ := hA.cells k hlt
        rw [hz] at o0c o1c
        dsimp only at o0c o1c
        have HB := Lib.hid hB; have HA := Lib.hid hA
        clear hS hB hA hz HST e0
        generalize hym : cq m k = y at *
        clear hym
        go_upto_region 8 with fail
        refine wp_loose [(39, []), (40, []), (41, []), (42, []), (43, [41, 42]), (44, [43]), (45, []), (46, []), (47, [45, 46]), (48, [47]), (49, [44, 48]), (50, [39, 40])]
          (AddR8 w.heap.size lb b2 off2 lb cb k 0 0 y0 y1 (enc y.a) (enc y.b)) (fun d => false) (by kernel_rfl) (by kernel_rfl) (fun _ _ _ _ h hb => h.keep hb) ?_ ?_
        · refine opsrun_cons ?_ (opsrun_cons ?_ (opsrun_cons ?_ (opsrun_cons ?_ (opsrun_cons ?_ (opsrun_cons ?_ (opsrun_cons ?_ (opsrun_cons ?_ (opsrun_cons ?_ (opsrun_cons ?_ (opsrun_cons ?_ (opsrun_cons ?_ opsrun_nil)))))))))))
          all_goals
            refine OpRuns.any ?_
            intro Q0 σ W' K hb hn hK
            simp only [fill, List.map, Act.put, List.setIfInBounds_toArray, List.set_cons_zero, List.set_cons_succ] at hK ⊢
          · clear hn
            go_simp
            exact hK _ _ rfl (Below.refl _ _) (fun h => absurd h (by decide))
          · clear hn
            go_simp
            exact hK _ _ rfl (Below.refl _ _) (fun h => absurd h (by decide))
          · clear hn
            go_simp
            exact hK _ _ rfl (Below.refl _ _) (fun h => absurd h (by decide))
          · clear hn
            go_simp
            exact hK _ _ rfl (Below.refl _ _) (fun h => absurd h (by decide))
          · have h41 : σ 41 = _ := hn 41 (by decide)
            have h42 : σ 42 = _ := hn 42 (by decide)
            clear hn
            simp only [h41, h42] at hK
            go_simp
            exact hK _ _ rfl (Below.refl _ _) (fun h => absurd h (by decide))
          · have h43 : σ 43 = _ := hn 43 (by decide)
            clear hn
            simp only [h43] at hK
            have o0c' := bkeep hb o0c
            have o1c' := bkeep hb o1c
            clear o0c o1c
            go_simp
            exact hK _ _ rfl (Below.refl _ _) (fun h => absurd h (by decide))
          · clear hn
            go_simp
            exact hK _ _ rfl (Below.refl _ _) (fun h => absurd h (by decide))
          · clear hn
            go_simp
            exact hK _ _ rfl (Below.refl _ _) (fun h => absurd h (by decide))
          · have h45 : σ 45 = _ := hn 45 (by decide)
            have h46 : σ 46 = _ := hn 46 (by decide)
            clear hn
            simp only [h45, h46] at hK
            go_simp
            exact hK _ _ rfl (Below.refl _ _) (fun h => absurd h (by decide))
          · have h47 : σ 47 = _ := hn 47 (by decide)
            clear hn
            simp only [h47] at hK
            have g2' := bkeep hb g2
            have g3' := bkeep hb g3
            clear g2 g3
            go_simp
            exact hK _ _ rfl (Below.refl _ _) (fun h => absurd h (by decide))
          · have h44 : σ 44 = _ := hn 44 (by decide)
            have h48 : σ 48 = _ := hn 48 (by decide)
            clear hn
            simp only [h44, h48] at hK
            go_simp
            go_at_call 33
            refine (m2 _).mono ?_
            rintro e w1 ⟨rfl, hb1⟩
            exact hK _ _ rfl hb1 (fun h => absurd h (by decide))
          · have h39 : σ 39 = _ := hn 39 (by decide)
            have h40 : σ 40 = _ := hn 40 (by decide)
            clear hn
            simp only [h39, h40] at hK
            go_simp
            exact hK _ _ rfl (Below.refl _ _) (fun h => absurd h (by decide))
        · intro σ W' hb hR' hF
          have h49 : σ 49 = _ := hR' 49 (by decide)
          have h50 : σ 50 = _ := hR' 50 (by decide)
          replace HB := Lib.hid (bthen HB.out hb)
          have hA := HA.out.keep hb
          obtain ⟨c0, c1, f0, f1⟩ := hA.cells k hlt
          have HA2 := Lib.hid ((hA.setq k (enc y.a) (enc y.b) hlt).same (pc_same fun j _ => HST2.out j))
          clear hR' hF hA o0c o1c g2 g3 hb m2
          simp only [fill, List.map, Act.put, List.setIfInBounds_toArray, List.set_cons_zero, List.set_cons_succ, List.length_cons, List.length_nil, List.drop_succ_cons, List.drop_zero, Nat.reduceAdd, h49, h50]
          clear h49 h50
          go_wp2_with fail
          go_roundw
          case rel => exact ⟨k + 1, by omega, by go_num, (HB.out.setCell (Nat.le_refl _) _).setCell (Nat.le_refl _) _, HA2.out⟩
          case measure => simp [intOf]; omega
    · have hkn : k = lb := by omega
      subst hkn
      have T := HTR.out wr _ (hA.same (pc_same (prt_all _ _)))
      have HB := Lib.hid hB
      clear hA hB
      go_wp2_with ((go_at_call 106; ((with_reducible refine T.mono ?_); rintro e w1 ⟨v1, rfl, hb, hp, hfr⟩; have HB2 := Lib.hid (bthen HB.out hb); have HP := Lib.hid hp; have HFR := Lib.hid (hfr.less HB.out.size); clear hb hp hfr T)))
      go_ret
      exact ⟨_, rfl, HB2.out, HP.out, HFR.out⟩

set_option maxHeartbeats 8000000 in
theorem raddP_ge (a b : Option Addr) (la lb ca cb : Nat) (l m : List F2) (w : World) (h1 : Poly w (.slice a la ca) l) (h2 : Poly w (.slice b lb cb) m) (hla : la ≤ 4294967296) (hlb : lb ≤ 4294967296) (hc : lb ≤ la) :
    Calls Tryz.prog 73 #[.slice a la ca, .slice b lb cb] w (RetF (addP l m) w) := by
  obtain ⟨e1, hm1, hc1⟩ := h1.at
  obtain ⟨e2, hm2, hc2⟩ := h2.at
  have HTR : Hid (∀ (W : World) (g : Nat), Arr W g (la * 2) (pc fun j => encP (cq l j + cq m j)) → Calls Tryz.prog 106 #[.slice (some ⟨g, 0, none⟩) la la] W (RetF (addP l m) W)) := Lib.hid (fun W g hA => by
    have := rtrim_new _ (mk la (fun i => cq l i + cq m i)) W (hA.isP (Nat.le_refl _) (by unfold maxLen; omega)).poly (by rw [mk_len]; omega)
    rw [pl_mk (addP_upto l m (by omega) (by omega)), addP_is l m (by omega) (by omega)] at this
    exact this)
  have HLU := Lib.hid (e1 ▸ cq_upto l : Upto la (cq l)); have HMU := Lib.hid (e2 ▸ cq_upto m : Upto lb (cq m))
  have HNE2 : Hid (∀ k, k < lb → ∀ b2 off2, b = some ⟨b2, off2, none⟩ → w.heap.size ≠ b2) := Lib.hid (fun k hk b2 off2 hb e => by
    obtain ⟨b', off', z0, z1, e', c, d, r⟩ := hc2 k hk
    rw [hb] at e'
    cases e'
    have := World.block_lt_of_cell? w _ c
    simp at this; omega)
  unfold maxLen at hm1 hm2
  have hmk := fun W => run_make_pairs (P := Tryz.prog) 24 31 (.agg #[.int .u64 0, .int .u64 0]) Tryz.underlying24 infoQ5 rfl la (by omega) W
  have HC := Lib.hid hc1; have HD := Lib.hid hc2
  have hcI : (lb : Int) ≤ (la : Int) := by omega
  have l1 : (la : Int) ≤ 4294967296 := by omega
  have l2 : (lb : Int) ≤ 4294967296 := by omega
  clear hc1 hc2 h1 h2 e1 e2
  go_enter Tryz.func73, Tryz.ntmps73
  go_upto_region 3 with fail
  clear hmk
  go_loopw [6] (AddUp w la (fun i => cq l i + cq m i)) (fun i _ => la - (intOf i).toNat)
  case atStart => exact ⟨0, Nat.zero_le _, rfl, (Below.refl _ _).alloc (Nat.le_refl _) _, (Arr.newq w _ _).same (pc_same (fun i _ => by unfold prt; rw [if_neg (by omega)]))⟩
  case round =>
    obtain ⟨k, hk, rfl, hB, hA⟩ := hrel
    by_cases hlt : k < la
    · have hk1 : (k : Int) < ((la : Nat) : Int) := by omega
      have hk0 : (0 : Int) ≤ (k : Int) := by omega
      have HST : Hid (∀ x : F2, cq l k + cq m k = x → ∀ j, (if j = k then (enc x.a, enc x.b) else prt (fun i => cq l i + cq m i) k j) = prt (fun i => cq l i + cq m i) (k + 1) j) := Lib.hid (fun x hx => prt_step hx)
      by_cases hka : k < la
      · obtain ⟨b, off, z0, z1, rfl, g0, g1, hR⟩ := HC.out k hka
        replace g0 := bkeep hB g0
        replace g1 := bkeep hB g1
        have m1 := radd_q 0 0 z0 z1 0 (cq l k) (cq l k) rep_zero hR (F2.zero_add _)
        have hka1 : (k : Int) < (la : Int) := by omega
        have hz : prt (fun i => cq l i + cq m i) k k = (0, 0) := if_neg (Nat.lt_irrefl _)
        obtain ⟨o0c, o1c, _, _⟩ := hA.cells k hlt
        rw [hz] at o0c o1c
        dsimp only at o0c o1c
        have HB := Lib.hid hB; have HA := Lib.hid hA
        clear hR hB hA hz
        by_cases hkb : k < lb
        · obtain ⟨b2, off2, y0, y1, rfl, k0, k1, hS⟩ := HD.out k hkb
          have hkb1 : (k : Int) < (lb : Int) := by omega
          have m2 := radd_q (enc (cq l k).a) (enc (cq l k).b) y0 y1 (cq l k) (cq m k) (cq l k + cq m k) (rep_enc _) hS rfl
          have HST2 := Lib.hid (HST.out _ rfl)
          have K0 := Lib.hid (bkeep HB.out k0); have K1 := Lib.hid (bkeep HB.out k1)
          clear hS HST k0 k1
          generalize cq l k + cq m k = y at *
          generalize hxl : cq l k = x at *
          clear hxl
          go_upto_region 6 with fail
          refine wp_loose [(23, []), (24, []), (25, []), (26, []), (27, [25, 26]), (28, [27]), (29, []), (30, []), (31, [29, 30]), (32, [31]), (33, [28, 32]), (34, [23, 24])]
            (AddR6 w.heap.size la b off la ca k 0 0 z0 z1 (enc x.a) (enc x.b)) (fun d => false) (by kernel_rfl) (by kernel_rfl) (fun _ _ _ _ h hb => h.keep hb) ?_ ?_
          · refine opsrun_cons ?_ (opsrun_cons ?_ (opsrun_cons ?_ (opsrun_cons ?_ (opsrun_cons ?_ (opsrun_cons ?_ (opsrun_cons ?_ (opsrun_cons ?_ (opsrun_cons ?_ (opsrun_cons ?_ (opsrun_cons ?_ (opsrun_cons ?_ opsrun_nil)))))))))))
            all_goals
              refine OpRuns.any ?_
              intro Q0 σ W' K hb hn hK
              simp only [fill, List.map, Act.put, List.setIfInBounds_toArray, List.set_cons_zero, List.set_cons_succ] at hK ⊢
            · clear hn
              go_simp
              exact hK _ _ rfl (Below.refl _ _) (fun h => absurd h (by decide))
            · clear hn
              go_simp
              exact hK _ _ rfl (Below.refl _ _) (fun h => absurd h (by decide))
            · clear hn
              go_simp
              exact hK _ _ rfl (Below.refl _ _) (fun h => absurd h (by decide))
            · clear hn
              go_simp
              exact hK _ _ rfl (Below.refl _ _) (fun h => absurd h (by decide))
            · have h25 : σ 25 = _ := hn 25 (by decide)
              have h26 : σ 26 = _ := hn 26 (by decide)
              clear hn
              simp only [h25, h26] at hK
              go_simp
              exact hK _ _ rfl (Below.refl _ _) (fun h => absurd h (by decide))
            · have h27 : σ 27 = _ := hn 27 (by decide)
              clear hn
              simp only [h27] at hK
              have o0c' := bkeep hb o0c
              have o1c' := bkeep hb o1c
              clear o0c o1c
              go_simp
              exact hK _ _ rfl (Below.refl _ _) (fun h => absurd h (by decide))
            · clear hn
              go_simp
              exact hK _ _ rfl (Below.refl _ _) (fun h => absurd h (by decide))
            · clear hn
              go_simp
              exact hK _ _ rfl (Below.refl _ _) (fun h => absurd h (by decide))
            · have h29 : σ 29 = _ := hn 29 (by decide)
              have h30 : σ 30 = _ := hn 30 (by decide)
              clear hn
              simp only [h29, h30] at hK
              go_simp
              exact hK _ _ rfl (Below.refl _ _) (fun h => absurd h (by decide))
            · have h31 : σ 31 = _ := hn 31 (by decide)
              clear hn
              simp only [h31] at hK
              have g0' := bkeep hb g0
              have g1' := bkeep hb g1
              clear g0 g1
              go_simp
              exact hK _ _ rfl (Below.refl _ _) (fun h => absurd h (by decide))
            · have h28 : σ 28 = _ := hn 28 (by decide)
              have h32 : σ 32 = _ := hn 32 (by decide)
              clear hn
              simp only [h28, h32] at hK
              go_simp
              go_at_call 33
              refine (m1 _).mono ?_
              rintro e w1 ⟨rfl, hb1⟩
              exact hK _ _ rfl hb1 (fun h => absurd h (by decide))
            · have h23 : σ 23 = _ := hn 23 (by decide)
              have h24 : σ 24 = _ := hn 24 (by decide)
              clear hn
              simp only [h23, h24] at hK
              go_simp
              exact hK _ _ rfl (Below.refl _ _) (fun h => absurd h (by decide))
          · intro σ W' hb hR' hF
            have h33 : σ 33 = _ := hR' 33 (by decide)
            have h34 : σ 34 = _ := hR' 34 (by decide)
            replace HB := Lib.hid (bthen HB.out hb)
            have hA := HA.out.keep hb
            have g2 := bkeep hb K0.out
            have g3 := bkeep hb K1.out
            obtain ⟨c0, c1, f0, f1⟩ := hA.cells k hlt
            have HA2 := Lib.hid (hA.setq k (enc x.a) (enc x.b) hlt)
            clear hR' hF hA o0c o1c g0 g1 hb m1
            simp only [fill, List.map, Act.put, List.setIfInBounds_toArray, List.set_cons_zero, List.set_cons_succ, List.length_cons, List.length_nil, List.drop_succ_cons, List.drop_zero, Nat.reduceAdd, h33, h34]
            clear h33 h34
            go_upto_region 8 with fail
            refine wp_gen (fun W => Below w.heap.size w W ∧ Arr W w.heap.size (la * 2) (pc fun i => if i = k then (enc x.a, enc x.b) else prt (fun i => cq l i + cq m i) k i) ∧ W.cell? ⟨b2, off2 + k * 2, none⟩ = some (.int .u64 y0) ∧ W.cell? ⟨b2, off2 + k * 2 + 1, none⟩ = some (.int .u64 y1)) ⟨(HB.out.setCell (Nat.le_refl _) _).setCell (Nat.le_refl _) _, HA2.out, ?_, ?_⟩ ?_
            · exact (World.cell?_setCell_far _ _ _ _ (by show w.heap.size ≠ b2; exact HNE2.out k hkb _ _ rfl)).trans ((World.cell?_setCell_far _ _ _ _ (by show w.heap.size ≠ b2; exact HNE2.out k hkb _ _ rfl)).trans g2)
            · exact (World.cell?_setCell_far _ _ _ _ (by show w.heap.size ≠ b2; exact HNE2.out k hkb _ _ rfl)).trans ((World.cell?_setCell_far _ _ _ _ (by show w.heap.size ≠ b2; exact HNE2.out k hkb _ _ rfl)).trans g3)
            clear HB HA2 HA c0 c1 f0 f1 g2 g3
            rintro W3 ⟨hB, hA, g2, g3⟩
            obtain ⟨o0c, o1c, _, _⟩ := hA.cells k hlt
            rw [if_pos rfl] at o0c o1c
            dsimp only at o0c o1c
            have HB := Lib.hid hB; have HA := Lib.hid hA
            clear hB hA
            refine wp_loose [(39, []), (40, []), (41, []), (42, []), (43, [41, 42]), (44, [43]), (45, []), (46, []), (47, [45, 46]), (48, [47]), (49, [44, 48]), (50, [39, 40])]
              (AddR8 w.heap.size la b2 off2 lb cb k (enc x.a) (enc x.b) y0 y1 (enc y.a) (enc y.b)) (fun d => false) (by kernel_rfl) (by kernel_rfl) (fun _ _ _ _ h hb => h.keep hb) ?_ ?_
            · refine opsrun_cons ?_ (opsrun_cons ?_ (opsrun_cons ?_ (opsrun_cons ?_ (opsrun_cons ?_ (opsrun_cons ?_ (opsrun_cons ?_ (opsrun_cons ?_ (opsrun_cons ?_ (opsrun_cons ?_ (opsrun_cons ?_ (opsrun_cons ?_ opsrun_nil)))))))))))
              all_goals
                refine OpRuns.any ?_
                intro Q0 σ W' K hb hn hK
                simp only [fill, List.map, Act.put, List.setIfInBounds_toArray, List.set_cons_zero, List.set_cons_succ] at hK ⊢
              · clear hn
                go_simp
                exact hK _ _ rfl (Below.refl _ _) (fun h => absurd h (by decide))
              · clear hn
                go_simp
                exact hK _ _ rfl (Below.refl _ _) (fun h => absurd h (by decide))
              · clear hn
                go_simp
                exact hK _ _ rfl (Below.refl _ _) (fun h => absurd h (by decide))
              · clear hn
                go_simp
                exact hK _ _ rfl (Below.refl _ _) (fun h => absurd h (by decide))
              · have h41 : σ 41 = _ := hn 41 (by decide)
                have h42 : σ 42 = _ := hn 42 (by decide)
                clear hn
                simp only [h41, h42] at hK
                go_simp
                exact hK _ _ rfl (Below.refl _ _) (fun h => absurd h (by decide))
              · have h43 : σ 43 = _ := hn 43 (by decide)
                clear hn
                simp only [h43] at hK
                have o0c' := bkeep hb o0c
                have o1c' := bkeep hb o1c
                clear o0c o1c
                go_simp
                exact hK _ _ rfl (Below.refl _ _) (fun h => absurd h (by decide))
              · clear hn
                go_simp
                exact hK _ _ rfl (Below.refl _ _) (fun h => absurd h (by decide))
              · clear hn
                go_simp
                exact hK _ _ rfl (Below.refl _ _) (fun h => absurd h (by decide))
              · have h45 : σ 45 = _ := hn 45 (by decide)
                have h46 : σ 46 = _ := hn 46 (by decide)
                clear hn
                simp only [h45, h46] at hK
                go_simp
                exact hK _ _ rfl (Below.refl _ _) (fun h => absurd h (by decide))
              · have h47 : σ 47 = _ := hn 47 (by decide)
                clear hn
                simp only [h47] at hK
                have g2' := bkeep hb g2
                have g3' := bkeep hb g3
                clear g2 g3
                go_simp
                exact hK _ _ rfl (Below.refl _ _) (fun h => absurd h (by decide))
              · have h44 : σ 44 = _ := hn 44 (by decide)
                have h48 : σ 48 = _ := hn 48 (by decide)
                clear hn
                simp only [h44, h48] at hK
                go_simp
                go_at_call 33
                refine (m2 _).mono ?_
                rintro e w1 ⟨rfl, hb1⟩
                exact hK _ _ rfl hb1 (fun h => absurd h (by decide))
              · have h39 : σ 39 = _ := hn 39 (by decide)
                have h40 : σ 40 = _ := hn 40 (by decide)
                clear hn
                simp only [h39, h40] at hK
                go_simp
                exact hK _ _ rfl (Below.refl _ _) (fun h => absurd h (by decide))
            · intro σ W' hb hR' hF
              have h49 : σ 49 = _ := hR' 49 (by decide)
              have h50 : σ 50 = _ := hR' 50 (by decide)
              replace HB := Lib.hid (bthen HB.out hb)
              have hA := HA.out.keep hb
              obtain ⟨c0, c1, f0, f1⟩ := hA.cells k hlt
              have HA2 := Lib.hid ((hA.setq k (enc y.a) (enc y.b) hlt).same (pc_same fun j _ => by
                show (if j = k then (enc y.a, enc y.b) else if j = k then (enc x.a, enc x.b) else prt (fun i => cq l i + cq m i) k j) = prt (fun i => cq l i + cq m i) (k + 1) j
                rw [← HST2.out j]
                by_cases e : j = k
                · rw [if_pos e, if_pos e]
                · rw [if_neg e, if_neg e, if_neg e]))
              clear hR' hF hA o0c o1c g2 g3 hb m2
              simp only [fill, List.map, Act.put, List.setIfInBounds_toArray, List.set_cons_zero, List.set_cons_succ, List.length_cons, List.length_nil, List.drop_succ_cons, List.drop_zero, Nat.reduceAdd, h49, h50]
              clear h49 h50
              go_wp2_with fail
              go_roundw
              case rel => exact ⟨k + 1, by omega, by go_num, (HB.out.setCell (Nat.le_refl _) _).setCell (Nat.le_refl _) _, HA2.out⟩
              case measure => simp [intOf]; omega
        · have hkb1 : ¬ (k : Int) < (lb : Int) := by omega
          have e0 : cq m k = 0 := HMU.out k (by omega)
          have HST2 := Lib.hid (HST.out (cq l k) (by rw [e0, F2.add_zero]))
          clear HST e0
          generalize hxl : cq l k = x at *
          clear hxl
          go_upto_region 6 with fail
          refine wp_loose [(23, []), (24, []), (25, []), (26, []), (27, [25, 26]), (28, [27]), (29, []), (30, []), (31, [29, 30]), (32, [31]), (33, [28, 32]), (34, [23, 24])]
            (AddR6 w.heap.size la b off la ca k 0 0 z0 z1 (enc x.a) (enc x.b)) (fun d => false) (by kernel_rfl) (by kernel_rfl) (fun _ _ _ _ h hb => h.keep hb) ?_ ?_
          · refine opsrun_cons ?_ (opsrun_cons ?_ (opsrun_cons ?_ (opsrun_cons ?_ (opsrun_cons ?_ (opsrun_cons ?_ (opsrun_cons ?_ (opsrun_cons ?_ (opsrun_cons ?_ (opsrun_cons ?_ (opsrun_cons ?_ (opsrun_cons ?_ opsrun_nil)))))))))))
            all_goals
              refine OpRuns.any ?_
              intro Q0 σ W' K hb hn hK
              simp only [fill, List.map, Act.put, List.setIfInBounds_toArray, List.set_cons_zero, List.set_cons_succ] at hK ⊢
            · clear hn
              go_simp
              exact hK _ _ rfl (Below.refl _ _) (fun h => absurd h (by decide))
            · clear hn
              go_simp
              exact hK _ _ rfl (Below.refl _ _) (fun h => absurd h (by decide))
            · clear hn
              go_simp
              exact hK _ _ rfl (Below.refl _ _) (fun h => absurd h (by decide))
            · clear hn
              go_simp
              exact hK _ _ rfl (Below.refl _ _) (fun h => absurd h (by decide))
            · have h25 : σ 25 = _ := hn 25 (by decide)
              have h26 : σ 26 = _ := hn 26 (by decide)
              clear hn
              simp only [h25, h26] at hK
              go_simp
              exact hK _ _ rfl (Below.refl _ _) (fun h => absurd h (by decide))
            · have h27 : σ 27 = _ := hn 27 (by decide)
              clear hn
              simp only [h27] at hK
              have o0c' := bkeep hb o0c
              have o1c' := bkeep hb o1c
              clear o0c o1c
              go_simp
              exact hK _ _ rfl (Below.refl _ _) (fun h => absurd h (by decide))
            · clear hn
              go_simp
              exact hK _ _ rfl (Below.refl _ _) (fun h => absurd h (by decide))
            · clear hn
              go_simp
              exact hK _ _ rfl (Below.refl _ _) (fun h => absurd h (by decide))
            · have h29 : σ 29 = _ := hn 29 (by decide)
              have h30 : σ 30 = _ := hn 30 (by decide)
              clear hn
              simp only [h29, h30] at hK
              go_simp
              exact hK _ _ rfl (Below.refl _ _) (fun h => absurd h (by decide))
            · have h31 : σ 31 = _ := hn 31 (by decide)
              clear hn
              simp only [h31] at hK
              have g0' := bkeep hb g0
              have g1' := bkeep hb g1
              clear g0 g1
              go_simp
              exact hK _ _ rfl (Below.refl _ _) (fun h => absurd h (by decide))
            · have h28 : σ 28 = _ := hn 28 (by decide)
              have h32 : σ 32 = _ := hn 32 (by decide)
              clear hn
              simp only [h28, h32] at hK
              go_simp
              go_at_call 33
              refine (m1 _).mono ?_
              rintro e w1 ⟨rfl, hb1⟩
              exact hK _ _ rfl hb1 (fun h => absurd h (by decide))
            · have h23 : σ 23 = _ := hn 23 (by decide)
              have h24 : σ 24 = _ := hn 24 (by decide)
              clear hn
              simp only [h23, h24] at hK
              go_simp
              exact hK _ _ rfl (Below.refl _ _) (fun h => absurd h (by decide))
          · intro σ W' hb hR' hF
            have h33 : σ 33 = _ := hR' 33 (by decide)
            have h34 : σ 34 = _ := hR' 34 (by decide)
            replace HB := Lib.hid (bthen HB.out hb)
            have hA := HA.out.keep hb
            obtain ⟨c0, c1, f0, f1⟩ := hA.cells k hlt
            have HA2 := Lib.hid ((hA.setq k (enc x.a) (enc x.b) hlt).same (pc_same fun j _ => HST2.out j))
            clear hR' hF hA o0c o1c g0 g1 hb m1
            simp only [fill, List.map, Act.put, List.setIfInBounds_toArray, List.set_cons_zero, List.set_cons_succ, List.length_cons, List.length_nil, List.drop_succ_cons, List.drop_zero, Nat.reduceAdd, h33, h34]
            clear h33 h34
            go_wp2_with fail
            go_roundw
            case rel => exact ⟨k + 1, by omega, by go_num, (HB.out.setCell (Nat.le_refl _) _).setCell (Nat.le_refl _) _, HA2.out⟩
            case measure => simp [intOf]; omega
      · exact absurd hlt hka
    · have hkn : k = la := by omega
      subst hkn
      have T := HTR.out wr _ (hA.same (pc_same (prt_all _ _)))
      have HB := Lib.hid hB
      clear hA hB
      go_wp2_with ((go_at_call 106; ((with_reducible refine T.mono ?_); rintro e w1 ⟨v1, rfl, hb, hp, hfr⟩; have HB2 := Lib.hid (bthen HB.out hb); have HP := Lib.hid hp; have HFR := Lib.hid (hfr.less HB.out.size); clear hb hp hfr T)))
      go_ret
      exact ⟨_, rfl, HB2.out, HP.out, HFR.out⟩

theorem raddP (v u : Value) (l m : List F2) (w : World) (h1 : Poly w v l) (h2 : Poly w u m) (hl : l.length ≤ 4294967296) (hm : m.length ≤ 4294967296) : Calls Tryz.prog 73 #[v, u] w (RetF (addP l m) w) := by
  obtain ⟨a, ca, rfl⟩ := h1.slice
  obtain ⟨b, cb, rfl⟩ := h2.slice
  rcases Nat.lt_or_ge l.length m.length with h | h
  · exact raddP_lt a b _ _ ca cb l m w h1 h2 hl hm h
  · exact raddP_ge a b _ _ ca cb l m w h1 h2 hl hm h
end Go.Proofs.YthfkfgjhgicfeaaGreatDoor
namespace Go.Proofs.YthfkfgjhgicfeaaGreatDoor
open Go.RowKit
set_option linter.unusedVariables false

/-- A product; a quotient. -/
def mulP (l m : List F2) : List F2 := pl (l.length + m.length - 1) (cv (cq l) (cq m))
theorem mulP_upto (l m : List F2) : Upto (l.length + m.length - 1) (cv (cq l) (cq m)) := cv_upto (cq_upto l) (cq_upto m)
theorem pl_nil {n : Nat} {c : Nat → F2} (h : ∀ i, c i = 0) : pl n c = [] := by unfold pl; rw [tn_nil h]; rfl
theorem mulP_nil (l m : List F2) (h : l.length = 0 ∨ m.length = 0) : mulP l m = [] := pl_nil fun i => sq_none fun j _ => by
  rcases h with h | h
  · rw [cq_upto l j (by omega), F2.zero_mul]
  · rw [cq_upto m (i - j) (by omega), F2.mul_zero]
/-- The first i rows of a product. -/
def cvp (a b : Nat → F2) (i p : Nat) : F2 := sq i (fun j => if j ≤ p then a j * b (p - j) else 0)
theorem cvp_all {a b : Nat → F2} {n : Nat} (ha : Upto n a) (p : Nat) : cvp a b n p = cv a b p := by
  unfold cvp cv
  rcases Nat.le_total n (p + 1) with h | h
  · rw [sq_more (f := fun j => a j * b (p - j)) h (fun i h1 _ => by rw [ha i h1, F2.zero_mul])]
    exact sq_congr fun j hj => if_pos (by omega)
  · rw [sq_more (n := p + 1) h (fun i h1 _ => if_neg (by omega))]
    exact sq_congr fun j hj => if_pos (by omega)
/-- .. and of the next one its first j. -/
def cvr (a b : Nat → F2) (i j p : Nat) : F2 := cvp a b i p + if i ≤ p ∧ p < i + j then a i * b (p - i) else 0
theorem cvr_zero (a b : Nat → F2) (i p : Nat) : cvr a b i 0 p = cvp a b i p := by unfold cvr; rw [if_neg (by omega), F2.add_zero]
theorem cvr_end {a b : Nat → F2} {m : Nat} (hb : Upto m b) (i p : Nat) : cvr a b i m p = cvp a b (i + 1) p := by
  unfold cvr cvp
  rw [sq_succ]
  congr 1
  by_cases h : i ≤ p
  · rw [if_pos h]
    by_cases h2 : p < i + m
    · rw [if_pos ⟨h, h2⟩]
    · rw [if_neg (fun h => h2 h.2), hb (p - i) (by omega), F2.mul_zero]
  · rw [if_neg h, if_neg (fun h' => h h'.1)]
theorem cvr_step (a b : Nat → F2) (i j p : Nat) : cvr a b i (j + 1) p = if p = i + j then cvr a b i j p + a i * b j else cvr a b i j p := by
  unfold cvr
  by_cases h : p = i + j
  · rw [if_pos h, if_pos (by omega), if_neg (by omega), F2.add_zero, show p - i = j by omega]
  · rw [if_neg h]
    by_cases h2 : i ≤ p ∧ p < i + j
    · rw [if_pos h2, if_pos (by omega)]
    · rw [if_neg h2, if_neg (by omega)]

def MulOut (w : World) (n la : Nat) (a b : Nat → F2) (i : Value) (W : World) : Prop :=
  ∃ k : Nat, k ≤ la ∧ i = .int .i64 k ∧ Below w.heap.size w W ∧ Arr W w.heap.size (n * 2) (pc fun p => encP (cvp a b k p))
def MulIn (w : World) (n lb : Nat) (a b : Nat → F2) (k : Nat) (j : Value) (W : World) : Prop :=
  ∃ q : Nat, q ≤ lb ∧ j = .int .i64 q ∧ Below w.heap.size w W ∧ Arr W w.heap.size (n * 2) (pc fun p => encP (cvr a b k q p))
def MulR (g n b off len cap b2 off2 len2 cap2 i j p : Nat) (o0 o1 x0 x1 y0 y1 m0 m1 n0 n1 : Int) (sl : Nat) (v : Value) (W : World) : Prop :=
  match sl with
  | 35 => v = .slice (some ⟨g, 0, none⟩) n n
  | 36 => v = .int .i64 i
  | 37 => v = .int .i64 j
  | 38 => v = .int .i64 p
  | 39 => v = .slice (some ⟨g, 0, none⟩) n n
  | 40 => v = .int .i64 i
  | 41 => v = .int .i64 j
  | 42 => v = .int .i64 p
  | 43 => v = .pointer (some ⟨g, p * 2, none⟩)
  | 44 => v = .agg #[.int .u64 o0, .int .u64 o1]
  | 45 => v = .slice (some ⟨b, off, none⟩) len cap
  | 46 => v = .int .i64 i
  | 47 => v = .pointer (some ⟨b, off + i * 2, none⟩)
  | 48 => v = .agg #[.int .u64 x0, .int .u64 x1]
  | 49 => v = .slice (some ⟨b2, off2, none⟩) len2 cap2
  | 50 => v = .int .i64 j
  | 51 => v = .pointer (some ⟨b2, off2 + j * 2, none⟩)
  | 52 => v = .agg #[.int .u64 y0, .int .u64 y1]
  | 53 => v = .agg #[.int .u64 m0, .int .u64 m1]
  | 54 => v = .agg #[.int .u64 n0, .int .u64 n1]
  | _ => v = .pointer (some ⟨g, p * 2, none⟩)
theorem MulR.keep {g n b off len cap b2 off2 len2 cap2 i j p : Nat} {o0 o1 x0 x1 y0 y1 m0 m1 n0 n1 : Int} {sl : Nat} {v : Value} {W W' : World} (h : MulR g n b off len cap b2 off2 len2 cap2 i j p o0 o1 x0 x1 y0 y1 m0 m1 n0 n1 sl v W) (hb : Below W.heap.size W W') : MulR g n b off len cap b2 off2 len2 cap2 i j p o0 o1 x0 x1 y0 y1 m0 m1 n0 n1 sl v W' := h

set_option maxHeartbeats 8000000 in
theorem rmulP_core (a b : Option Addr) (la lb ca cb n : Nat) (l m' : List F2) (w : World) (h1 : Poly w (.slice a la ca) l) (h2 : Poly w (.slice b lb cb) m') (hla : 0 < la) (hlb : 0 < lb) (hla2 : la ≤ 1073741824) (hlb2 : lb ≤ 1073741824) (hn : la + lb - 1 = n) :
    Calls Tryz.prog 72 #[.slice a la ca, .slice b lb cb] w (RetF (mulP l m') w) := by
  obtain ⟨e1, hm1, hc1⟩ := h1.at
  obtain ⟨e2, hm2, hc2⟩ := h2.at
  have HTR : Hid (∀ (W : World) (g : Nat), Arr W g (n * 2) (pc fun j => encP (cv (cq l) (cq m') j)) → Calls Tryz.prog 106 #[.slice (some ⟨g, 0, none⟩) n n] W (RetF (mulP l m') W)) := Lib.hid (fun W g hA => by
    have := rtrim_new _ (mk n (cv (cq l) (cq m'))) W (hA.isP (Nat.le_refl _) (by unfold maxLen; omega)).poly (by rw [mk_len]; omega)
    rw [pl_mk (by rw [← hn, ← e1, ← e2]; exact mulP_upto l m')] at this
    unfold mulP
    rw [e1, e2, hn]
    exact this)
  have HA1 : Hid (∀ p, cvp (cq l) (cq m') la p = cv (cq l) (cq m') p) := Lib.hid (fun p => cvp_all (e1 ▸ cq_upto l) p)
  have HE : Hid (∀ i p, cvr (cq l) (cq m') i lb p = cvp (cq l) (cq m') (i + 1) p) := Lib.hid (fun i p => cvr_end (e2 ▸ cq_upto m') i p)
  have HS1 := Lib.hid (cvr_step (cq l) (cq m')); have HZ1 := Lib.hid (cvr_zero (cq l) (cq m'))
  have H00 : Hid (∀ p, cvp (cq l) (cq m') 0 p = 0) := Lib.hid (fun p => rfl)
  unfold maxLen at hm1 hm2
  have hmk := fun W => run_make_pairs (P := Tryz.prog) 24 31 (.agg #[.int .u64 0, .int .u64 0]) Tryz.underlying24 infoQ5 rfl n (by omega) W
  have HC := Lib.hid hc1; have HD := Lib.hid hc2
  have hsum : (la : Int) + (lb : Int) - 1 = (n : Int) := by omega
  have HN := Lib.hid hn
  have l1 : (la : Int) ≤ 1073741824 := by omega
  have l2 : (lb : Int) ≤ 1073741824 := by omega
  have l3 : (0 : Int) < (la : Int) := by omega
  have l4 : (0 : Int) < (lb : Int) := by omega
  have c2 : ((la : Int) == 0) = false := by simp; omega
  have c3 : decide ((la : Int) = 0) = false := by simp; omega
  have c4 : ((lb : Int) == 0) = false := by simp; omega
  have c5 : decide ((lb : Int) = 0) = false := by simp; omega
  clear hc1 hc2 h1 h2 e1 e2 hn
  go_enter Tryz.func72, Tryz.ntmps72
  go_upto_region 5 with fail
  clear hmk hsum
  go_loopw [6] (MulOut w n la (cq l) (cq m')) (fun i _ => la - (intOf i).toNat)
  case atStart => exact ⟨0, Nat.zero_le _, rfl, (Below.refl _ _).alloc (Nat.le_refl _) _, (Arr.newq w _ _).same (pc_same (fun i _ => by rw [H00.out]; rfl))⟩
  case round =>
    obtain ⟨k, hk, rfl, hB, hA⟩ := hrel
    by_cases hlt : k < la
    · have hk1 : (k : Int) < (la : Int) := by omega
      have hk0 : (0 : Int) ≤ (k : Int) := by omega
      go_upto_region 8 with fail
      go_loopw [7] (MulIn w n lb (cq l) (cq m') k) (fun j _ => lb - (intOf j).toNat)
      case atStart => exact ⟨0, Nat.zero_le _, rfl, hB, hA.same (pc_same (fun p _ => by rw [HZ1.out]))⟩
      case round =>
        clear hB hA
        obtain ⟨q, hq, rfl, hB, hA⟩ := hrel
        by_cases hlt2 : q < lb
        · obtain ⟨b, off, x0, x1, rfl, g0, g1, hR⟩ := HC.out k hlt
          obtain ⟨b2, off2, y0, y1, rfl, g2, g3, hS⟩ := HD.out q hlt2
          replace g0 := bkeep hB g0
          replace g1 := bkeep hB g1
          replace g2 := bkeep hB g2
          replace g3 := bkeep hB g3
          have hq1 : (q : Int) < (lb : Int) := by omega
          have hq0 : (0 : Int) ≤ (q : Int) := by omega
          obtain ⟨p, hp⟩ : ∃ p, k + q = p := ⟨_, rfl⟩
          have hpn : p < n := by have := HN.out; omega
          have hp1 : (p : Int) < (n : Int) := by omega
          have hp0 : (0 : Int) ≤ (p : Int) := by omega
          have HQ : Hid (IntKind.i64.wrap ((k : Int) + (q : Int)) = (p : Int)) := Lib.hid (by rw [IntWalk.i64_in _ (by omega)]; omega)
          obtain ⟨m, hmm⟩ : ∃ m, cq l k * cq m' q = m := ⟨_, rfl⟩
          obtain ⟨o', ho'⟩ : ∃ o', cvr (cq l) (cq m') k q p + m = o' := ⟨_, rfl⟩
          have m1 := rmul_q x0 x1 y0 y1 (cq l k) (cq m' q) m hR hS hmm
          have a1 := radd_q (enc (cvr (cq l) (cq m') k q p).a) (enc (cvr (cq l) (cq m') k q p).b) (enc m.a) (enc m.b) (cvr (cq l) (cq m') k q p) m o' (rep_enc _) (rep_enc m) ho'
          have HST : Hid (∀ j, (if j = p then (enc o'.a, enc o'.b) else encP (cvr (cq l) (cq m') k q j)) = encP (cvr (cq l) (cq m') k (q + 1) j)) := Lib.hid (fun j => by
            rw [HS1.out k q j]
            by_cases e : j = p
            · rw [if_pos e, if_pos (by omega), hmm, e, ho']; rfl
            · rw [if_neg e, if_neg (by omega)])
          obtain ⟨o0c, o1c, _, _⟩ := hA.cells p hpn
          have HB := Lib.hid hB; have HA := Lib.hid hA
          generalize cvr (cq l) (cq m') k q p = o at *
          simp only [encP] at o0c o1c
          clear hR hS hB hA hmm ho' hp
          go_upto_region 10 with fail
          refine wp_loose [(35, []), (36, []), (37, []), (38, [36, 37]), (39, []), (40, []), (41, []), (42, [40, 41]), (43, [39, 42]), (44, [43]), (45, []), (46, []), (47, [45, 46]), (48, [47]), (49, []), (50, []), (51, [49, 50]), (52, [51]), (53, [48, 52]), (54, [44, 53]), (55, [35, 38])]
            (MulR w.heap.size n b off la ca b2 off2 lb cb k q p (enc o.a) (enc o.b) x0 x1 y0 y1 (enc m.a) (enc m.b) (enc o'.a) (enc o'.b)) (fun d => false) (by kernel_rfl) (by kernel_rfl) (fun _ _ _ _ h hb => h.keep hb) ?_ ?_
          · refine opsrun_cons ?_ (opsrun_cons ?_ (opsrun_cons ?_ (opsrun_cons ?_ (opsrun_cons ?_ (opsrun_cons ?_ (opsrun_cons ?_ (opsrun_cons ?_ (opsrun_cons ?_ (opsrun_cons ?_ (opsrun_cons ?_ (opsrun_cons ?_ (opsrun_cons ?_ (opsrun_cons ?_ (opsrun_cons ?_ (opsrun_cons ?_ (opsrun_cons ?_ (opsrun_cons ?_ (opsrun_cons ?_ (opsrun_cons ?_ (opsrun_cons ?_ opsrun_nil))))))))))))))))))))
            all_goals
              refine OpRuns.any ?_
              intro Q0 σ W' K hb hn hK
              simp only [fill, List.map, Act.put, List.setIfInBounds_toArray, List.set_cons_zero, List.set_cons_succ] at hK ⊢
            · clear hn
              go_simp
              exact hK _ _ rfl (Below.refl _ _) (fun h => absurd h (by decide))
            · clear hn
              go_simp
              exact hK _ _ rfl (Below.refl _ _) (fun h => absurd h (by decide))
            · clear hn
              go_simp
              exact hK _ _ rfl (Below.refl _ _) (fun h => absurd h (by decide))
            · have h36 : σ 36 = _ := hn 36 (by decide)
              have h37 : σ 37 = _ := hn 37 (by decide)
              clear hn
              simp only [h36, h37] at hK
              go_simp
              exact hK _ _ (congrArg (Value.int .i64) HQ.out) (Below.refl _ _) (fun h => absurd h (by decide))
            · clear hn
              go_simp
              exact hK _ _ rfl (Below.refl _ _) (fun h => absurd h (by decide))
            · clear hn
              go_simp
              exact hK _ _ rfl (Below.refl _ _) (fun h => absurd h (by decide))
            · clear hn
              go_simp
              exact hK _ _ rfl (Below.refl _ _) (fun h => absurd h (by decide))
            · have h40 : σ 40 = _ := hn 40 (by decide)
              have h41 : σ 41 = _ := hn 41 (by decide)
              clear hn
              simp only [h40, h41] at hK
              go_simp
              exact hK _ _ (congrArg (Value.int .i64) HQ.out) (Below.refl _ _) (fun h => absurd h (by decide))
            · have h39 : σ 39 = _ := hn 39 (by decide)
              have h42 : σ 42 = _ := hn 42 (by decide)
              clear hn
              simp only [h39, h42] at hK
              go_simp
              exact hK _ _ rfl (Below.refl _ _) (fun h => absurd h (by decide))
            · have h43 : σ 43 = _ := hn 43 (by decide)
              clear hn
              simp only [h43] at hK
              have o0c' := bkeep hb o0c
              have o1c' := bkeep hb o1c
              clear o0c o1c
              go_simp
              exact hK _ _ rfl (Below.refl _ _) (fun h => absurd h (by decide))
            · clear hn
              go_simp
              exact hK _ _ rfl (Below.refl _ _) (fun h => absurd h (by decide))
            · clear hn
              go_simp
              exact hK _ _ rfl (Below.refl _ _) (fun h => absurd h (by decide))
            · have h45 : σ 45 = _ := hn 45 (by decide)
              have h46 : σ 46 = _ := hn 46 (by decide)
              clear hn
              simp only [h45, h46] at hK
              go_simp
              exact hK _ _ rfl (Below.refl _ _) (fun h => absurd h (by decide))
            · have h47 : σ 47 = _ := hn 47 (by decide)
              clear hn
              simp only [h47] at hK
              have g0' := bkeep hb g0
              have g1' := bkeep hb g1
              clear g0 g1
              go_simp
              exact hK _ _ rfl (Below.refl _ _) (fun h => absurd h (by decide))
            · clear hn
              go_simp
              exact hK _ _ rfl (Below.refl _ _) (fun h => absurd h (by decide))
            · clear hn
              go_simp
              exact hK _ _ rfl (Below.refl _ _) (fun h => absurd h (by decide))
            · have h49 : σ 49 = _ := hn 49 (by decide)
              have h50 : σ 50 = _ := hn 50 (by decide)
              clear hn
              simp only [h49, h50] at hK
              go_simp
              exact hK _ _ rfl (Below.refl _ _) (fun h => absurd h (by decide))
            · have h51 : σ 51 = _ := hn 51 (by decide)
              clear hn
              simp only [h51] at hK
              have g2' := bkeep hb g2
              have g3' := bkeep hb g3
              clear g2 g3
              go_simp
              exact hK _ _ rfl (Below.refl _ _) (fun h => absurd h (by decide))
            · have h48 : σ 48 = _ := hn 48 (by decide)
              have h52 : σ 52 = _ := hn 52 (by decide)
              clear hn
              simp only [h48, h52] at hK
              go_simp
              go_at_call 46
              refine (m1 _).mono ?_
              rintro e w1 ⟨rfl, hb1⟩
              exact hK _ _ rfl hb1 (fun h => absurd h (by decide))
            · have h44 : σ 44 = _ := hn 44 (by decide)
              have h53 : σ 53 = _ := hn 53 (by decide)
              clear hn
              simp only [h44, h53] at hK
              go_simp
              go_at_call 33
              refine (a1 _).mono ?_
              rintro e w1 ⟨rfl, hb1⟩
              exact hK _ _ rfl hb1 (fun h => absurd h (by decide))
            · have h35 : σ 35 = _ := hn 35 (by decide)
              have h38 : σ 38 = _ := hn 38 (by decide)
              clear hn
              simp only [h35, h38] at hK
              go_simp
              exact hK _ _ rfl (Below.refl _ _) (fun h => absurd h (by decide))
          · intro σ W' hb hR' hF
            have h54 : σ 54 = _ := hR' 54 (by decide)
            have h55 : σ 55 = _ := hR' 55 (by decide)
            replace HB := Lib.hid (bthen HB.out hb)
            have hA := HA.out.keep hb
            obtain ⟨c0, c1, f0, f1⟩ := hA.cells p hpn
            have HA2 := Lib.hid ((hA.setq p (enc o'.a) (enc o'.b) hpn).same (pc_same fun j _ => HST.out j))
            clear hR' hF hA o0c o1c g0 g1 g2 g3 hb m1 a1
            simp only [fill, List.map, Act.put, List.setIfInBounds_toArray, List.set_cons_zero, List.set_cons_succ, List.length_cons, List.length_nil, List.drop_succ_cons, List.drop_zero, Nat.reduceAdd, h54, h55]
            clear h54 h55
            go_wp2_with fail
            go_roundw
            case rel => exact ⟨q + 1, by omega, by go_num, (HB.out.setCell (Nat.le_refl _) _).setCell (Nat.le_refl _) _, HA2.out⟩
            case measure => simp [intOf]; omega
        · have hqn : q = lb := by omega
          subst hqn
          have HA := Lib.hid (hA.same (pc_same (y := fun p => encP (cvp (cq l) (cq m') (k + 1) p)) (fun p _ => by rw [HE.out])))
          have HB := Lib.hid hB
          clear hA hB
          go_wp2_with fail
          go_roundw
          case rel => exact ⟨k + 1, by omega, by go_num, HB.out, HA.out⟩
          case measure => simp [intOf]; omega
    · have hkn : k = la := by omega
      subst hkn
      have T := HTR.out wr _ (hA.same (pc_same (fun p _ => by rw [HA1.out])))
      have HB := Lib.hid hB
      clear hA hB
      go_wp2_with ((go_at_call 106; ((with_reducible refine T.mono ?_); rintro e w1 ⟨v1, rfl, hb, hp, hfr⟩; have HB2 := Lib.hid (bthen HB.out hb); have HP := Lib.hid hp; have HFR := Lib.hid (hfr.less HB.out.size); clear hb hp hfr T)))
      go_ret
      exact ⟨_, rfl, HB2.out, HP.out, HFR.out⟩
theorem rmulP (v u : Value) (l m : List F2) (w : World) (h1 : Poly w v l) (h2 : Poly w u m) (hl : l.length ≤ 1073741824) (hm : m.length ≤ 1073741824) : Calls Tryz.prog 72 #[v, u] w (RetF (mulP l m) w) := by
  obtain ⟨a, ca, rfl⟩ := h1.slice
  obtain ⟨b, cb, rfl⟩ := h2.slice
  by_cases h0 : 0 < l.length ∧ 0 < m.length
  · exact rmulP_core a b _ _ ca cb _ l m w h1 h2 h0.1 h0.2 hl hm rfl
  · rw [mulP_nil l m (by omega)]
    by_cases c : l.length = 0
    · rw [c]
      clear h0 h1 h2
      go_enter Tryz.func72, Tryz.ntmps72
      go_wp2
      go_ret
      exact ⟨_, rfl, Below.refl _ _, IsP.nil _, fun a n c h => by cases h⟩
    · have d : m.length = 0 := by omega
      rw [d]
      generalize l.length = la at *
      have c2 : ((la : Int) == 0) = false := by simp; omega
      have c3 : decide ((la : Int) = 0) = false := by simp; omega
      clear h0 h1 h2
      go_enter Tryz.func72, Tryz.ntmps72
      go_wp2
      go_ret
      exact ⟨_, rfl, Below.refl _ _, IsP.nil _, fun a n c h => by cases h⟩
end Go.Proofs.YthfkfgjhgicfeaaGreatDoor
namespace Go.Proofs.YthfkfgjhgicfeaaGreatDoor
open Go.RowKit Go.Sort Go.BigFrame
set_option linter.unusedVariables false

/-- Neg, and X less a pair as a slice. -/
theorem lin_poly (x : F2) (i : Nat) : cq [-x, 1] i = lin x i := by
  unfold cq lin
  match i with
  | 0 => rfl
  | 1 => rfl
  | i + 2 => rfl
theorem mul_lin {n : Nat} {c : Nat → F2} (h : Upto n c) (x : F2) {m : Nat} {d : Nat → F2} (hd : Upto m d) (he : ∀ i, cv c (lin x) i = d i) : mulP (pl n c) [-x, 1] = pl m d :=
  pl_same (mulP_upto _ _) hd (fun i => (cv_congr (cq_pl h) (lin_poly x) i).trans (he i))
theorem add_scale {n m : Nat} {c d e : Nat → F2} (hc : Upto n c) (hd : Upto m d) {k : Nat} (he : Upto k e) (x : F2) (h : ∀ i, c i + d i * x = e i) : addP (pl n c) (pl (pl m d).length (fun i => cq (pl m d) i * x)) = pl k e := by
  have hs : Upto (pl m d).length (fun i => cq (pl m d) i * x) := fun i hi => by dsimp only; rw [cq_upto (pl m d) i hi, F2.zero_mul]
  refine pl_same (addP_upto _ _ (Nat.le_max_left _ _) (Nat.le_max_right _ _)) he fun i => ?_
  rw [cq_pl hc, cq_pl hs, cq_pl hd]
  exact h i

def NotAt (g : Nat) (v : Value) : Prop := ∀ a n c, v = .slice (some a) n c → 0 < n → a.block ≠ g
theorem Fresh.notAt {B g : Nat} {v : Value} (h : Fresh B v) (hg : g < B) : NotAt g v := fun a n c e _ => by have := h a n c e; omega
theorem IsP.notAt {W : World} {v : Value} {l : List F2} {g : Nat} (h : IsP W v l) (hg : W.heap.size ≤ g) : NotAt g v := by
  intro a n c e hn
  rcases h with ⟨rfl, _⟩ | ⟨a', c', rfl, _⟩ | ⟨b, off, c', rfl, h1, h2, h3⟩
  · cases e
  · cases e; omega
  · cases e
    have := World.block_lt_of_cell? W _ (h3 0 hn).1
    simp at this ⊢; omega
theorem IsP.off {W : World} {v : Value} {l : List F2} {g : Nat} (h : IsP W v l) (hf : NotAt g v) (o : Nat) (u : Value) : IsP (W.setCell ⟨g, o, none⟩ u) v l := by
  rcases h with ⟨rfl, h⟩ | ⟨a, c, rfl, h⟩ | ⟨b, off, c, rfl, h1, h2, h3⟩
  · exact Or.inl ⟨rfl, h⟩
  · exact Or.inr (Or.inl ⟨a, c, rfl, h⟩)
  · exact Or.inr (Or.inr ⟨b, off, c, rfl, h1, h2, fun i hi => by
      have hb := hf _ _ _ rfl (by omega)
      exact ⟨(World.cell?_setCell_far _ _ _ _ (Ne.symm hb)).trans (h3 i hi).1, (World.cell?_setCell_far _ _ _ _ (Ne.symm hb)).trans (h3 i hi).2⟩⟩)
theorem isP_one {W : World} {g : Nat} {a : F2} (h0 : W.cell? ⟨g, 0, none⟩ = some (.int .u64 (enc a.a))) (h1 : W.cell? ⟨g, 1, none⟩ = some (.int .u64 (enc a.b))) : IsP W (.slice (some ⟨g, 0, none⟩) 1 1) [a] :=
  Or.inr (Or.inr ⟨g, 0, 1, rfl, by simp [encL], by unfold maxLen; omega, fun i hi => by
    have : i = 0 := by simp [encL] at hi; omega
    subst this
    exact ⟨h0, h1⟩⟩)
theorem isP_two {W : World} {g : Nat} {a b : F2} (h0 : W.cell? ⟨g, 0, none⟩ = some (.int .u64 (enc a.a))) (h1 : W.cell? ⟨g, 1, none⟩ = some (.int .u64 (enc a.b))) (h2 : W.cell? ⟨g, 2, none⟩ = some (.int .u64 (enc b.a))) (h3 : W.cell? ⟨g, 3, none⟩ = some (.int .u64 (enc b.b))) :
    IsP W (.slice (some ⟨g, 0, none⟩) 2 2) [a, b] :=
  Or.inr (Or.inr ⟨g, 0, 2, rfl, by simp [encL], by unfold maxLen; omega, fun i hi => by
    have : i = 0 ∨ i = 1 := by simp [encL] at hi; omega
    rcases this with rfl | rfl
    · exact ⟨h0, h1⟩
    · exact ⟨h2, h3⟩⟩)
theorem pl_one2 : pl 1 one2 = [1] := by
  have h : tn one2 1 = 1 := tn_is one2_upto one2_upto (by show one2 0 ≠ 0; exact F2.one_ne_zero)
  unfold pl
  rw [h]; rfl
theorem pp_skip (i : Nat) (x : Nat → F2) : pl (pn i (i + 1)) (pp i x (i + 1)) = pl (pn i i) (pp i x i) := pl_same (pp_upto _ _ _) (pp_upto _ _ _) (fun j => by show (if i = i then pp i x i else _) j = _; rw [if_pos rfl])
theorem ps_skip (i : Nat) (x : Nat → F2) (y : F2) : ps i x y (i + 1) = ps i x y i := by show (if i = i then _ else _) = _; rw [if_pos rfl]
theorem pp_mul (i k : Nat) (x : Nat → F2) (h : k ≠ i) : mulP (pl (pn i k) (pp i x k)) [-(x k), 1] = pl (pn i (k + 1)) (pp i x (k + 1)) := mul_lin (pp_upto _ _ _) (x k) (pp_upto _ _ _) (fun j => by show _ = (if k = i then _ else _ : Nat → F2) j; rw [if_neg h])
theorem ps_mul (i k : Nat) (x : Nat → F2) (y : F2) (h : k ≠ i) : ps i x y k * (y - x k) = ps i x y (k + 1) := by show _ = (if k = i then _ else _); rw [if_neg h]
theorem lgr_zero (n : Nat) (x y : Nat → F2) : pl n (lgr n x y 0) = [] := pl_nil fun _ => rfl
theorem lgr_step (n : Nat) (x y : Nat → F2) (i : Nat) (hi : i < n) (w : F2) (hw : qinv (ps i x (x i) n) * y i = w) :
    addP (pl n (lgr n x y i)) (pl (pl (pn i n) (pp i x n)).length (fun j => cq (pl (pn i n) (pp i x n)) j * w)) = pl n (lgr n x y (i + 1)) :=
  add_scale (lgr_upto n x y i (by omega)) (pp_upto _ _ _) (lgr_upto n x y (i + 1) (by omega)) w (fun j => by rw [← hw]; rfl)

/-- Whether there is one through points; and it. -/
def thrB (l m : List F2) : Bool := decide (l.length = m.length) && (List.range l.length).all fun i => decide (ps i (cq l) (cq l i) l.length ≠ 0)
def thrL (l m : List F2) : List F2 := if thrB l m = true then pl l.length (lgr l.length (cq l) (cq m) l.length) else []
def RetT (l m : List F2) (w : World) (e : Ending) (w' : World) : Prop := ∃ v, e = .returned (.tuple #[v, .bool (thrB l m)]) ∧ Below w.heap.size w w' ∧ IsP w' v (thrL l m)
theorem RetT.no {l m : List F2} {w w' : World} {e : Ending} (h : thrB l m = false) (he : e = .returned (.tuple #[.slice none 0 0, .bool false])) (hb : Below w.heap.size w w') : RetT l m w e w' :=
  ⟨.slice none 0 0, by rw [h]; exact he, hb, by unfold thrL; rw [h]; exact IsP.nil _⟩
theorem RetT.yes {l m r : List F2} {w w' : World} {e : Ending} {v : Value} (h : thrB l m = true) (h2 : thrL l m = r) (he : e = .returned (.tuple #[v, .bool true])) (hb : Below w.heap.size w w') (hp : IsP w' v r) : RetT l m w e w' := by
  subst h2
  exact ⟨v, by rw [h]; exact he, hb, hp⟩
theorem thrB_len {l m : List F2} (h : l.length ≠ m.length) : thrB l m = false := by unfold thrB; simp [h]
theorem thrB_two {l m : List F2} {i : Nat} (hi : i < l.length) (h : ps i (cq l) (cq l i) l.length = 0) : thrB l m = false := by
  unfold thrB
  rw [Bool.and_eq_false_iff]
  right
  rw [List.all_eq_false]
  exact ⟨i, List.mem_range.2 hi, by simp [h]⟩
theorem thrB_yes {l m : List F2} (h : l.length = m.length) (h2 : ∀ i, i < l.length → ps i (cq l) (cq l i) l.length ≠ 0) : thrB l m = true := by
  unfold thrB
  rw [Bool.and_eq_true, List.all_eq_true]
  exact ⟨by simpa using h, fun i hi => by simpa using h2 i (List.mem_range.1 hi)⟩
end Go.Proofs.YthfkfgjhgicfeaaGreatDoor
namespace Go.Proofs.YthfkfgjhgicfeaaGreatDoor
open Go.RowKit Go.Sort Go.BigFrame
set_option linter.unusedVariables false

def ThrOut (w : World) (n : Nat) (x y : Nat → F2) (v i : Value) (W : World) : Prop :=
  ∃ k : Nat, k ≤ n ∧ i = .int .i64 k ∧ Below w.heap.size w W ∧ IsP W v (pl n (lgr n x y k)) ∧ ∀ j, j < k → ps j x (x j) n ≠ 0
def ThrIn (w : World) (n i : Nat) (x : Nat → F2) (gb : Nat) (vo : Value) (lo : List F2) (v8 j : Value) (W : World) : Prop :=
  ∃ k : Nat, k ≤ n ∧ j = .int .i64 k ∧ Below w.heap.size w W ∧ IsP W v8 (pl (pn i k) (pp i x k)) ∧ Var W gb (enc (ps i x (x i) k).a) (enc (ps i x (x i) k).b) ∧ IsP W vo lo ∧ NotAt gb v8
def ThrR14 (gb b off len cap i j : Nat) (o0 o1 x0 x1 y0 y1 m0 m1 n0 n1 : Int) (sl : Nat) (v : Value) (W : World) : Prop :=
  match sl with
  | 45 => v = .agg #[.int .u64 o0, .int .u64 o1]
  | 46 => v = .slice (some ⟨b, off, none⟩) len cap
  | 47 => v = .int .i64 i
  | 48 => v = .pointer (some ⟨b, off + i * 2, none⟩)
  | 49 => v = .agg #[.int .u64 x0, .int .u64 x1]
  | 50 => v = .slice (some ⟨b, off, none⟩) len cap
  | 51 => v = .int .i64 j
  | 52 => v = .pointer (some ⟨b, off + j * 2, none⟩)
  | 53 => v = .agg #[.int .u64 y0, .int .u64 y1]
  | 54 => v = .agg #[.int .u64 m0, .int .u64 m1]
  | _ => v = .agg #[.int .u64 n0, .int .u64 n1]
theorem ThrR14.keep {gb b off len cap i j : Nat} {o0 o1 x0 x1 y0 y1 m0 m1 n0 n1 : Int} {sl : Nat} {v : Value} {W W' : World} (h : ThrR14 gb b off len cap i j o0 o1 x0 x1 y0 y1 m0 m1 n0 n1 sl v W) (hb : Below W.heap.size W W') : ThrR14 gb b off len cap i j o0 o1 x0 x1 y0 y1 m0 m1 n0 n1 sl v W' := h

def ThrR18 (vo v8 : Value) (b off len cap i B : Nat) (q0 q1 y0 y1 m0 m1 : Int) (l1 l2 : List F2) (sl : Nat) (v : Value) (W : World) : Prop :=
  match sl with
  | 63 => v = vo
  | 64 => v = v8
  | 65 => v = .agg #[.int .u64 q0, .int .u64 q1]
  | 66 => v = .slice (some ⟨b, off, none⟩) len cap
  | 67 => v = .int .i64 i
  | 68 => v = .pointer (some ⟨b, off + i * 2, none⟩)
  | 69 => v = .agg #[.int .u64 y0, .int .u64 y1]
  | 70 => v = .agg #[.int .u64 m0, .int .u64 m1]
  | 71 => IsP W v l1
  | _ => IsP W v l2
theorem ThrR18.keep {vo v8 : Value} {b off len cap i B : Nat} {q0 q1 y0 y1 m0 m1 : Int} {l1 l2 : List F2} {sl : Nat} {v : Value} {W W' : World} (h : ThrR18 vo v8 b off len cap i B q0 q1 y0 y1 m0 m1 l1 l2 sl v W) (hb : Below W.heap.size W W') : ThrR18 vo v8 b off len cap i B q0 q1 y0 y1 m0 m1 l1 l2 sl v W' := by
  unfold ThrR18 at *
  split at h
  all_goals first | exact h | exact IsP.keep h hb

set_option maxHeartbeats 8000000 in
theorem rthrP (v u : Value) (l m' : List F2) (w : World) (h1 : Poly w v l) (h2 : Poly w u m') (hl : l.length ≤ 1048576) (hm' : m'.length ≤ 1048576) : Calls Tryz.prog 38 #[v, u] w (RetT l m' w) := by
  obtain ⟨a, ca, rfl⟩ := h1.slice
  obtain ⟨b, cb, rfl⟩ := h2.slice
  by_cases hlen : l.length = m'.length
  · obtain ⟨_, hm1, hc1⟩ := h1.at
    obtain ⟨_, hm2, hc2⟩ := h2.at
    rw [← hlen] at hc2 hm2 ⊢
    unfold maxLen at hm1 hm2
    have HNO : Hid (∀ i, i < l.length → ps i (cq l) (cq l i) l.length = 0 → thrB l m' = false) := Lib.hid (fun i h1 h2 => thrB_two h1 h2)
    have HYES : Hid ((∀ i, i < l.length → ps i (cq l) (cq l i) l.length ≠ 0) → thrB l m' = true ∧ thrL l m' = pl l.length (lgr l.length (cq l) (cq m') l.length)) := Lib.hid (fun h => by
      have e := thrB_yes hlen h
      exact ⟨e, by unfold thrL; rw [if_pos e]⟩)
    have HC := Lib.hid hc1; have HD := Lib.hid hc2
    clear hc1 hc2 h1 h2 hlen
    generalize hL : l.length = n at *
    have hL1 : (n : Int) ≤ 1048576 := by omega
    generalize hX : cq l = x at *
    have HX := Lib.hid hX
    generalize hY : cq m' = y at *
    have HY := Lib.hid hY
    have HPN : Hid (∀ i k, (pl (pn i k) (pp i x k)).length ≤ k + 1) := Lib.hid (fun i k => by rw [pl_len]; exact Nat.le_trans (tn_le _ _) (by unfold pn; split <;> omega))
    have HLG : Hid (∀ k, (pl n (lgr n x y k)).length ≤ n) := Lib.hid (fun k => by rw [pl_len]; exact tn_le _ _)
    clear hL hX hY
    go_enter Tryz.func38, Tryz.ntmps38
    go_upto_region 5 with fail
    go_loopw [6, 7] (ThrOut w n x y) (fun _ i _ => n - (intOf i).toNat)
    case atStart => exact ⟨0, Nat.zero_le _, rfl, Below.refl _ _, by rw [lgr_zero]; exact IsP.nil _, fun j hj => by omega⟩
    case round =>
      obtain ⟨i, hi, rfl, hB, hO, hne⟩ := hrel
      by_cases hlt : i < n
      · have hi1 : (i : Int) < (n : Int) := by omega
        have hi0 : (0 : Int) ≤ (i : Int) := by omega
        go_upto_region 10 with fail
        have HNE := Lib.hid hne
        have HLO : Hid ((pl n (lgr n x y i)).length ≤ n) := Lib.hid (HLG.out i)
        have HNEXT : Hid (∀ wv, qinv (ps i x (x i) n) * y i = wv → addP (pl n (lgr n x y i)) (pl (pl (pn i n) (pp i x n)).length (fun j => cq (pl (pn i n) (pp i x n)) j * wv)) = pl n (lgr n x y (i + 1))) := Lib.hid (fun wv hw => lgr_step n x y i hlt wv hw)
        have hvo : NotAt (wr.heap.size + 1) u6 := hO.notAt (by omega)
        refine wp_gen (fun W => Below w.heap.size w W ∧ IsP W u6 (pl n (lgr n x y i)) ∧ IsP W (.slice (some ⟨wr.heap.size, 0, none⟩) 1 1) (pl (pn i 0) (pp i x 0)) ∧ Var W (wr.heap.size + 1) (enc (ps i x (x i) 0).a) (enc (ps i x (x i) 0).b)) ⟨(hB.alloc hB.size _).alloc (by simp; have := hB.size; omega) _, (hO.keep ((Below.refl _ _).alloc (Nat.le_refl _) _)).keep ((Below.refl _ _).alloc (Nat.le_refl _) _), ?_, ?_⟩ ?_
        · have e : pl (pn i 0) (pp i x 0) = [1] := by
            show pl (if i < 0 then 0 else 0 + 1) one2 = _
            rw [if_neg (by omega)]; exact pl_one2
          rw [e]
          exact isP_one (by simp [go_sem]; rfl) (by simp [go_sem]; rfl)
        · show Var _ _ 1 0
          have := Var.new (wr.alloc (.cells #[.int .u64 1, .int .u64 0] 31)) 1 0 31
          simpa using this
        have hbase : w.heap.size ≤ wr.heap.size := hB.size
        clear hB hO hne
        rintro W ⟨hB, hO, h8, hV⟩
        generalize hlo : pl n (lgr n x y i) = lo at *
        have HLOE := Lib.hid hlo
        generalize hgb : wr.heap.size + 1 = gb at *
        have hgb1 : w.heap.size ≤ gb := by omega
        clear hlo
        go_loopw [8, 10] (ThrIn w n i x gb u6 lo) (fun _ j _ => n - (intOf j).toNat)
        case atStart => exact ⟨0, Nat.zero_le _, rfl, hB, h8, hV, hO, fun a n c e _ => by cases e; show wr.heap.size ≠ gb; omega⟩
        case round =>
          clear hB h8 hV hO
          obtain ⟨k, hk, rfl, hB, h8, hV, hO, hn8⟩ := hrel
          by_cases hlt2 : k < n
          · have hk1 : (k : Int) < (n : Int) := by omega
            have hk0 : (0 : Int) ≤ (k : Int) := by omega
            by_cases hki : k = i
            · subst hki
              rw [← pp_skip, ← ps_skip] at *
              have HB := Lib.hid hB; have H8 := Lib.hid h8; have HV := Lib.hid hV; have HO := Lib.hid hO
              clear hB h8 hV hO
              go_wp2_with fail
              go_roundw
              case rel => exact ⟨k + 1, by omega, by go_num, HB.out, H8.out, HV.out, HO.out, hn8⟩
              case measure => simp [intOf]; omega
            · have hki1 : ¬ (k : Int) = (i : Int) := by omega
              have hki2 : ((k : Int) == (i : Int)) = false := by simp; omega
              obtain ⟨b, off, x0, x1, rfl, g0, g1, hR⟩ := HC.out i hlt
              obtain ⟨b', off', y0, y1, he, g2, g3, hS⟩ := HC.out k hlt2
              cases he
              replace g0 := bkeep hB g0
              replace g1 := bkeep hB g1
              replace g2 := bkeep hB g2
              replace g3 := bkeep hB g3
              skip
              have N1 := rneg_q y0 y1 (x k) (-(x k)) hS rfl
              obtain ⟨m, hmm⟩ : ∃ m, x i - x k = m := ⟨_, rfl⟩
              obtain ⟨o', ho'⟩ : ∃ o', ps i x (x i) k * m = o' := ⟨_, rfl⟩
              have s1 := rsub_q x0 x1 y0 y1 (x i) (x k) m hR hS hmm
              have m1 := rmul_q (enc (ps i x (x i) k).a) (enc (ps i x (x i) k).b) (enc m.a) (enc m.b) (ps i x (x i) k) m o' (rep_enc _) (rep_enc m) ho'
              have HO' : Hid (o' = ps i x (x i) (k + 1)) := Lib.hid (by rw [← ho', ← hmm]; exact ps_mul i k x (x i) hki)
              have MU : Hid (∀ W1, IsP W1 u8 (pl (pn i k) (pp i x k)) → Calls Tryz.prog 72 #[u8, .slice (some ⟨W1.heap.size, 0, none⟩) 2 2] (W1.alloc (.cells #[.int .u64 (enc (-(x k)).a), .int .u64 (enc (-(x k)).b), .int .u64 1, .int .u64 0] 31)) (RetF (pl (pn i (k + 1)) (pp i x (k + 1))) (W1.alloc (.cells #[.int .u64 (enc (-(x k)).a), .int .u64 (enc (-(x k)).b), .int .u64 1, .int .u64 0] 31)))) := Lib.hid (fun W1 h => by
                have := rmulP u8 (.slice (some ⟨W1.heap.size, 0, none⟩) 2 2) (pl (pn i k) (pp i x k)) [-(x k), 1] (W1.alloc (.cells #[.int .u64 (enc (-(x k)).a), .int .u64 (enc (-(x k)).b), .int .u64 1, .int .u64 0] 31)) (h.keep ((Below.refl _ _).alloc (Nat.le_refl _) _)).poly (isP_two (by simp [go_sem]) (by simp [go_sem]) (by simp [go_sem]; rfl) (by simp [go_sem]; rfl)).poly (by have := HPN.out i k; omega) (by simp)
                rw [pp_mul i k x hki] at this
                exact this)
              have HV := Lib.hid hV; have HO := Lib.hid hO; have H8 := Lib.hid h8; have HB := Lib.hid hB
              have G0 := Lib.hid g0; have G1 := Lib.hid g1; have G2 := Lib.hid g2; have G3 := Lib.hid g3
              have hgb2 : gb < wr.heap.size := hV.lt
              clear hR hS hmm ho' hV hO h8 hB g0 g1
              generalize hnx : -(x k) = nx at *
              clear hnx
              generalize ps i x (x i) k = o at *
              go_upto_region 14 with (first
                | (go_at_call 47; ((with_reducible refine (N1 _).mono ?_); rintro e W1 ⟨rfl, hb⟩; have T := MU.out W1 (H8.out.keep hb); replace HV := Lib.hid (HV.out.keep hb); replace HO := Lib.hid (HO.out.keep hb); replace HB := Lib.hid (bthen HB.out hb); replace G0 := Lib.hid (bkeep hb G0.out); replace G1 := Lib.hid (bkeep hb G1.out); replace G2 := Lib.hid (bkeep hb G2.out); replace G3 := Lib.hid (bkeep hb G3.out); have hgb3 : gb < W1.heap.size := Nat.lt_of_lt_of_le hgb2 hb.size; clear hb g2 g3 N1 MU))
                | (go_at_call 72; ((with_reducible refine T.mono ?_); rintro e W2 ⟨v8, rfl, hb, hp, hfr⟩; have hbb := ((Below.refl W1.heap.size W1).alloc (Nat.le_refl _) (.cells #[.int .u64 (enc nx.a), .int .u64 (enc nx.b), .int .u64 1, .int .u64 0] 31)).trans (hb.mono (by simp)))))
              have hn8' : NotAt gb v8 := hfr.notAt (by simp; omega)
              replace HV := Lib.hid (HV.out.keep hbb)
              replace HO := Lib.hid (HO.out.keep hbb)
              replace HB := Lib.hid (bthen HB.out hbb)
              have g0 := bkeep hbb G0.out
              have g1 := bkeep hbb G1.out
              have g2 := bkeep hbb G2.out
              have g3 := bkeep hbb G3.out
              have HP := Lib.hid hp
              obtain ⟨o0c, o1c, _, _⟩ := HV.out
              clear hb hbb hp hfr T G0 G1 G2 G3 H8
              refine wp_loose [(45, []), (46, []), (47, []), (48, [46, 47]), (49, [48]), (50, []), (51, []), (52, [50, 51]), (53, [52]), (54, [49, 53]), (55, [45, 54])]
                (ThrR14 gb b off n ca i k (enc o.a) (enc o.b) x0 x1 y0 y1 (enc m.a) (enc m.b) (enc o'.a) (enc o'.b)) (fun d => false) (by kernel_rfl) (by kernel_rfl) (fun _ _ _ _ h hb => h.keep hb) ?_ ?_
              · refine opsrun_cons ?_ (opsrun_cons ?_ (opsrun_cons ?_ (opsrun_cons ?_ (opsrun_cons ?_ (opsrun_cons ?_ (opsrun_cons ?_ (opsrun_cons ?_ (opsrun_cons ?_ (opsrun_cons ?_ (opsrun_cons ?_ opsrun_nil))))))))))
                all_goals
                  refine OpRuns.any ?_
                  intro Q0 σ W' K hb hn hK
                  simp only [fill, List.map, Act.put, List.setIfInBounds_toArray, List.set_cons_zero, List.set_cons_succ] at hK ⊢
                · clear hn
                  have o0c' := bkeep hb o0c
                  have o1c' := bkeep hb o1c
                  clear o0c o1c
                  go_simp
                  exact hK _ _ rfl (Below.refl _ _) (fun h => absurd h (by decide))
                · clear hn
                  go_simp
                  exact hK _ _ rfl (Below.refl _ _) (fun h => absurd h (by decide))
                · clear hn
                  go_simp
                  exact hK _ _ rfl (Below.refl _ _) (fun h => absurd h (by decide))
                · have h46 : σ 46 = _ := hn 46 (by decide)
                  have h47 : σ 47 = _ := hn 47 (by decide)
                  clear hn
                  simp only [h46, h47] at hK
                  go_simp
                  exact hK _ _ rfl (Below.refl _ _) (fun h => absurd h (by decide))
                · have h48 : σ 48 = _ := hn 48 (by decide)
                  clear hn
                  simp only [h48] at hK
                  have g0' := bkeep hb g0
                  have g1' := bkeep hb g1
                  clear g0 g1
                  go_simp
                  exact hK _ _ rfl (Below.refl _ _) (fun h => absurd h (by decide))
                · clear hn
                  go_simp
                  exact hK _ _ rfl (Below.refl _ _) (fun h => absurd h (by decide))
                · clear hn
                  go_simp
                  exact hK _ _ rfl (Below.refl _ _) (fun h => absurd h (by decide))
                · have h50 : σ 50 = _ := hn 50 (by decide)
                  have h51 : σ 51 = _ := hn 51 (by decide)
                  clear hn
                  simp only [h50, h51] at hK
                  go_simp
                  exact hK _ _ rfl (Below.refl _ _) (fun h => absurd h (by decide))
                · have h52 : σ 52 = _ := hn 52 (by decide)
                  clear hn
                  simp only [h52] at hK
                  have g2' := bkeep hb g2
                  have g3' := bkeep hb g3
                  clear g2 g3
                  go_simp
                  exact hK _ _ rfl (Below.refl _ _) (fun h => absurd h (by decide))
                · have h49 : σ 49 = _ := hn 49 (by decide)
                  have h53 : σ 53 = _ := hn 53 (by decide)
                  clear hn
                  simp only [h49, h53] at hK
                  go_simp
                  go_at_call 44
                  refine (s1 _).mono ?_
                  rintro e w1 ⟨rfl, hb1⟩
                  exact hK _ _ rfl hb1 (fun h => absurd h (by decide))
                · have h45 : σ 45 = _ := hn 45 (by decide)
                  have h54 : σ 54 = _ := hn 54 (by decide)
                  clear hn
                  simp only [h45, h54] at hK
                  go_simp
                  go_at_call 46
                  refine (m1 _).mono ?_
                  rintro e w1 ⟨rfl, hb1⟩
                  exact hK _ _ rfl hb1 (fun h => absurd h (by decide))
              · intro σ W' hb hR' hF
                have h55 : σ 55 = _ := hR' 55 (by decide)
                replace HB := Lib.hid (bthen HB.out hb)
                have hV := HV.out.keep hb
                have HV2 := Lib.hid hV
                replace HO := Lib.hid (HO.out.keep hb)
                replace HP := Lib.hid (HP.out.keep hb)
                obtain ⟨c0, c1, f0, f1⟩ := hV
                clear hR' hF o0c o1c g0 g1 g2 g3 hb s1 m1
                simp only [fill, List.map, Act.put, List.setIfInBounds_toArray, List.set_cons_zero, List.set_cons_succ, List.length_cons, List.length_nil, List.drop_succ_cons, List.drop_zero, Nat.reduceAdd, h55]
                clear h55
                go_wp2_with fail
                go_roundw
                case rel => exact ⟨k + 1, by omega, by go_num, (HB.out.setCell hgb1 _).setCell hgb1 _, (HP.out.off hn8' _ _).off hn8' _ _, by rw [← HO'.out]; exact HV2.out.set _ _, (HO.out.off hvo _ _).off hvo _ _, hn8'⟩
                case measure => simp [intOf]; omega
          · have hkn : k = n := by omega
            rw [hkn] at h8 hV ⊢
            clear hkn hlt2 hk
            have HV := Lib.hid hV; have HO := Lib.hid hO; have H8 := Lib.hid h8; have HB := Lib.hid hB
            obtain ⟨v0c, v1c, _, _⟩ := hV
            clear hO h8 hB
            by_cases hp0 : ps i x (x i) n = 0
            · have I1 := rinv_no (enc (ps i x (x i) n).a) (enc (ps i x (x i) n).b) (ps i x (x i) n) (rep_enc _) hp0
              have HF := Lib.hid (HNO.out i hlt hp0)
              clear hp0
              generalize ps i x (x i) n = o at *
              go_wp2_with ((go_at_call 45; ((with_reducible refine (I1 _).mono ?_); rintro e W1 ⟨rfl, hb⟩; replace HB := Lib.hid (bthen HB.out hb); clear hb v0c v1c)))
              go_ret2
              exact RetT.no HF.out rfl (HB.out.alloc HB.out.size _)
            · have I1 := rinv_yes (enc (ps i x (x i) n).a) (enc (ps i x (x i) n).b) (ps i x (x i) n) (qinv (ps i x (x i) n)) (rep_enc _) hp0 rfl
              obtain ⟨b2, off2, z0, z1, hbe, k0, k1, hZ⟩ := HD.out i hlt
              subst hbe
              obtain ⟨wv, hwv⟩ : ∃ wv, qinv (ps i x (x i) n) * y i = wv := ⟨_, rfl⟩
              have HNX := HNEXT.out wv hwv
              obtain ⟨ls, hls⟩ : ∃ ls, pl (pl (pn i n) (pp i x n)).length (fun j => cq (pl (pn i n) (pp i x n)) j * wv) = ls := ⟨_, rfl⟩
              obtain ⟨la, hla⟩ : ∃ la, pl n (lgr n x y (i + 1)) = la := ⟨_, rfl⟩
              rw [hls, hla] at HNX
              have HP0 := Lib.hid hp0
              have m1 := rmul_q (enc (qinv (ps i x (x i) n)).a) (enc (qinv (ps i x (x i) n)).b) z0 z1 (qinv (ps i x (x i) n)) (y i) wv (rep_enc _) hZ hwv
              have hlsl : ls.length ≤ n + 1 := by rw [← hls, pl_len]; exact Nat.le_trans (tn_le _ _) (HPN.out i n)
              have K0 := Lib.hid (bkeep HB.out k0); have K1 := Lib.hid (bkeep HB.out k1)
              have HLA := Lib.hid hla
              have hlol : lo.length ≤ n := HLO.out
              have SCX : Hid (∀ W, IsP W u8 (pl (pn i n) (pp i x n)) → Calls Tryz.prog 74 #[u8, .agg #[.int .u64 (enc wv.a), .int .u64 (enc wv.b)]] W (RetF ls W)) := Lib.hid (fun W h => by
                have := rscaleP u8 (pl (pn i n) (pp i x n)) (enc wv.a) (enc wv.b) wv W h.poly (rep_enc wv) (by have := HPN.out i n; omega)
                rw [hls] at this
                exact this)
              have ADX : Hid (∀ W v71, IsP W u6 lo → IsP W v71 ls → Calls Tryz.prog 73 #[u6, v71] W (RetF la W)) := Lib.hid (fun W v71 h h' => by
                have := raddP u6 v71 lo ls W h.poly h'.poly (by omega) (by omega)
                rw [HNX] at this
                exact this)
              clear hZ hwv hp0 hls hla HNX k0 k1
              generalize hoo : ps i x (x i) n = o at *
              have HOO := Lib.hid hoo
              clear hoo
              go_upto_region 18 with ((go_at_call 45; ((with_reducible refine (I1 _).mono ?_); rintro e W1 ⟨rfl, hb⟩; replace HB := Lib.hid (bthen HB.out hb); replace K0 := Lib.hid (bkeep hb K0.out); replace K1 := Lib.hid (bkeep hb K1.out); replace HO := Lib.hid (HO.out.keep hb); replace H8 := Lib.hid (H8.out.keep hb); clear hb v0c v1c)))
              generalize qinv o = q at *
              refine wp_gen (fun W => Below w.heap.size w W ∧ IsP W u6 lo ∧ IsP W u8 (pl (pn i n) (pp i x n)) ∧ Var W W1.heap.size (enc q.a) (enc q.b) ∧ W.cell? ⟨b2, off2 + i * 2, none⟩ = some (.int .u64 z0) ∧ W.cell? ⟨b2, off2 + i * 2 + 1, none⟩ = some (.int .u64 z1)) ⟨HB.out.alloc HB.out.size _, HO.out.keep ((Below.refl _ _).alloc (Nat.le_refl _) _), H8.out.keep ((Below.refl _ _).alloc (Nat.le_refl _) _), Var.new _ _ _ _, bkeep ((Below.refl _ _).alloc (Nat.le_refl _) _) K0.out, bkeep ((Below.refl _ _).alloc (Nat.le_refl _) _) K1.out⟩ ?_
              clear HB HO H8 K0 K1 HV I1
              rintro W2 ⟨hB, hO, h8, ⟨q0c, q1c, _, _⟩, k0, k1⟩
              have HB := Lib.hid hB; have HO := Lib.hid hO; have H8 := Lib.hid h8
              have SC := fun W (hb : Below W2.heap.size W2 W) => SCX.out W (H8.out.keep hb)
              have AD := fun W v71 (hb : Below W2.heap.size W2 W) (hp : IsP W v71 ls) => ADX.out W v71 (HO.out.keep hb) hp
              clear hB hO h8
              refine wp_loose [(63, []), (64, []), (65, []), (66, []), (67, []), (68, [66, 67]), (69, [68]), (70, [65, 69]), (71, [64, 70]), (72, [63, 71])]
                (ThrR18 u6 u8 b2 off2 n cb i 0 (enc q.a) (enc q.b) z0 z1 (enc wv.a) (enc wv.b) ls la) (fun d => false) (by kernel_rfl) (by kernel_rfl) (fun _ _ _ _ h hb => h.keep hb) ?_ ?_
              · refine opsrun_cons ?_ (opsrun_cons ?_ (opsrun_cons ?_ (opsrun_cons ?_ (opsrun_cons ?_ (opsrun_cons ?_ (opsrun_cons ?_ (opsrun_cons ?_ (opsrun_cons ?_ (opsrun_cons ?_ opsrun_nil)))))))))
                all_goals
                  refine OpRuns.any ?_
                  intro Q0 σ W' K hb hn hK
                  simp only [fill, List.map, Act.put, List.setIfInBounds_toArray, List.set_cons_zero, List.set_cons_succ] at hK ⊢
                · clear hn
                  go_simp
                  exact hK _ _ rfl (Below.refl _ _) (fun h => absurd h (by decide))
                · clear hn
                  go_simp
                  exact hK _ _ rfl (Below.refl _ _) (fun h => absurd h (by decide))
                · clear hn
                  have q0c' := bkeep hb q0c
                  have q1c' := bkeep hb q1c
                  clear q0c q1c
                  go_simp
                  exact hK _ _ rfl (Below.refl _ _) (fun h => absurd h (by decide))
                · clear hn
                  go_simp
                  exact hK _ _ rfl (Below.refl _ _) (fun h => absurd h (by decide))
                · clear hn
                  go_simp
                  exact hK _ _ rfl (Below.refl _ _) (fun h => absurd h (by decide))
                · have h66 : σ 66 = _ := hn 66 (by decide)
                  have h67 : σ 67 = _ := hn 67 (by decide)
                  clear hn
                  simp only [h66, h67] at hK
                  go_simp
                  exact hK _ _ rfl (Below.refl _ _) (fun h => absurd h (by decide))
                · have h68 : σ 68 = _ := hn 68 (by decide)
                  clear hn
                  simp only [h68] at hK
                  have k0' := bkeep hb k0
                  have k1' := bkeep hb k1
                  clear k0 k1
                  go_simp
                  exact hK _ _ rfl (Below.refl _ _) (fun h => absurd h (by decide))
                · have h65 : σ 65 = _ := hn 65 (by decide)
                  have h69 : σ 69 = _ := hn 69 (by decide)
                  clear hn
                  simp only [h65, h69] at hK
                  go_simp
                  go_at_call 46
                  refine (m1 _).mono ?_
                  rintro e w1 ⟨rfl, hb1⟩
                  exact hK _ _ rfl hb1 (fun h => absurd h (by decide))
                · have h64 : σ 64 = _ := hn 64 (by decide)
                  have h70 : σ 70 = _ := hn 70 (by decide)
                  clear hn
                  simp only [h64, h70] at hK
                  go_simp
                  go_at_call 74
                  refine (SC _ hb).mono ?_
                  rintro e w1 ⟨v1, rfl, hb1, hp, hfr⟩
                  exact hK _ _ hp hb1 (fun h => absurd h (by decide))
                · have h63 : σ 63 = _ := hn 63 (by decide)
                  have hp71 : IsP W' (σ 71) ls := hn 71 (by decide)
                  clear hn
                  simp only [h63] at hK
                  generalize hv71 : σ 71 = v71 at *
                  go_simp
                  go_at_call 73
                  refine (AD _ v71 hb hp71).mono ?_
                  rintro e w1 ⟨v1, rfl, hb1, hp, hfr⟩
                  exact hK _ _ hp hb1 (fun h => absurd h (by decide))
              · intro σ W' hb hR' hF
                have hp : IsP W' (σ 72) la := hR' 72 (by decide)
                generalize hv72 : σ 72 = v72 at *
                have HP := Lib.hid hp
                replace HB := Lib.hid (bthen HB.out hb)
                clear hR' hF q0c q1c k0 k1 hb hp SC AD m1
                simp only [fill, List.map, Act.put, List.setIfInBounds_toArray, List.set_cons_zero, List.set_cons_succ, List.length_cons, List.length_nil, List.drop_succ_cons, List.drop_zero, Nat.reduceAdd, hv72]
                clear hv72
                go_wp2_with fail
                go_roundw
                case rel => exact ⟨i + 1, by omega, by go_num, HB.out, by rw [HLA.out]; exact HP.out, fun j hj => by
                  by_cases e : j = i
                  · rw [e, HOO.out]; exact HP0.out
                  · exact HNE.out j (by omega)⟩
                case measure => simp [intOf]; omega
      · have hin : i = n := by omega
        subst hin
        obtain ⟨e1, e2⟩ := HYES.out hne
        have HB := Lib.hid hB; have HO := Lib.hid hO; have E1 := Lib.hid e1; have E2 := Lib.hid e2
        clear hB hO hne e1 e2
        go_wp2_with fail
        go_ret2
        exact RetT.yes E1.out E2.out rfl HB.out HO.out
  · have H := Lib.hid (fun e w' => @RetT.no l m' w w' e (thrB_len hlen))
    have d1 : ((l.length : Int) == (m'.length : Int)) = false := by simp; omega
    have d2 : decide ((l.length : Int) = (m'.length : Int)) = false := by simp; omega
    generalize l.length = la at *
    generalize m'.length = lb at *
    clear h1 h2
    go_enter Tryz.func38, Tryz.ntmps38
    go_wp2
    go_ret2
    exact H.out _ _ rfl (Below.refl _ _)
end Go.Proofs.YthfkfgjhgicfeaaGreatDoor
namespace Go.Proofs.YthfkfgjhgicfeaaGreatDoor
open Go.RowKit Go.Sort Go.BigFrame
set_option linter.unusedVariables false

def RetI (d : Int) (w : World) (e : Ending) (w' : World) : Prop := e = .returned (.int .i64 d) ∧ Below w.heap.size w w'
def RetQ (y : F2) (w : World) (e : Ending) (w' : World) : Prop := e = .returned (.agg #[.int .u64 (enc y.a), .int .u64 (enc y.b)]) ∧ Below w.heap.size w w'
def trimP (l : List F2) : List F2 := pl l.length (cq l)
def degP (l : List F2) : Int := (tn (cq l) l.length : Int) - 1
def atP (l : List F2) (x : F2) : F2 := qe l.length (cq l) x
def scaP (l : List F2) (x : F2) : List F2 := pl l.length (fun i => cq l i * x)
theorem dthrough (v u : Value) (l m : List F2) (w : World) (h1 : Poly w v l) (h2 : Poly w u m) (hl : l.length ≤ 65536) (hm : m.length ≤ 65536) : Calls Tryz.prog 38 #[v, u] w (RetT l m w) := rthrP v u l m w h1 h2 (by omega) (by omega)
end Go.Proofs.YthfkfgjhgicfeaaGreatDoor
namespace Go.Proofs.YthfkfgjhgicfeaaGreatDoor
set_option linter.unusedVariables false

theorem atP_pl {n : Nat} {c : Nat → F2} (h : Upto n c) (x : F2) : atP (pl n c) x = qe n c x := qe_pl h x
/-- X less each of some, all together. -/
def rootsP (l : List F2) (k : Nat) : List F2 := pl (k + 1) (pp l.length (cq l) k)
theorem pp_upto' (l : List F2) (k : Nat) (h : k ≤ l.length) : Upto (k + 1) (pp l.length (cq l) k) := by
  have := pp_upto l.length (cq l) k
  unfold pn at this
  rwa [if_neg (by omega)] at this
theorem rootsP_zero (l : List F2) : rootsP l 0 = [1] := pl_one2
theorem rootsP_step (l : List F2) (k : Nat) (h : k < l.length) : mulP (rootsP l k) [-(cq l k), 1] = rootsP l (k + 1) := by
  refine mul_lin (pp_upto' l k (by omega)) (cq l k) (pp_upto' l (k + 1) (by omega)) fun i => ?_
  show _ = (if k = l.length then _ else _ : Nat → F2) i
  rw [if_neg (by omega)]
theorem atP_roots (l : List F2) (k : Nat) (h : k ≤ l.length) (x : F2) : atP (rootsP l k) x = 0 ↔ ∃ i, i < k ∧ x = cq l i := by
  unfold rootsP
  rw [atP_pl (pp_upto' l k h)]
  have e := pp_eval l.length (cq l) x k
  unfold pn at e
  rw [if_neg (by omega)] at e
  rw [e, ps_zero]
  exact ⟨fun ⟨i, h1, _, h3⟩ => ⟨i, h1, h3⟩, fun ⟨i, h1, h3⟩ => ⟨i, h1, by omega, h3⟩⟩
end Go.Proofs.YthfkfgjhgicfeaaGreatDoor
namespace Go.Proofs.YthfkfgjhgicfeaaGreatDoor
set_option linter.unusedVariables false

/-- No two of a list are the same. -/
def Apart (l : List F2) : Prop := ∀ i j, i < l.length → j < i → cq l i ≠ cq l j
theorem Apart.yes {l m : List F2} (h : Apart l) (hl : l.length = m.length) : thrB l m = true := by
  refine thrB_yes hl fun i hi h0 => ?_
  obtain ⟨j, h1, h2, h3⟩ := (ps_zero i (cq l) (cq l i) l.length).1 h0
  rcases Nat.lt_or_gt_of_ne h2 with c | c
  · exact h i j hi c h3
  · exact h j i h1 c h3.symm
theorem Apart.thrL {l m : List F2} (h : Apart l) (hl : l.length = m.length) : thrL l m = pl l.length (lgr l.length (cq l) (cq m) l.length) := by
  unfold Go.Proofs.YthfkfgjhgicfeaaGreatDoor.thrL
  rw [if_pos (h.yes hl)]
theorem Apart.at {l m : List F2} (h : Apart l) (hl : l.length = m.length) (i : Nat) (hi : i < l.length) : atP (Go.Proofs.YthfkfgjhgicfeaaGreatDoor.thrL l m) (cq l i) = cq m i := by
  rw [h.thrL hl, atP_pl (lgr_upto _ _ _ _ (Nat.le_refl _))]
  exact lgr_eval _ _ _ h i hi
theorem Apart.len {l m : List F2} (h : Apart l) (hl : l.length = m.length) : (Go.Proofs.YthfkfgjhgicfeaaGreatDoor.thrL l m).length ≤ l.length := by
  rw [h.thrL hl, pl_len]
  exact tn_le _ _
/-- The values of p at a list's first k. -/
def valsP (p l : List F2) (k : Nat) : List F2 := mk k fun i => atP p (cq l i)
theorem valsP_len (p l : List F2) (k : Nat) : (valsP p l k).length = k := mk_len _ _
theorem valsP_at (p l : List F2) (k i : Nat) (h : i < k) : cq (valsP p l k) i = atP p (cq l i) := mk_at _ _ _ h
/-- The one through a polynomial's values at more places than its degree is it. -/
theorem Apart.one {p l : List F2} (h : Apart l) (hd : degP p < l.length) : Go.Proofs.YthfkfgjhgicfeaaGreatDoor.thrL l (valsP p l l.length) = trimP p := by
  have hl : l.length = (valsP p l l.length).length := (valsP_len _ _ _).symm
  have hu : Upto l.length (cq p) := (tn_upto (cq_upto p)).more (by unfold degP at hd; omega)
  rw [h.thrL hl]
  unfold trimP
  refine pl_same (lgr_upto _ _ _ _ (Nat.le_refl _)) (cq_upto p) fun i => ?_
  refine through_one (lgr_upto _ _ _ _ (Nat.le_refl _)) hu (cq l) h (fun j hj => ?_) i
  rw [lgr_eval _ _ _ h j hj, valsP_at _ _ _ _ hj]
  unfold atP
  by_cases c : p.length ≤ l.length
  · exact (qe_more _ c (cq_upto p)).symm
  · exact qe_more _ (by omega) hu
end Go.Proofs.YthfkfgjhgicfeaaGreatDoor
