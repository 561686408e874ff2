/-
  PolyNwt: The polynomial through points, put together point by point: of those gone through so far. Plain mathematics over XPolyAsk's words.
  PgTrim: What the program's kept, Degree and Trim of package poly come to: contracts for the walk.
  PgAt: What the program's At and Lift of package poly come to: contracts for the walk. (At is written by gen_pat.py, of XPolyRef's.)
  PgScale: What the program's Scale of package poly comes to: a contract for the walk. (Written by gen_pg1.py.)
  PgAdd: What the program's Add of package poly comes to: a contract for the walk. (Written by gen_pg1.py.)
  PgMul: What the program's Mul of package poly comes to: a contract for the walk. (Written by gen_pg2.py.)
  PgDiv: What the program's Divide of package poly comes to: a contract for the walk. (Written by gen_pg3.py.)
  PgThr: What the program's Through of package poly comes to; and all that is asked of the package (ask). (Written by gen_pg4.py.)
-/
import Derived.Test.YthfkfgjhgicfeaaGreatDoorGPolyR
import Derived.Test.YthfkfgjhgicfeaaGreatDoorGRow
import Derived.Test.YthfkfgjhgicfeaaGreatDoorGNum
namespace Go.Proofs.YthfkfgjhgicfeaaGreatDoor
set_option linter.unusedVariables false

/-- One that comes to the values at the first k places. -/
def Gone (l m : List F2) (k : Nat) (o : List F2) : Prop := ∃ c, Upto k c ∧ o = pl k c ∧ ∀ j, j < k → qe k c (cq l j) = cq m j
/-- No two of the first k are the same. -/
def ApartTo (l : List F2) (k : Nat) : Prop := ∀ i j, i < k → j < i → cq l i ≠ cq l j
theorem Gone.start (l m : List F2) : Gone l m 0 [] := ⟨fun _ => 0, fun _ _ => rfl, (pl_nil fun _ => rfl).symm, fun j hj => absurd hj (Nat.not_lt_zero _)⟩
theorem ApartTo.start (l : List F2) : ApartTo l 0 := fun i j h => absurd h (Nat.not_lt_zero _)
theorem Gone.len {l m : List F2} {k : Nat} {o : List F2} (h : Gone l m k o) : o.length ≤ k := by
  obtain ⟨c, _, rfl, _⟩ := h
  rw [pl_len]; exact tn_le _ _
theorem rootsP_len (l : List F2) (k : Nat) : (rootsP l k).length ≤ k + 1 := by unfold rootsP; rw [pl_len]; exact tn_le _ _
theorem scaP_len (l : List F2) (x : F2) : (scaP l x).length ≤ l.length := by unfold scaP; rw [pl_len]; exact tn_le _ _
theorem addP_len (l m : List F2) : (addP l m).length ≤ max l.length m.length := by unfold addP; rw [pl_len]; exact tn_le _ _
theorem ApartTo.step {l : List F2} {k : Nat} (h : ApartTo l k) (hk : k < l.length) (hne : atP (rootsP l k) (cq l k) ≠ 0) : ApartTo l (k + 1) := by
  intro i j hi hj
  by_cases e : i = k
  · subst e
    intro he
    exact hne ((atP_roots l i (by omega) (cq l i)).2 ⟨j, hj, he⟩)
  · exact h i j (by omega) hj
/-- A meeting: there is none. -/
theorem thrB_met {l m : List F2} {k : Nat} (hk : k < l.length) (h0 : atP (rootsP l k) (cq l k) = 0) : thrB l m = false := by
  obtain ⟨i, h1, h2⟩ := (atP_roots l k (by omega) (cq l k)).1 h0
  exact thrB_two hk ((ps_zero k (cq l) (cq l k) l.length).2 ⟨i, by omega, by omega, h2⟩)
theorem Gone.step {l m : List F2} {k : Nat} {o : List F2} (h : Gone l m k o) (hk : k < l.length) {p a s z : F2} (hp : atP (rootsP l k) (cq l k) = p) (ha : atP o (cq l k) = a) (hne : p ≠ 0) (hs : cq m k - a = s) (hz : s * qinv p = z) :
    Gone l m (k + 1) (addP o (scaP (rootsP l k) z)) := by
  obtain ⟨c, hc, rfl, hv⟩ := h
  have hg := pp_upto' l k (Nat.le_of_lt hk)
  have hz0 : Upto (k + 1) (fun i => c i + pp l.length (cq l) k i * z) := fun i hi => by dsimp only; rw [hc i (by omega), hg i hi, F2.zero_mul, F2.add_zero]
  refine ⟨fun i => c i + pp l.length (cq l) k i * z, hz0, ?_, fun j hj => ?_⟩
  · exact add_scale hc hg hz0 z fun i => rfl
  · have hgz : ∀ y, atP (rootsP l k) y = qe (k + 1) (pp l.length (cq l) k) y := fun y => atP_pl hg y
    have hoz : ∀ y, atP (pl k c) y = qe k c y := fun y => atP_pl hc y
    rw [qe_add, qe_scale, qe_more _ (Nat.le_succ k) hc, ← hgz]
    by_cases e : j = k
    · subst e
      rw [hp, ← hoz, ha, ← hz, ← hs]
      have h1 := mul_qinv p hne
      calc a + (cq m j - a) * qinv p * p = a + (cq m j - a) * (p * qinv p) := by ac_rfl
        _ = cq m j := by rw [h1, F2.mul_comm, F2.one_mul, F2.sub_eq, F2.add_comm (cq m j), ← F2.add_assoc, F2.add_neg, F2.zero_add]
    · rw [(atP_roots l k (Nat.le_of_lt hk) (cq l j)).2 ⟨j, by omega, rfl⟩, F2.mul_zero, F2.add_zero, hv j (by omega)]
theorem Gone.all {l m : List F2} {o : List F2} (h : Gone l m l.length o) (ha : ApartTo l l.length) (hl : l.length = m.length) : thrB l m = true ∧ thrL l m = o := by
  have hA : Apart l := ha
  refine ⟨hA.yes hl, ?_⟩
  obtain ⟨c, hc, rfl, hv⟩ := h
  rw [hA.thrL hl]
  refine pl_same (lgr_upto _ _ _ _ (Nat.le_refl _)) hc fun i => ?_
  refine through_one (lgr_upto _ _ _ _ (Nat.le_refl _)) hc (cq l) hA (fun j hj => ?_) i
  rw [lgr_eval _ _ _ hA j hj, hv j hj]
end Go.Proofs.YthfkfgjhgicfeaaGreatDoor
namespace Go.Proofs.YthfkfgjhgicfeaaGreatDoor
open Go.RowKit
set_option linter.unusedVariables false

theorem psum_one (a b : Int) (x : F2) (hx : Rep a b x) (v : Value) (w : World) (hr : QRow w v [(a, b)]) : Calls Tryz.prog 121 #[v] w fun e w' => e = .returned (.agg #[.int .u64 (enc x.a), .int .u64 (enc x.b)]) ∧ Below w.heap.size w w' := by
  have h := psum_q v [(a, b)] w hr (by intro n hn; simp at hn; subst hn; exact ⟨hx.1, hx.2.1⟩)
  have e : qsum ([(a, b)].map toQ) = x := by
    show toQ (a, b) + 0 = x
    rw [F2.add_zero]; exact F2.eq hx.2.2.1 hx.2.2.2
  rw [e] at h
  exact h
theorem kept_q (a b : Int) (x : F2) (hx : Rep a b x) (w : World) : Calls Tryz.prog 113 #[.agg #[.int .u64 a, .int .u64 b]] w fun e w' => e = .returned (.agg #[.int .u64 (enc x.a), .int .u64 (enc x.b)]) ∧ Below w.heap.size w w' := by
  have k1 := psum_one a b x hx
  generalize enc x.a = s at *
  generalize enc x.b = t at *
  clear hx
  go_enter Tryz.func113, Tryz.ntmps113
  go_upto_region 1 with fail
  refine wp_gen (fun W => Below w.heap.size w W ∧ Var W w.heap.size a b ∧ Var W (w.heap.size + 1) 0 0) ⟨((Below.refl _ _).alloc (Nat.le_refl _) _).alloc (by simp) _, by simp [Var, go_sem], by simp [Var, go_sem]⟩ ?_
  rintro W ⟨hB, ⟨c0, c1, f0, f1⟩, hR⟩
  go_wp2_with (go_at_call 121; ((with_reducible refine (k1 _ _ (qrow_one (by simp [go_sem]) (by simp [go_sem]))).mono ?_); rintro e w1 ⟨rfl, hb⟩; have hbb := ((Below.refl W.heap.size W).alloc (Nat.le_refl _) (.cells #[.int .u64 a, .int .u64 b] 31)).trans (hb.mono (by simp)); obtain ⟨d0, d1, e0, e1⟩ := hR.keep hbb; replace hB := bthen hB hbb; clear hb hbb c0 c1 f0 f1))
  exact bodyPost_ret (v := .agg #[.int .u64 s, .int .u64 t]) (by simp [results, Tryz.results113, go_sem, d0, d1]) rfl ⟨rfl, (hB.setCell (by simp) _).setCell (by simp) _⟩

set_option maxHeartbeats 4000000 in
theorem pdegree (v : Value) (l : List F2) (w : World) (h : Poly w v l) (hl : l.length ≤ 4294967296) : Calls Tryz.prog 79 #[v] w (RetI (degP l) w) := by
  obtain ⟨a, cap, rfl⟩ := h.slice
  obtain ⟨_, hm, hc⟩ := h.at
  unfold maxLen at hm
  have HC := Lib.hid hc
  have HT := Lib.hid (tn_le (cq l))
  have hT1 : Hid (∀ m, cq l m = 0 → tn (cq l) (m + 1) = tn (cq l) m) := Lib.hid (fun m h => by show (if _ then _ else _) = _; rw [if_pos h])
  have hT2 : Hid (∀ m, cq l m ≠ 0 → tn (cq l) (m + 1) = m + 1) := Lib.hid (fun m h => by show (if _ then _ else _) = _; rw [if_neg h])
  have HD : Hid (degP l = (tn (cq l) l.length : Int) - 1) := Lib.hid rfl
  generalize degP l = d at *
  clear hc h
  generalize hL : l.length = len at *
  have hL1 : (len : Int) ≤ 4294967296 := by omega
  clear hL
  go_enter Tryz.func79, Tryz.ntmps79
  go_upto_region 2 with fail
  go_loopw [3] (TrimDown w l len) (fun i _ => (intOf i).toNat)
  case atStart => exact ⟨len, Nat.le_refl _, rfl, rfl, Below.refl _ _⟩
  case round =>
    obtain ⟨n, hn, rfl, ht, hB⟩ := hrel
    rcases Nat.eq_zero_or_pos n with hn0 | hn0
    · have p0 : ¬ (0 : Int) < (n : Int) := by omega
      have HE : Hid ((n : Int) - 1 = d) := Lib.hid (by rw [HD.out, ht, hn0]; rfl)
      have HB := Lib.hid hB
      clear hn0 ht hB
      go_wp2_with fail
      go_ret
      exact ⟨congrArg (fun z => Ending.returned (Value.int .i64 z)) HE.out, HB.out⟩
    · obtain ⟨m, hm1⟩ : ∃ m, n = m + 1 := ⟨n - 1, by omega⟩
      obtain ⟨b, off, z0, z1, rfl, g0, g1, hR⟩ := HC.out m (by omega)
      replace g0 := bkeep hB g0
      replace g1 := bkeep hB g1
      have e1 : ((n : Int) - 1) = (m : Int) := by omega
      have p1 : (0 : Int) < (n : Int) := by omega
      have HM := Lib.hid hm1
      have p2 : (m : Int) < (len : Int) := by omega
      have a1 := kept_q z0 z1 (cq l m) hR
      by_cases hx : cq l m = 0
      · rw [hx, show enc (0 : F2).a = 0 from rfl, show enc (0 : F2).b = 0 from rfl] at a1
        have HT1 : Hid (tn (cq l) len = tn (cq l) m) := Lib.hid (by rw [ht, HM.out]; exact hT1.out m hx)
        clear ht hx hR hm1 hn0
        go_upto_region 3 with ((go_at_call 113; ((with_reducible refine (a1 _).mono ?_); rintro e w1 ⟨rfl, hb⟩; replace hB := bthen hB hb; clear hb g0 g1)))
        have HB := Lib.hid hB
        clear hB
        go_wp2_with fail
        go_roundw
        case rel => exact ⟨m, by omega, by first | rfl | exact congrArg (Value.int .i64) e1, HT1.out, HB.out⟩
        case measure => have := HM.out; simp [intOf]; omega
      · have HNE := Lib.hid (enc_ne hx)
        have HE : Hid ((m : Int) = d) := Lib.hid (by rw [HD.out, ht, HM.out, hT2.out m hx]; omega)
        generalize enc (cq l m).a = s at *
        generalize enc (cq l m).b = t at *
        have HB := Lib.hid hB
        clear hx hR hm1 hn0 ht hB
        go_upto_region 4 with ((go_at_call 113; ((with_reducible refine (a1 _).mono ?_); rintro e w1 ⟨rfl, hb⟩; replace HB := Lib.hid (bthen HB.out hb); clear hb g0 g1 a1)))
        case roundEnd => exfalso; rcases HNE.out with h | h <;> exact h (by assumption)
        all_goals
          go_wp2_with fail
          go_ret
          exact ⟨congrArg (fun z => Ending.returned (Value.int .i64 z)) HE.out, HB.out⟩

/-- A call that tells a polynomial in a row of its own. -/
def RetA (l : List F2) (w : World) (e : Ending) (w' : World) : Prop :=
  ∃ g, e = .returned (.slice (some ⟨g, 0, none⟩) l.length l.length) ∧ w.heap.size ≤ g ∧ Below w.heap.size w w' ∧ Arr w' g (l.length * 2) (pc fun j => encP (cq l j))
theorem mk_cq (l : List F2) : mk l.length (cq l) = l := by
  refine List.ext_getElem (by rw [mk_len]) fun i h1 h2 => ?_
  simp [mk, cq, List.getD, h2]
theorem RetA.retF {l : List F2} {w w' : World} {e : Ending} (hl : l.length ≤ maxLen) (h : RetA l w e w') : RetF l w e w' := by
  obtain ⟨g, rfl, hg, hb, hA⟩ := h
  exact ⟨_, rfl, hb, by have := hA.isP (Nat.le_refl _) hl; rwa [mk_cq] at this, fun a n c he => by cases he; exact hg⟩

set_option maxHeartbeats 4000000 in
theorem ptrim_new (v : Value) (l : List F2) (w : World) (h : Poly w v l) (hl : l.length ≤ 4294967296) : Calls Tryz.prog 114 #[v] w (RetA (trimP l) w) := by
  have DG := pdegree v l w h hl
  obtain ⟨a, cap, rfl⟩ := h.slice
  obtain ⟨_, hm, hc⟩ := h.at
  have hn0 := tn_le (cq l) l.length
  have HTL : Hid ((trimP l).length = tn (cq l) l.length) := Lib.hid (pl_len _ _)
  have HTC : Hid (∀ j, cq (trimP l) j = cq l j) := Lib.hid (cq_pl (cq_upto l))
  unfold RetI degP at DG
  unfold maxLen at hm
  have HC := Lib.hid hc
  clear hc h
  generalize trimP l = r at *
  generalize hL : l.length = len at *
  have hL1 : (len : Int) ≤ 4294967296 := by omega
  generalize tn (cq l) len = n at *
  have HN := Lib.hid HTL.out
  have hmk := fun W => run_make_pairs (P := Tryz.prog) 24 31 (.agg #[.int .u64 0, .int .u64 0]) Tryz.underlying24 infoQ5 rfl n (by omega) W
  generalize hd : (n : Int) - 1 = d at *
  have hd1 : d + 1 = (n : Int) := by omega
  have hd2 : -1 ≤ d ∧ d ≤ 4294967296 := by omega
  clear hL
  go_enter Tryz.func114, Tryz.ntmps114
  go_upto_region 3 with ((go_at_call 79; ((with_reducible refine DG.mono ?_); rintro e w1 ⟨rfl, hb⟩; have HB := Lib.hid hb; clear hb DG)))
  go_loopw [11] (TrimUp w w1.heap.size n (cq l)) (fun i _ => n - (intOf i).toNat)
  case atStart => exact ⟨0, Nat.zero_le _, rfl, HB.out.alloc HB.out.size _, (Arr.newq w1 _ _).same (pc_same (fun i _ => by unfold prt; rw [if_neg (by omega)]))⟩
  case round =>
    clear hmk
    obtain ⟨k, hk, rfl, hW, hA⟩ := hrel
    by_cases hlt : k < n
    · obtain ⟨b', off', z2, z3, rfl, g2, g3, hR⟩ := HC.out k (by omega)
      have a2 := kept_q z2 z3 (cq l k) hR
      have HST := Lib.hid (prt_step (f := cq l) (m := k) rfl)
      generalize cq l k = x at a2 HST
      replace g2 := bkeep hW g2
      replace g3 := bkeep hW g3
      clear hR
      have hlt' : (k : Int) < ((n : Nat) : Int) := by omega
      have hlt2 : (k : Int) < (len : Int) := by omega
      have hwr : w.heap.size ≤ w1.heap.size := HB.out.size
      go_upto_region 6 with ((go_at_call 113; ((with_reducible refine (a2 _).mono ?_); rintro e w2 ⟨rfl, hb⟩; replace hA := hA.keep hb; replace hW := bthen hW hb; obtain ⟨c0, c1, f0, f1⟩ := hA.cells k hlt; clear hb g2 g3)))
      have HA := Lib.hid ((hA.setq k (enc x.a) (enc x.b) hlt).same (pc_same fun j _ => HST.out j))
      have HW := Lib.hid hW
      clear hA hW c0 c1 f0 f1
      go_wp2_with fail
      go_roundw
      case rel => exact ⟨k + 1, by omega, by go_num, (HW.out.setCell hwr _).setCell hwr _, HA.out⟩
      case measure => simp [intOf]; omega
    · have hkn : k = n := by omega
      subst hkn
      have HA := Lib.hid (hA.same (pc_same (prt_all _ _)))
      have HW := Lib.hid hW
      clear hA hW
      go_wp2_with fail
      go_ret
      refine ⟨w1.heap.size, by rw [HN.out]; rfl, HB.out.size, HW.out, ?_⟩
      rw [HN.out]
      exact HA.out.same (pc_same fun j _ => by rw [HTC.out])
end Go.Proofs.YthfkfgjhgicfeaaGreatDoor
namespace Go.Proofs.YthfkfgjhgicfeaaGreatDoor
open Go.RowKit
set_option linter.unusedVariables false

def PAtR (b off len cap k g3 g5 : Nat) (x0 x1 o0 o1 m0 m1 z0 z1 n0 n1 : Int) (sl : Nat) (v : Value) (W : World) : Prop :=
  match sl with
  | 15 => v = .agg #[.int .u64 o0, .int .u64 o1]
  | 16 => v = .agg #[.int .u64 x0, .int .u64 x1]
  | 17 => v = .agg #[.int .u64 m0, .int .u64 m1]
  | 18 => v = .slice (some ⟨b, off, none⟩) len cap
  | 19 => v = .int .i64 k
  | 20 => v = .pointer (some ⟨b, off + k * 2, none⟩)
  | 21 => v = .agg #[.int .u64 z0, .int .u64 z1]
  | _ => v = .agg #[.int .u64 n0, .int .u64 n1]
theorem PAtR.keep {b off len cap k g3 g5 : Nat} {x0 x1 o0 o1 m0 m1 z0 z1 n0 n1 : Int} {sl : Nat} {v : Value} {W W' : World} (h : PAtR b off len cap k g3 g5 x0 x1 o0 o1 m0 m1 z0 z1 n0 n1 sl v W) (hb : Below W.heap.size W W') : PAtR b off len cap k g3 g5 x0 x1 o0 o1 m0 m1 z0 z1 n0 n1 sl v W' := h

set_option maxHeartbeats 4000000 in
theorem pat_any (a : Option Addr) (len cap : Nat) (l : List F2) (x0 x1 : Int) (x y : F2) (w : World) (h : PolyA w a len l) (hx : Rep x0 x1 x) (hl : len ≤ 4294967296) (hy : qe l.length (cq l) x = y) :
    Calls Tryz.prog 64 #[.slice a len cap, .agg #[.int .u64 x0, .int .u64 x1]] w fun e w' => e = .returned (.agg #[.int .u64 (enc y.a), .int .u64 (enc y.b)]) ∧ Below w.heap.size w w' := by
  subst hy
  obtain ⟨hL, hm, hc⟩ := h
  subst hL
  unfold maxLen at hm
  have HC := Lib.hid hc
  have hS := Lib.hid (hq_step l.length (cq l) x); have hE := Lib.hid (hq_end l.length (cq l) x); have hZ := Lib.hid (hq_zero l.length (cq l) x)
  clear hc
  generalize hL : l.length = len at *
  have hL1 : (len : Int) ≤ 4294967296 := by omega
  clear hL
  go_enter Tryz.func64, Tryz.ntmps64
  go_upto_region 3 with fail
  go_loopw [6] (AtDown w l x len x0 x1) (fun i _ => (intOf i + 1).toNat)
  case atStart =>
    refine ⟨len, Nat.le_refl _, rfl, (((Below.refl _ _).alloc (Nat.le_refl _) _).alloc (by simp) _).alloc (by simp; omega) _, ((Var.new w x0 x1 _).alloc _).alloc _, ?_, ?_⟩
    · have := (Var.new (w.alloc (.cells #[.int .u64 x0, .int .u64 x1] 31)) 0 0 31).alloc (.cells #[.int .u64 0, .int .u64 0] 31)
      simpa using this
    · rw [hE.out len (Nat.le_refl _), show enc (0 : F2).a = 0 from rfl, show enc (0 : F2).b = 0 from rfl]
      have := Var.new ((w.alloc (.cells #[.int .u64 x0, .int .u64 x1] 31)).alloc (.cells #[.int .u64 0, .int .u64 0] 31)) 0 0 31
      simpa using this
  case round =>
    obtain ⟨n, hn, rfl, hB, hX, hZ0, hO⟩ := hrel
    rcases Nat.eq_zero_or_pos n with hn0 | hn0
    · subst hn0
      rw [hZ.out] at hO
      have p0 : ((0 : Nat) : Int) - 1 = -1 := by omega
      rw [p0]
      obtain ⟨c0, c1, f0, f1⟩ := hO
      obtain ⟨d0, d1, e0, e1⟩ := hZ0
      clear hX
      go_wp2
      exact bodyPost_ret (v := .agg #[.int .u64 (enc (qe len (cq l) x).a), .int .u64 (enc (qe len (cq l) x).b)]) (by simp [results, Tryz.results64, go_sem, d0, d1]) rfl ⟨rfl, (hB.setCell (by simp) _).setCell (by simp) _⟩
    · obtain ⟨k, rfl⟩ : ∃ k, n = k + 1 := ⟨n - 1, by omega⟩
      have p1 : ((k + 1 : Nat) : Int) - 1 = (k : Int) := by omega
      rw [p1]
      obtain ⟨b, off, z0, z1, rfl, g0, g1, hR⟩ := HC.out k (by omega)
      replace g0 := bkeep hB g0
      replace g1 := bkeep hB g1
      have e := hS.out k (by omega)
      generalize hq len (cq l) x (k + 1) = o at *
      generalize hO' : hq len (cq l) x k = o' at *
      obtain ⟨m, hmm⟩ : ∃ m, o * x = m := ⟨_, rfl⟩
      rw [hmm] at e
      have m1 := pmul_q (enc o.a) (enc o.b) x0 x1 o x m (rep_enc o) hx hmm
      have a1 := padd_q (enc m.a) (enc m.b) z0 z1 m (cq l k) o' (rep_enc m) hR e.symm
      have HO' := Lib.hid hO'
      have HXX := Lib.hid hX; have HOO := Lib.hid hO; have HZ0 := Lib.hid hZ0; have HB := Lib.hid hB
      obtain ⟨x0c, x1c, _, _⟩ := hX
      obtain ⟨o0c, o1c, _, _⟩ := hO
      have hk1 : (k : Int) < (len : Int) := by omega
      have hk0 : (0 : Int) ≤ (k : Int) := by omega
      clear e hmm hO' hR hZ0 hB p1 hn0
      go_upto_region 5 with fail
      refine wp_loose [(15, []), (16, []), (17, [15, 16]), (18, []), (19, []), (20, [18, 19]), (21, [20]), (22, [17, 21])]
        (PAtR b off len cap k w.heap.size (w.heap.size + 1 + 1) x0 x1 (enc o.a) (enc o.b) (enc m.a) (enc m.b) z0 z1 (enc o'.a) (enc o'.b)) (fun d => false) (by kernel_rfl) (by kernel_rfl) (fun _ _ _ _ h hb => h.keep hb) ?_ ?_
      · refine opsrun_cons ?_ (opsrun_cons ?_ (opsrun_cons ?_ (opsrun_cons ?_ (opsrun_cons ?_ (opsrun_cons ?_ (opsrun_cons ?_ (opsrun_cons ?_ opsrun_nil)))))))
        all_goals
          refine OpRuns.any ?_
          intro Q0 σ W' K hb hn hK
          simp only [fill, List.map, Act.put, List.setIfInBounds_toArray, List.set_cons_zero, List.set_cons_succ] at hK ⊢
        · clear hn
          have o0c' := bkeep hb o0c
          have o1c' := bkeep hb o1c
          clear o0c o1c
          go_simp
          exact hK _ _ rfl (Below.refl _ _) (fun h => absurd h (by decide))
        · clear hn
          have x0c' := bkeep hb x0c
          have x1c' := bkeep hb x1c
          clear x0c x1c
          go_simp
          exact hK _ _ rfl (Below.refl _ _) (fun h => absurd h (by decide))
        · have h15 : σ 15 = _ := hn 15 (by decide)
          have h16 : σ 16 = _ := hn 16 (by decide)
          clear hn
          simp only [h15, h16] at hK
          go_simp
          go_at_call 78
          refine (m1 _).mono ?_
          rintro e w1 ⟨rfl, hb1⟩
          exact hK _ _ rfl hb1 (fun h => absurd h (by decide))
        · clear hn
          go_simp
          exact hK _ _ rfl (Below.refl _ _) (fun h => absurd h (by decide))
        · clear hn
          go_simp
          exact hK _ _ rfl (Below.refl _ _) (fun h => absurd h (by decide))
        · have h18 : σ 18 = _ := hn 18 (by decide)
          have h19 : σ 19 = _ := hn 19 (by decide)
          clear hn
          simp only [h18, h19] at hK
          go_simp
          exact hK _ _ rfl (Below.refl _ _) (fun h => absurd h (by decide))
        · have h20 : σ 20 = _ := hn 20 (by decide)
          clear hn
          simp only [h20] at hK
          have g0' := bkeep hb g0
          have g1' := bkeep hb g1
          clear g0 g1
          go_simp
          exact hK _ _ rfl (Below.refl _ _) (fun h => absurd h (by decide))
        · have h17 : σ 17 = _ := hn 17 (by decide)
          have h21 : σ 21 = _ := hn 21 (by decide)
          clear hn
          simp only [h17, h21] at hK
          go_simp
          go_at_call 99
          refine (a1 _).mono ?_
          rintro e w1 ⟨rfl, hb1⟩
          exact hK _ _ rfl hb1 (fun h => absurd h (by decide))
      · intro σ W' hb hR' hF
        have h22 : σ 22 = _ := hR' 22 (by decide)
        replace HB := Lib.hid (bthen HB.out hb)
        have hX := HXX.out.keep hb
        have hO := HOO.out.keep hb
        have hZ0 := HZ0.out.keep hb
        have HO := Lib.hid hO; have HX := Lib.hid hX; have HZZ := Lib.hid hZ0
        obtain ⟨c0, c1, f0, f1⟩ := hO
        clear hR' hF hX hZ0 x0c x1c o0c o1c g0 g1 hb m1 a1
        simp only [fill, List.map, Act.put, List.setIfInBounds_toArray, List.set_cons_zero, List.set_cons_succ, List.length_cons, List.length_nil, List.drop_succ_cons, List.drop_zero, Nat.reduceAdd, h22]
        clear h22
        go_wp2_with fail
        go_roundw
        case rel => exact ⟨k, by omega, by rfl, (HB.out.setCell (by show w.heap.size ≤ w.heap.size + 1 + 1; omega) _).setCell (by show w.heap.size ≤ w.heap.size + 1 + 1; omega) _, (HX.out.far (by omega) _ _).far (by omega) _ _, (HZZ.out.far (by omega) _ _).far (by omega) _ _, by rw [HO'.out]; exact HO.out.set _ _⟩
        case measure => simp [intOf]

theorem pat (v : Value) (l : List F2) (x0 x1 : Int) (x y : F2) (w : World) (h : Poly w v l) (hx : Rep x0 x1 x) (hl : l.length ≤ 4294967296) (hy : qe l.length (cq l) x = y) :
    Calls Tryz.prog 64 #[v, .agg #[.int .u64 x0, .int .u64 x1]] w fun e w' => e = .returned (.agg #[.int .u64 (enc y.a), .int .u64 (enc y.b)]) ∧ Below w.heap.size w w' := by
  obtain ⟨a, cap, rfl⟩ := h.slice
  exact pat_any a l.length cap l x0 x1 x y w h.at hx hl hy
theorem pat_is (v : Value) (l : List F2) (x0 x1 : Int) (x : F2) (w : World) (h : Poly w v l) (hx : Rep x0 x1 x) (hl : l.length ≤ 4294967296) : Calls Tryz.prog 64 #[v, .agg #[.int .u64 x0, .int .u64 x1]] w (RetQ (atP l x) w) := pat v l x0 x1 x _ w h hx hl rfl
end Go.Proofs.YthfkfgjhgicfeaaGreatDoor
namespace Go.Proofs.YthfkfgjhgicfeaaGreatDoor
open Go.RowKit
set_option linter.unusedVariables false


theorem scaP_upto' (l : List F2) (x : F2) : Upto l.length (fun i => cq l i * x) := fun i hi => by dsimp only; rw [cq_upto l i hi, F2.zero_mul]
/-- Trim of a row that the call made. -/
theorem ptrim_arr {n : Nat} {f : Nat → F2} (h : Upto n f) (hn : n ≤ 4294967296) (W : World) (g c : Nat) (hc : n ≤ c) (hm : c ≤ maxLen) (hA : Arr W g (n * 2) (pc fun j => encP (f j))) : Calls Tryz.prog 114 #[.slice (some ⟨g, 0, none⟩) n c] W (RetA (pl n f) W) := by
  have := ptrim_new _ (mk n f) W (hA.isP hc hm).poly (by rw [mk_len]; exact hn)
  have e : trimP (mk n f) = pl n f := pl_mk h
  rwa [e] at this
set_option maxHeartbeats 4000000 in
theorem pscale_new (v : Value) (l : List F2) (x0 x1 : Int) (x : F2) (w : World) (h : Poly w v l) (hx : Rep x0 x1 x) (hl : l.length ≤ 4294967296) :
    Calls Tryz.prog 81 #[v, .agg #[.int .u64 x0, .int .u64 x1]] w (RetA (scaP l x) w) := by
  have HTR : Hid (∀ (W : World) (g : Nat), Arr W g (l.length * 2) (pc fun j => encP (cq l j * x)) → Calls Tryz.prog 114 #[.slice (some ⟨g, 0, none⟩) l.length l.length] W (RetA (scaP l x) W)) := Lib.hid (fun W g hA => ptrim_arr (scaP_upto' l x) hl W g _ (Nat.le_refl _) (by unfold maxLen; omega) hA)
  obtain ⟨a, cap, rfl⟩ := h.slice
  obtain ⟨_, hm, hc⟩ := h.at
  unfold maxLen at hm
  have hmk := fun W => run_make_pairs (P := Tryz.prog) 24 31 (.agg #[.int .u64 0, .int .u64 0]) Tryz.underlying24 infoQ5 rfl l.length hl W
  have HC := Lib.hid hc
  clear hc h
  generalize scaP l x = res at *
  generalize hL : l.length = len at *
  have hL1 : (len : Int) ≤ 4294967296 := by omega
  clear hL
  go_enter Tryz.func81, Tryz.ntmps81
  go_upto_region 3 with fail
  go_loopw [13] (ScaleUp w len (fun i => cq l i * x) x0 x1) (fun i _ => len - (intOf i).toNat)
  case atStart =>
    refine ⟨0, Nat.zero_le _, rfl, ((Below.refl _ _).alloc (Nat.le_refl _) _).alloc (by simp) _, (Var.new w x0 x1 _).alloc _, ?_⟩
    have := (Arr.newq (w.alloc (.cells #[.int .u64 x0, .int .u64 x1] 31)) len 31).same (pc_same (y := prt (fun i => cq l i * x) 0) (fun i _ => by unfold prt; rw [if_neg (by omega)]))
    simpa using this
  case round =>
    obtain ⟨k, hk, rfl, hB, hX, hA⟩ := hrel
    by_cases hlt : k < len
    · obtain ⟨b, off, z0, z1, rfl, g0, g1, hR⟩ := HC.out k hlt
      replace g0 := bkeep hB g0
      replace g1 := bkeep hB g1
      obtain ⟨m, hmm⟩ : ∃ m, cq l k * x = m := ⟨_, rfl⟩
      have m1 := pmul_q z0 z1 x0 x1 (cq l k) x m hR hx hmm
      have HST := Lib.hid (prt_step (f := fun i => cq l i * x) (m := k) hmm)
      have hk1 : (k : Int) < (len : Int) := by omega
      have hk0 : (0 : Int) ≤ (k : Int) := by omega
      clear hR hmm hmk
      go_upto_region 5 with fail
      refine wp_gen (fun W => Below w.heap.size w W ∧ Var W w.heap.size x0 x1 ∧ Arr W (w.heap.size + 1) (len * 2) (pc (prt (fun i => cq l i * x) k)) ∧ Var W wr.heap.size z0 z1) ⟨hB.alloc hB.size _, hX.alloc _, hA.alloc _, Var.new _ _ _ _⟩ ?_
      clear hB hX hA g0 g1
      rintro W1 ⟨hB, hX, hA, ⟨y0c, y1c, _, _⟩⟩
      have HXX := Lib.hid hX; have HB := Lib.hid hB; have HA := Lib.hid hA
      obtain ⟨x0c, x1c, _, _⟩ := hX
      clear hB hA
      go_upto_region 6 with ((go_at_call 78; ((with_reducible refine (m1 _).mono ?_); rintro e w2 ⟨rfl, hb⟩; replace HB := Lib.hid (bthen HB.out hb); have HX := Lib.hid (HXX.out.keep hb); have hA := HA.out.keep hb; obtain ⟨c0, c1, f0, f1⟩ := hA.cells k hlt; clear hb x0c x1c y0c y1c m1)))
      have HA2 := Lib.hid ((hA.setq k (enc m.a) (enc m.b) hlt).same (pc_same fun j _ => HST.out j))
      clear hA c0 c1 f0 f1
      go_wp2_with fail
      go_roundw
      case rel => exact ⟨k + 1, by omega, by go_num, (HB.out.setCell (by show w.heap.size ≤ w.heap.size + 1; omega) _).setCell (by show w.heap.size ≤ w.heap.size + 1; omega) _, (HX.out.far (by omega) _ _).far (by omega) _ _, HA2.out⟩
      case measure => simp [intOf]; omega
    · have hkn : k = len := by omega
      subst hkn
      have T := HTR.out wr _ (hA.same (pc_same (prt_all _ _)))
      have HB := Lib.hid hB
      clear hA hB hX hmk
      go_wp2_with ((go_at_call 114; ((with_reducible refine T.mono ?_); rintro e w1 ⟨g, rfl, hg, hb, hA⟩; have HB2 := Lib.hid (bthen HB.out hb); have HA := Lib.hid hA; have HG := Lib.hid (Nat.le_trans HB.out.size hg); clear hb hA hg T)))
      go_ret
      exact ⟨_, rfl, HG.out, HB2.out, HA.out⟩
end Go.Proofs.YthfkfgjhgicfeaaGreatDoor
namespace Go.Proofs.YthfkfgjhgicfeaaGreatDoor
open Go.RowKit
set_option linter.unusedVariables false

def PgAddR (g n k : Nat) (o0 o1 z0 z1 m0 m1 : Int) (sl : Nat) (v : Value) (W : World) : Prop :=
  match sl with
  | 24 => v = .slice (some ⟨g, 0, none⟩) n n
  | 25 => v = .int .i64 k
  | 26 => v = .slice (some ⟨g, 0, none⟩) n n
  | 27 => v = .int .i64 k
  | 28 => v = .pointer (some ⟨g, k * 2, none⟩)
  | 29 => v = .agg #[.int .u64 o0, .int .u64 o1]
  | 30 => v = .agg #[.int .u64 z0, .int .u64 z1]
  | 31 => v = .agg #[.int .u64 m0, .int .u64 m1]
  | _ => v = .pointer (some ⟨g, k * 2, none⟩)
theorem PgAddR.keep {g n k : Nat} {o0 o1 z0 z1 m0 m1 : Int} {sl : Nat} {v : Value} {W W' : World} (h : PgAddR g n k o0 o1 z0 z1 m0 m1 sl v W) (hb : Below W.heap.size W W') : PgAddR g n k o0 o1 z0 z1 m0 m1 sl v W' := h

/-- A row of raw pairs, its first m made sums. -/
def prx (x : Nat → Int × Int) (f : Nat → F2) (m j : Nat) : Int × Int := if j < m then encP (f j) else x j
theorem prx_step {x : Nat → Int × Int} {f : Nat → F2} {m : Nat} {y : F2} (hy : f m = y) : ∀ j, (if j = m then (enc y.a, enc y.b) else prx x f m j) = prx x f (m + 1) j := by
  intro j
  unfold prx
  by_cases h : j = m
  · subst h; rw [if_pos rfl, if_pos (by omega), hy]; rfl
  · rw [if_neg h]
    by_cases h2 : j < m
    · rw [if_pos h2, if_pos (by omega)]
    · rw [if_neg h2, if_neg (by omega)]
theorem prx_zero (x : Nat → Int × Int) (f : Nat → F2) (j : Nat) : prx x f 0 j = x j := if_neg (Nat.not_lt_zero _)
/-- A row of raw pairs that a call made, as a polynomial. -/
theorem Arr.poly {W : World} {g n c : Nat} {x : Nat → Int × Int} {f : Nat → F2} (h : Arr W g (n * 2) (pc x)) (hx : ∀ j, j < n → Rep (x j).1 (x j).2 (f j)) (h1 : n ≤ c) (h2 : c ≤ maxLen) : Poly W (.slice (some ⟨g, 0, none⟩) n c) (mk n f) := by
  refine ⟨(List.range n).map x, Or.inr (Or.inr ⟨g, 0, c, by simp, by simpa using h1, h2, fun i hi => ?_⟩), fun z hz => ?_, ?_⟩
  · have hi' : i < n := by simpa using hi
    have e : ((List.range n).map x).getD i (0, 0) = x i := by simp [List.getD, hi']
    rw [e, Nat.zero_add]
    exact ⟨(h.cells i hi').1, (h.cells i hi').2.1⟩
  · obtain ⟨j, hj, rfl⟩ := List.mem_map.1 hz
    have := hx j (List.mem_range.1 hj)
    exact ⟨this.1, this.2.1⟩
  · unfold mk
    rw [List.map_map]
    refine List.map_congr_left fun j hj => ?_
    have := hx j (List.mem_range.1 hj)
    exact F2.eq this.2.2.1 this.2.2.2
theorem ptrim_raw {n : Nat} {f : Nat → F2} (h : Upto n f) (hn : n ≤ 4294967296) (W : World) (g : Nat) {x : Nat → Int × Int} (hA : Arr W g (n * 2) (pc x)) (hx : ∀ j, j < n → Rep (x j).1 (x j).2 (f j)) : Calls Tryz.prog 114 #[.slice (some ⟨g, 0, none⟩) n n] W (RetA (pl n f) W) := by
  have := ptrim_new _ (mk n f) W (hA.poly hx (Nat.le_refl _) (by unfold maxLen; omega)) (by rw [mk_len]; exact hn)
  have e : trimP (mk n f) = pl n f := pl_mk h
  rwa [e] at this
theorem cop_flat (zs : List (Int × Int)) (j : Nat) : cop (pc fun _ => (0, 0)) 0 (flat zs) j = pc (fun i => zs.getD i (0, 0)) j := by
  unfold cop
  rw [flat_length, Nat.sub_zero]
  by_cases h : j < zs.length * 2
  · rw [if_pos (by omega)]
    have hi : j / 2 < zs.length := by omega
    obtain ⟨e0, e1⟩ := flat_at zs (j / 2) hi
    unfold pc
    by_cases c : j % 2 = 0
    · rw [if_pos c]
      rw [show j / 2 * 2 = j by omega] at e0
      rw [List.getD, e0]; rfl
    · rw [if_neg c]
      rw [show j / 2 * 2 + 1 = j by omega] at e1
      rw [List.getD, e1]; rfl
  · rw [if_neg (by omega)]
    have : zs.getD (j / 2) (0, 0) = (0, 0) := by rw [List.getD, List.getElem?_eq_none (by omega)]; rfl
    unfold pc
    simp only [this]
theorem rep_getD {zs : List (Int × Int)} (hu : ∀ n ∈ zs, U n.1 ∧ U n.2) (j : Nat) : Rep (zs.getD j (0, 0)).1 (zs.getD j (0, 0)).2 (cq (zs.map toQ) j) := by
  by_cases h : j < zs.length
  · have hu := UU_getD hu j h
    have : cq (zs.map toQ) j = toQ (zs.getD j (0, 0)) := by unfold cq; simp [List.getD, h]
    rw [this]
    exact rep_raw hu.1 hu.2
  · have e1 : zs.getD j (0, 0) = (0, 0) := by rw [List.getD, List.getElem?_eq_none (by omega)]; rfl
    have e2 : cq (zs.map toQ) j = 0 := cq_upto _ _ (by simp; omega)
    rw [e1, e2]; exact rep_zero
def PgAddUp (w : World) (n lb : Nat) (x : Nat → Int × Int) (f : Nat → F2) (i : Value) (W : World) : Prop :=
  ∃ m : Nat, m ≤ lb ∧ i = .int .i64 m ∧ Below w.heap.size w W ∧ Arr W w.heap.size (n * 2) (pc (prx x f m))
theorem qrow_src {W : World} {a : Option Addr} {len : Nat} {zs : List (Int × Int)} (h : QRowA W a len zs) (h0 : 0 < len) : ∃ ad, a = some ad ∧ ∀ j v, (flat zs)[j]? = some v → W.cell? (ad.add j) = some v := by
  obtain ⟨hl, hm, hc⟩ := h
  obtain ⟨b, off, rfl, _⟩ := hc 0 h0
  refine ⟨_, rfl, fun j v hv => ?_⟩
  have hj : j < zs.length * 2 := by
    have := (List.getElem?_eq_some_iff.1 hv).1
    rwa [flat_length] at this
  have hi : j / 2 < zs.length := by omega
  obtain ⟨e0, e1⟩ := flat_at zs (j / 2) hi
  obtain ⟨b', off', he, c0, c1⟩ := hc (j / 2) (by omega)
  cases he
  rw [Addr.add_lit]
  by_cases c : j % 2 = 0
  · rw [show j / 2 * 2 = j by omega] at e0 c0
    rw [hv] at e0
    rw [c0]; exact e0.symm
  · rw [show j / 2 * 2 + 1 = j by omega] at e1
    rw [show off + j / 2 * 2 + 1 = off + j by omega] at c1
    rw [hv] at e1
    rw [c1]; exact e1.symm
set_option maxHeartbeats 8000000 in
theorem padd_core (a b : Option Addr) (la lb ca cb n : Nat) (zs : List (Int × Int)) (l m : List F2) (w : World) (h1 : QRow w (.slice a la ca) zs) (hzu : ∀ n ∈ zs, U n.1 ∧ U n.2) (hzl : zs.map toQ = l) (h2 : Poly w (.slice b lb cb) m) (hla : la ≤ 4294967296) (hlb : lb ≤ 4294967296) (hn : (la < lb ∧ lb = n) ∨ (lb ≤ la ∧ la = n)) :
    Calls Tryz.prog 80 #[.slice a la ca, .slice b lb cb] w (RetA (addP l m) w) := by
  obtain ⟨e2, hm2, hc2⟩ := h2.at
  have h1a := h1.at
  have hlen : zs.length = la := h1a.1
  have ell : l.length = la := by rw [← hzl, List.length_map]; exact hlen
  have HTR : Hid (∀ (W : World) (g : Nat) (x : Nat → Int × Int), Arr W g (n * 2) (pc x) → (∀ j, j < n → Rep (x j).1 (x j).2 (cq l j + cq m j)) → Calls Tryz.prog 114 #[.slice (some ⟨g, 0, none⟩) n n] W (RetA (addP l m) W)) := Lib.hid (fun W g x hA hx => by
    have := ptrim_raw (addP_upto l m (n := n) (by omega) (by omega)) (by omega) W g hA hx
    rwa [addP_is l m (by omega) (by omega)] at this)
  have HRX : Hid (∀ j, Rep (zs.getD j (0, 0)).1 (zs.getD j (0, 0)).2 (cq l j)) := Lib.hid (fun j => by rw [← hzl]; exact rep_getD hzu j)
  have HMU := Lib.hid (e2 ▸ cq_upto m : Upto lb (cq m))
  have HLEN := Lib.hid hlen
  have HRA := Lib.hid h1a
  have HD := Lib.hid hc2
  unfold maxLen at hm2
  generalize addP l m = res at *
  generalize cq l = f at *
  generalize cq m = h at *
  clear hc2 h1 h1a h2 e2 ell hzl hzu hlen
  rcases hn with ⟨hcI, rfl⟩ | ⟨hcI, rfl⟩
  · have hcJ : (la : Int) < (lb : Int) := by omega
    go_enter Tryz.func80, Tryz.ntmps80
    have hmk := fun W => run_make_pairs (P := Tryz.prog) 24 31 (.agg #[.int .u64 0, .int .u64 0]) Tryz.underlying24 infoQ5 rfl lb (by omega) W
    go_upto_region 2 with fail
    clear hmk
    have hA0 := Arr.newq w lb 31
    have hB0 := (Below.refl w.heap.size w).alloc (Nat.le_refl _) (.cells (madeCells #[.int .u64 0, .int .u64 0] (lb * 2)) 31)
    have hRB := HRA.out.keep hB0
    go_upto_region 4 with (refine wpList_copy_arr rfl (.tmp 14) (.tmp 15) 24 24 rfl 31 Tryz.underlying24 2 (by kernel_rfl) w.heap.size (lb * 2) 0 lb lb la ca a rfl rfl la (by simp only [Nat.min_def]; rw [if_pos (by omega)]) (flat zs) (by rw [flat_length, HLEN.out]) _ hA0 (fun h0 => qrow_src hRB h0) (fun h0 => by rw [← List.length_eq_zero_iff, flat_length, HLEN.out]; omega) (by rw [flat_length, HLEN.out]; omega) (by intro u hu; obtain ⟨x, _, hx⟩ := List.mem_flatMap.1 hu; simp at hx; rcases hx with rfl | rfl <;> rfl) ?_; intro w2 hb2 hA2)
    have hA3 := hA2.out.same (fun j _ => cop_flat zs j)
    have hB3 : Below w.heap.size w w2 := But.below hB0 hb2.out (Nat.le_refl _) hB0.size
    clear hA0 hB0 hRB hA2 hb2
    generalize hxx : (fun i => zs.getD i (0, 0)) = x at *
    have HRX2 : Hid (∀ j, Rep (x j).1 (x j).2 (f j)) := Lib.hid (by rw [← hxx]; exact HRX.out)
    clear hxx HRX
    go_loopw [19] (PgAddUp w lb lb x (fun j => f j + h j)) (fun i _ => lb - (intOf i).toNat)
    case atStart => exact ⟨0, Nat.zero_le _, rfl, hB3, hA3.same (pc_same fun i _ => (prx_zero _ _ i).symm)⟩
    case round =>
      clear hB3 hA3
      obtain ⟨k, hk, rfl, hB, hA⟩ := hrel
      by_cases hlt : k < lb
      · obtain ⟨b2, off2, z0, z1, rfl, g0, g1, hS⟩ := HD.out k hlt
        replace g0 := bkeep hB g0
        replace g1 := bkeep hB g1
        obtain ⟨y, hy⟩ : ∃ y, f k + h k = y := ⟨_, rfl⟩
        have m1 := padd_q (x k).1 (x k).2 z0 z1 (f k) (h k) y (HRX2.out k) hS hy
        have HST := Lib.hid (prx_step (x := x) (f := fun j => f j + h j) (m := k) hy)
        have hk1 : (k : Int) < (lb : Int) := by omega
        have hk0 : (0 : Int) ≤ (k : Int) := by omega
        have hkn : k < lb := by omega
        have hk2 : (k : Int) < ((lb : Nat) : Int) := by omega
        have hz : prx x (fun j => f j + h j) k k = x k := if_neg (Nat.lt_irrefl _)
        clear hS hy
        go_upto_region 6 with fail
        refine wp_gen (fun W => Below w.heap.size w W ∧ Arr W w.heap.size (lb * 2) (pc (prx x (fun j => f j + h j) k)) ∧ Var W wr.heap.size z0 z1) ⟨hB.alloc hB.size _, hA.alloc _, Var.new _ _ _ _⟩ ?_
        clear hB hA g0 g1
        rintro W1 ⟨hB, hA, ⟨y0c, y1c, _, _⟩⟩
        have HB := Lib.hid hB; have HA := Lib.hid hA
        obtain ⟨o0c, o1c, _, _⟩ := hA.cells k hkn
        rw [hz] at o0c o1c
        clear hB hA hz
        refine wp_loose [(24, []), (25, []), (26, []), (27, []), (28, [26, 27]), (29, [28]), (30, []), (31, [29, 30]), (32, [24, 25])]
          (PgAddR w.heap.size lb k (x k).1 (x k).2 z0 z1 (enc y.a) (enc y.b)) (fun d => false) (by kernel_rfl) (by kernel_rfl) (fun _ _ _ _ h hb => h.keep hb) ?_ ?_
        · refine opsrun_cons ?_ (opsrun_cons ?_ (opsrun_cons ?_ (opsrun_cons ?_ (opsrun_cons ?_ (opsrun_cons ?_ (opsrun_cons ?_ (opsrun_cons ?_ (opsrun_cons ?_ opsrun_nil))))))))
          all_goals
            refine OpRuns.any ?_
            intro Q0 σ W' K hb hn hK
            simp only [fill, List.map, Act.put, List.setIfInBounds_toArray, List.set_cons_zero, List.set_cons_succ] at hK ⊢
          · clear hn
            go_simp
            exact hK _ _ rfl (Below.refl _ _) (fun h => absurd h (by decide))
          · clear hn
            go_simp
            exact hK _ _ rfl (Below.refl _ _) (fun h => absurd h (by decide))
          · clear hn
            go_simp
            exact hK _ _ rfl (Below.refl _ _) (fun h => absurd h (by decide))
          · clear hn
            go_simp
            exact hK _ _ rfl (Below.refl _ _) (fun h => absurd h (by decide))
          · have h26 : σ 26 = _ := hn 26 (by decide)
            have h27 : σ 27 = _ := hn 27 (by decide)
            clear hn
            simp only [h26, h27] at hK
            go_simp
            exact hK _ _ rfl (Below.refl _ _) (fun h => absurd h (by decide))
          · have h28 : σ 28 = _ := hn 28 (by decide)
            clear hn
            simp only [h28] at hK
            have o0c' := bkeep hb o0c
            have o1c' := bkeep hb o1c
            clear o0c o1c
            go_simp
            exact hK _ _ rfl (Below.refl _ _) (fun h => absurd h (by decide))
          · clear hn
            have y0c' := bkeep hb y0c
            have y1c' := bkeep hb y1c
            clear y0c y1c
            go_simp
            exact hK _ _ rfl (Below.refl _ _) (fun h => absurd h (by decide))
          · have h29 : σ 29 = _ := hn 29 (by decide)
            have h30 : σ 30 = _ := hn 30 (by decide)
            clear hn
            simp only [h29, h30] at hK
            go_simp
            go_at_call 99
            refine (m1 _).mono ?_
            rintro e w1 ⟨rfl, hb1⟩
            exact hK _ _ rfl hb1 (fun h => absurd h (by decide))
          · have h24 : σ 24 = _ := hn 24 (by decide)
            have h25 : σ 25 = _ := hn 25 (by decide)
            clear hn
            simp only [h24, h25] at hK
            go_simp
            exact hK _ _ rfl (Below.refl _ _) (fun h => absurd h (by decide))
        · intro σ W' hb hR' hF
          have h31 : σ 31 = _ := hR' 31 (by decide)
          have h32 : σ 32 = _ := hR' 32 (by decide)
          replace HB := Lib.hid (bthen HB.out hb)
          have hA := HA.out.keep hb
          obtain ⟨c0, c1, f0, f1⟩ := hA.cells k hkn
          have HA2 := Lib.hid ((hA.setq k (enc y.a) (enc y.b) hkn).same (pc_same fun j _ => HST.out j))
          clear hR' hF hA o0c o1c y0c y1c hb m1
          simp only [fill, List.map, Act.put, List.setIfInBounds_toArray, List.set_cons_zero, List.set_cons_succ, List.length_cons, List.length_nil, List.drop_succ_cons, List.drop_zero, Nat.reduceAdd, h31, h32]
          clear h31 h32
          go_wp2_with fail
          go_roundw
          case rel => exact ⟨k + 1, by omega, by go_num, (HB.out.setCell (Nat.le_refl _) _).setCell (Nat.le_refl _) _, HA2.out⟩
          case measure => simp [intOf]; omega
      · have hkn : k = lb := by omega
        subst hkn
        have T := HTR.out wr _ _ hA (fun j hj => by
          unfold prx
          by_cases hc : j < k
          · rw [if_pos hc]; exact rep_enc _
          · rw [if_neg hc, HMU.out j (by omega), F2.add_zero]; exact HRX2.out j)
        have HB := Lib.hid hB
        clear hA hB
        go_wp2_with ((go_at_call 114; ((with_reducible refine T.mono ?_); rintro e w1 ⟨g, rfl, hg, hb, hA⟩; have HB2 := Lib.hid (bthen HB.out hb); have HA := Lib.hid hA; have HG := Lib.hid (Nat.le_trans HB.out.size hg); clear hb hA hg T)))
        go_ret
        exact ⟨_, rfl, HG.out, HB2.out, HA.out⟩
  · have hcJ : (lb : Int) ≤ (la : Int) := by omega
    go_enter Tryz.func80, Tryz.ntmps80
    have hmk := fun W => run_make_pairs (P := Tryz.prog) 24 31 (.agg #[.int .u64 0, .int .u64 0]) Tryz.underlying24 infoQ5 rfl la (by omega) W
    go_upto_region 2 with fail
    clear hmk
    have hA0 := Arr.newq w la 31
    have hB0 := (Below.refl w.heap.size w).alloc (Nat.le_refl _) (.cells (madeCells #[.int .u64 0, .int .u64 0] (la * 2)) 31)
    have hRB := HRA.out.keep hB0
    go_upto_region 4 with (refine wpList_copy_arr rfl (.tmp 14) (.tmp 15) 24 24 rfl 31 Tryz.underlying24 2 (by kernel_rfl) w.heap.size (la * 2) 0 la la la ca a rfl rfl la (by simp only [Nat.min_def]; rw [if_pos (by omega)]) (flat zs) (by rw [flat_length, HLEN.out]) _ hA0 (fun h0 => qrow_src hRB h0) (fun h0 => by rw [← List.length_eq_zero_iff, flat_length, HLEN.out]; omega) (by rw [flat_length, HLEN.out]; omega) (by intro u hu; obtain ⟨x, _, hx⟩ := List.mem_flatMap.1 hu; simp at hx; rcases hx with rfl | rfl <;> rfl) ?_; intro w2 hb2 hA2)
    have hA3 := hA2.out.same (fun j _ => cop_flat zs j)
    have hB3 : Below w.heap.size w w2 := But.below hB0 hb2.out (Nat.le_refl _) hB0.size
    clear hA0 hB0 hRB hA2 hb2
    generalize hxx : (fun i => zs.getD i (0, 0)) = x at *
    have HRX2 : Hid (∀ j, Rep (x j).1 (x j).2 (f j)) := Lib.hid (by rw [← hxx]; exact HRX.out)
    clear hxx HRX
    go_loopw [19] (PgAddUp w la lb x (fun j => f j + h j)) (fun i _ => lb - (intOf i).toNat)
    case atStart => exact ⟨0, Nat.zero_le _, rfl, hB3, hA3.same (pc_same fun i _ => (prx_zero _ _ i).symm)⟩
    case round =>
      clear hB3 hA3
      obtain ⟨k, hk, rfl, hB, hA⟩ := hrel
      by_cases hlt : k < lb
      · obtain ⟨b2, off2, z0, z1, rfl, g0, g1, hS⟩ := HD.out k hlt
        replace g0 := bkeep hB g0
        replace g1 := bkeep hB g1
        obtain ⟨y, hy⟩ : ∃ y, f k + h k = y := ⟨_, rfl⟩
        have m1 := padd_q (x k).1 (x k).2 z0 z1 (f k) (h k) y (HRX2.out k) hS hy
        have HST := Lib.hid (prx_step (x := x) (f := fun j => f j + h j) (m := k) hy)
        have hk1 : (k : Int) < (lb : Int) := by omega
        have hk0 : (0 : Int) ≤ (k : Int) := by omega
        have hkn : k < la := by omega
        have hk2 : (k : Int) < ((la : Nat) : Int) := by omega
        have hz : prx x (fun j => f j + h j) k k = x k := if_neg (Nat.lt_irrefl _)
        clear hS hy
        go_upto_region 6 with fail
        refine wp_gen (fun W => Below w.heap.size w W ∧ Arr W w.heap.size (la * 2) (pc (prx x (fun j => f j + h j) k)) ∧ Var W wr.heap.size z0 z1) ⟨hB.alloc hB.size _, hA.alloc _, Var.new _ _ _ _⟩ ?_
        clear hB hA g0 g1
        rintro W1 ⟨hB, hA, ⟨y0c, y1c, _, _⟩⟩
        have HB := Lib.hid hB; have HA := Lib.hid hA
        obtain ⟨o0c, o1c, _, _⟩ := hA.cells k hkn
        rw [hz] at o0c o1c
        clear hB hA hz
        refine wp_loose [(24, []), (25, []), (26, []), (27, []), (28, [26, 27]), (29, [28]), (30, []), (31, [29, 30]), (32, [24, 25])]
          (PgAddR w.heap.size la k (x k).1 (x k).2 z0 z1 (enc y.a) (enc y.b)) (fun d => false) (by kernel_rfl) (by kernel_rfl) (fun _ _ _ _ h hb => h.keep hb) ?_ ?_
        · refine opsrun_cons ?_ (opsrun_cons ?_ (opsrun_cons ?_ (opsrun_cons ?_ (opsrun_cons ?_ (opsrun_cons ?_ (opsrun_cons ?_ (opsrun_cons ?_ (opsrun_cons ?_ opsrun_nil))))))))
          all_goals
            refine OpRuns.any ?_
            intro Q0 σ W' K hb hn hK
            simp only [fill, List.map, Act.put, List.setIfInBounds_toArray, List.set_cons_zero, List.set_cons_succ] at hK ⊢
          · clear hn
            go_simp
            exact hK _ _ rfl (Below.refl _ _) (fun h => absurd h (by decide))
          · clear hn
            go_simp
            exact hK _ _ rfl (Below.refl _ _) (fun h => absurd h (by decide))
          · clear hn
            go_simp
            exact hK _ _ rfl (Below.refl _ _) (fun h => absurd h (by decide))
          · clear hn
            go_simp
            exact hK _ _ rfl (Below.refl _ _) (fun h => absurd h (by decide))
          · have h26 : σ 26 = _ := hn 26 (by decide)
            have h27 : σ 27 = _ := hn 27 (by decide)
            clear hn
            simp only [h26, h27] at hK
            go_simp
            exact hK _ _ rfl (Below.refl _ _) (fun h => absurd h (by decide))
          · have h28 : σ 28 = _ := hn 28 (by decide)
            clear hn
            simp only [h28] at hK
            have o0c' := bkeep hb o0c
            have o1c' := bkeep hb o1c
            clear o0c o1c
            go_simp
            exact hK _ _ rfl (Below.refl _ _) (fun h => absurd h (by decide))
          · clear hn
            have y0c' := bkeep hb y0c
            have y1c' := bkeep hb y1c
            clear y0c y1c
            go_simp
            exact hK _ _ rfl (Below.refl _ _) (fun h => absurd h (by decide))
          · have h29 : σ 29 = _ := hn 29 (by decide)
            have h30 : σ 30 = _ := hn 30 (by decide)
            clear hn
            simp only [h29, h30] at hK
            go_simp
            go_at_call 99
            refine (m1 _).mono ?_
            rintro e w1 ⟨rfl, hb1⟩
            exact hK _ _ rfl hb1 (fun h => absurd h (by decide))
          · have h24 : σ 24 = _ := hn 24 (by decide)
            have h25 : σ 25 = _ := hn 25 (by decide)
            clear hn
            simp only [h24, h25] at hK
            go_simp
            exact hK _ _ rfl (Below.refl _ _) (fun h => absurd h (by decide))
        · intro σ W' hb hR' hF
          have h31 : σ 31 = _ := hR' 31 (by decide)
          have h32 : σ 32 = _ := hR' 32 (by decide)
          replace HB := Lib.hid (bthen HB.out hb)
          have hA := HA.out.keep hb
          obtain ⟨c0, c1, f0, f1⟩ := hA.cells k hkn
          have HA2 := Lib.hid ((hA.setq k (enc y.a) (enc y.b) hkn).same (pc_same fun j _ => HST.out j))
          clear hR' hF hA o0c o1c y0c y1c hb m1
          simp only [fill, List.map, Act.put, List.setIfInBounds_toArray, List.set_cons_zero, List.set_cons_succ, List.length_cons, List.length_nil, List.drop_succ_cons, List.drop_zero, Nat.reduceAdd, h31, h32]
          clear h31 h32
          go_wp2_with fail
          go_roundw
          case rel => exact ⟨k + 1, by omega, by go_num, (HB.out.setCell (Nat.le_refl _) _).setCell (Nat.le_refl _) _, HA2.out⟩
          case measure => simp [intOf]; omega
      · have hkn : k = lb := by omega
        subst hkn
        have T := HTR.out wr _ _ hA (fun j hj => by
          unfold prx
          by_cases hc : j < k
          · rw [if_pos hc]; exact rep_enc _
          · rw [if_neg hc, HMU.out j (by omega), F2.add_zero]; exact HRX2.out j)
        have HB := Lib.hid hB
        clear hA hB
        go_wp2_with ((go_at_call 114; ((with_reducible refine T.mono ?_); rintro e w1 ⟨g, rfl, hg, hb, hA⟩; have HB2 := Lib.hid (bthen HB.out hb); have HA := Lib.hid hA; have HG := Lib.hid (Nat.le_trans HB.out.size hg); clear hb hA hg T)))
        go_ret
        exact ⟨_, rfl, HG.out, HB2.out, HA.out⟩
theorem padd_new (v u : Value) (l m : List F2) (w : World) (h1 : Poly w v l) (h2 : Poly w u m) (hl : l.length ≤ 4294967296) (hm : m.length ≤ 4294967296) : Calls Tryz.prog 80 #[v, u] w (RetA (addP l m) w) := by
  obtain ⟨a, ca, rfl⟩ := h1.slice
  obtain ⟨b, cb, rfl⟩ := h2.slice
  obtain ⟨zs, hq, hu, he⟩ := h1
  rcases Nat.lt_or_ge l.length m.length with h | h
  · exact padd_core a b _ _ ca cb _ zs l m w hq hu he h2 hl hm (Or.inl ⟨h, rfl⟩)
  · exact padd_core a b _ _ ca cb _ zs l m w hq hu he h2 hl hm (Or.inr ⟨h, rfl⟩)
end Go.Proofs.YthfkfgjhgicfeaaGreatDoor
namespace Go.Proofs.YthfkfgjhgicfeaaGreatDoor
open Go.RowKit
set_option linter.unusedVariables false

def PgMulR (g n i j p : Nat) (o0 o1 x0 x1 y0 y1 m0 m1 n0 n1 : Int) (sl : Nat) (v : Value) (W : World) : Prop :=
  match sl with
  | 43 => v = .slice (some ⟨g, 0, none⟩) n n
  | 44 => v = .int .i64 i
  | 45 => v = .int .i64 j
  | 46 => v = .int .i64 p
  | 47 => v = .slice (some ⟨g, 0, none⟩) n n
  | 48 => v = .int .i64 i
  | 49 => v = .int .i64 j
  | 50 => v = .int .i64 p
  | 51 => v = .pointer (some ⟨g, p * 2, none⟩)
  | 52 => v = .agg #[.int .u64 o0, .int .u64 o1]
  | 53 => v = .agg #[.int .u64 x0, .int .u64 x1]
  | 54 => v = .agg #[.int .u64 y0, .int .u64 y1]
  | 55 => v = .agg #[.int .u64 m0, .int .u64 m1]
  | 56 => v = .agg #[.int .u64 n0, .int .u64 n1]
  | _ => v = .pointer (some ⟨g, p * 2, none⟩)
theorem PgMulR.keep {g n i j p : Nat} {o0 o1 x0 x1 y0 y1 m0 m1 n0 n1 : Int} {sl : Nat} {v : Value} {W W' : World} (h : PgMulR g n i j p o0 o1 x0 x1 y0 y1 m0 m1 n0 n1 sl v W) (hb : Below W.heap.size W W') : PgMulR g n i j p o0 o1 x0 x1 y0 y1 m0 m1 n0 n1 sl v W' := h

theorem trimP_len (l : List F2) : (trimP l).length ≤ l.length := by unfold trimP; rw [pl_len]; exact tn_le _ _
theorem trimP_tn (l : List F2) : tn (cq (trimP l)) (trimP l).length = (trimP l).length := by unfold trimP; rw [tn_pl (cq_upto l), pl_len]
theorem trimP_cq (l : List F2) (i : Nat) : cq (trimP l) i = cq l i := cq_pl (cq_upto l) i
theorem mulP_trim (l m : List F2) : mulP (trimP l) (trimP m) = mulP l m := pl_same (mulP_upto _ _) (mulP_upto _ _) fun i => cv_congr (trimP_cq l) (trimP_cq m) i
theorem pl_full {n : Nat} {c : Nat → F2} (h : tn c n = n) : pl n c = mk n c := by unfold pl mk; rw [h]
/-- Of two that are trimmed: all coefficients of the product stand. -/
theorem mulP_full {l m : List F2} (hl : tn (cq l) l.length = l.length) (hm : tn (cq m) m.length = m.length) (h0 : 0 < l.length) (h1 : 0 < m.length) : mulP l m = mk (l.length + m.length - 1) (cv (cq l) (cq m)) := by
  unfold mulP
  refine pl_full ?_
  rw [tn_cv (cq_upto l) (cq_upto m), hl, hm, if_neg (by omega)]
def PgMulOut (w2 : World) (n la : Nat) (a b : Nat → F2) (i : Value) (W : World) : Prop :=
  ∃ k : Nat, k ≤ la ∧ i = .int .i64 k ∧ Below w2.heap.size w2 W ∧ Arr W w2.heap.size (n * 2) (pc fun p => encP (cvp a b k p))
def PgMulIn (w2 : World) (n lb : Nat) (a b : Nat → F2) (k gx : Nat) (j : Value) (W : World) : Prop :=
  ∃ q : Nat, q ≤ lb ∧ j = .int .i64 q ∧ Below w2.heap.size w2 W ∧ Arr W w2.heap.size (n * 2) (pc fun p => encP (cvr a b k q p)) ∧ Var W gx (enc (a k).a) (enc (a k).b)
set_option maxHeartbeats 8000000 in
theorem pmul_core (a b : Option Addr) (la0 lb0 ca cb : Nat) (l m' : List F2) (w : World) (h1 : Poly w (.slice a la0 ca) l) (h2 : Poly w (.slice b lb0 cb) m') (hl : l.length ≤ 1073741824) (hm : m'.length ≤ 1073741824) :
    Calls Tryz.prog 105 #[.slice a la0 ca, .slice b lb0 cb] w (RetP (mulP l m') w) := by
  have T1 := ptrim_new _ l w h1 (by omega)
  have T2 := fun W (hb : Below w.heap.size w W) => ptrim_new _ m' W (h2.keep hb) (by omega)
  have HNIL : Hid ((trimP l).length = 0 ∨ (trimP m').length = 0 → mulP l m' = []) := Lib.hid (fun h => by rw [← mulP_trim]; exact mulP_nil _ _ h)
  have HFULL : Hid (0 < (trimP l).length → 0 < (trimP m').length → mulP l m' = mk ((trimP l).length + (trimP m').length - 1) (cv (cq (trimP l)) (cq (trimP m')))) := Lib.hid (fun h0 h1 => by rw [← mulP_trim]; exact mulP_full (trimP_tn l) (trimP_tn m') h0 h1)
  have hl2 : (trimP l).length ≤ 1073741824 := Nat.le_trans (trimP_len l) hl
  have hm2 : (trimP m').length ≤ 1073741824 := Nat.le_trans (trimP_len m') hm
  generalize mulP l m' = res at *
  clear h1 h2 hl hm
  generalize trimP l = L at *
  generalize trimP m' = M at *
  have HFU := Lib.hid (cq_upto L); have HHU := Lib.hid (cq_upto M)
  unfold RetA at T1 T2
  generalize cq L = f at *
  generalize cq M = h at *
  generalize L.length = la at *
  generalize M.length = lb at *
  have hlI : (la : Int) ≤ 1073741824 := by omega
  have hmI : (lb : Int) ≤ 1073741824 := by omega
  go_enter Tryz.func105, Tryz.ntmps105
  go_upto_region 2 with (first
    | (go_at_call 114; ((with_reducible refine T1.mono ?_); rintro e W1 ⟨g1, rfl, hg1, hb1, hA1⟩; have T2' := T2 W1 hb1; clear T1 T2))
    | (go_at_call 114; ((with_reducible refine T2'.mono ?_); rintro e W2 ⟨g2, rfl, hg2, hb2, hA2⟩; clear T2')))
  refine wp_gen (fun W => Below w.heap.size w W ∧ Arr W g1 (la * 2) (pc fun j => encP (f j)) ∧ Arr W g2 (lb * 2) (pc fun j => encP (h j))) ⟨bthen hb1 hb2, hA1.keep hb2, hA2⟩ ?_
  clear hg1 hb1 hA1 hg2 hb2 hA2
  rintro w2 ⟨hB0, hA1, hA2⟩
  have HB0 := Lib.hid hB0; have HA1 := Lib.hid hA1; have HA2 := Lib.hid hA2
  clear hB0 hA1 hA2
  by_cases c : la = 0 ∨ lb = 0
  · have HN := Lib.hid (HNIL.out c)
    by_cases c1 : la = 0
    · subst c1
      go_wp2
      go_ret
      exact ⟨_, rfl, HB0.out, by rw [HN.out]; exact IsP.nil _⟩
    · have c2 : lb = 0 := by omega
      subst c2
      have d2 : ((la : Int) == 0) = false := by simp; omega
      have d3 : decide ((la : Int) = 0) = false := by simp; omega
      go_wp2
      go_ret
      exact ⟨_, rfl, HB0.out, by rw [HN.out]; exact IsP.nil _⟩
  · have l3 : (0 : Int) < (la : Int) := by omega
    have l4 : (0 : Int) < (lb : Int) := by omega
    have c2 : ((la : Int) == 0) = false := by simp; omega
    have c3 : decide ((la : Int) = 0) = false := by simp; omega
    have c4 : ((lb : Int) == 0) = false := by simp; omega
    have c5 : decide ((lb : Int) = 0) = false := by simp; omega
    obtain ⟨n, hn⟩ : ∃ n, la + lb - 1 = n := ⟨_, rfl⟩
    have HRES := Lib.hid (HFULL.out (by omega) (by omega))
    rw [hn] at HRES
    have hsum : (la : Int) + (lb : Int) - 1 = (n : Int) := by omega
    have HN := Lib.hid hn
    have HA1' : Hid (∀ p, cvp f h la p = cv f h p) := Lib.hid (fun p => cvp_all HFU.out p)
    have HE : Hid (∀ i p, cvr f h i lb p = cvp f h (i + 1) p) := Lib.hid (fun i p => cvr_end HHU.out i p)
    have HS1 := Lib.hid (cvr_step f h); have HZ1 := Lib.hid (cvr_zero f h)
    have H00 : Hid (∀ p, cvp f h 0 p = 0) := Lib.hid (fun p => rfl)
    have hmk := fun W => run_make_pairs (P := Tryz.prog) 24 31 (.agg #[.int .u64 0, .int .u64 0]) Tryz.underlying24 infoQ5 rfl n (by omega) W
    clear hn c HNIL HFULL
    go_upto_region 6 with fail
    clear hmk hsum
    go_loopw [31] (PgMulOut w2 n la f h) (fun i _ => la - (intOf i).toNat)
    case atStart => exact ⟨0, Nat.zero_le _, rfl, (Below.refl _ _).alloc (Nat.le_refl _) _, (Arr.newq w2 _ _).same (pc_same (fun i _ => by rw [H00.out]; rfl))⟩
    case round =>
      obtain ⟨k, hk, rfl, hB, hA⟩ := hrel
      by_cases hlt : k < la
      · have hk1 : (k : Int) < (la : Int) := by omega
        have hk0 : (0 : Int) ≤ (k : Int) := by omega
        obtain ⟨g0, g0', _, _⟩ := (HA1.out.keep hB).cells k hlt
        simp only [encP] at g0 g0'
        go_upto_region 8 with fail
        have HVN := Lib.hid (Var.new wr (enc (f k).a) (enc (f k).b) 31)
        have HBN := Lib.hid (hB.alloc hB.size (.cells #[.int .u64 (enc (f k).a), .int .u64 (enc (f k).b)] 31))
        have HAN := Lib.hid ((hA.alloc (.cells #[.int .u64 (enc (f k).a), .int .u64 (enc (f k).b)] 31)).same (pc_same (y := fun p => encP (cvr f h k 0 p)) (fun p _ => by rw [HZ1.out])))
        have hgx : w2.heap.size < wr.heap.size := hA.lt (by have := HN.out; omega)
        clear hB hA g0 g0'
        go_upto_region 9 with fail
        refine wp_gen (fun W => Below w2.heap.size w2 W ∧ Arr W w2.heap.size (n * 2) (pc fun p => encP (cvr f h k 0 p)) ∧ Var W wr.heap.size (enc (f k).a) (enc (f k).b)) ⟨HBN.out, HAN.out, HVN.out⟩ ?_
        clear HVN HBN HAN
        rintro W0 ⟨hB0, hA0, hV0⟩
        generalize wr.heap.size = gx at *
        go_loopw [38] (PgMulIn w2 n lb f h k gx) (fun j _ => lb - (intOf j).toNat)
        case atStart => exact ⟨0, Nat.zero_le _, rfl, hB0, hA0, hV0⟩
        case round =>
          clear hB0 hA0 hV0
          obtain ⟨q, hq, rfl, hB, hA, hV⟩ := hrel
          by_cases hlt2 : q < lb
          · obtain ⟨g2c, g3c, _, _⟩ := (HA2.out.keep hB).cells q hlt2
            simp only [encP] at g2c g3c
            have hq1 : (q : Int) < (lb : Int) := by omega
            have hq0 : (0 : Int) ≤ (q : Int) := by omega
            obtain ⟨p, hp⟩ : ∃ p, k + q = p := ⟨_, rfl⟩
            have hpn : p < n := by have := HN.out; omega
            have hp1 : (p : Int) < (n : Int) := by omega
            have hp0 : (0 : Int) ≤ (p : Int) := by omega
            have HQ : Hid (IntKind.i64.wrap ((k : Int) + (q : Int)) = (p : Int)) := Lib.hid (by rw [IntWalk.i64_in _ (by omega)]; omega)
            obtain ⟨m, hmm⟩ : ∃ m, f k * h q = m := ⟨_, rfl⟩
            obtain ⟨o', ho'⟩ : ∃ o', cvr f h k q p + m = o' := ⟨_, rfl⟩
            have m1 := pmul_q (enc (f k).a) (enc (f k).b) (enc (h q).a) (enc (h q).b) (f k) (h q) m (rep_enc _) (rep_enc _) hmm
            have a1 := padd_q (enc (cvr f h k q p).a) (enc (cvr f h k q p).b) (enc m.a) (enc m.b) (cvr f h k q p) m o' (rep_enc _) (rep_enc m) ho'
            have HST : Hid (∀ j, (if j = p then (enc o'.a, enc o'.b) else encP (cvr f h k q j)) = encP (cvr f h k (q + 1) j)) := Lib.hid (fun j => by
              rw [HS1.out k q j]
              by_cases e : j = p
              · rw [if_pos e, if_pos (by omega), hmm, e, ho']; rfl
              · rw [if_neg e, if_neg (by omega)])
            generalize hY : h q = y at *
            have HXV := Lib.hid hV
            generalize hX : f k = x at *
            go_upto_region 11 with fail
            refine wp_gen (fun W => Below w2.heap.size w2 W ∧ Arr W w2.heap.size (n * 2) (pc fun p => encP (cvr f h k q p)) ∧ Var W gx (enc x.a) (enc x.b) ∧ Var W wr.heap.size (enc y.a) (enc y.b)) ⟨hB.alloc hB.size _, hA.alloc _, hV.alloc _, Var.new _ _ _ _⟩ ?_
            clear hB hA hV g2c g3c HXV
            rintro W1 ⟨hB, hA, hV, ⟨y0c, y1c, _, _⟩⟩
            obtain ⟨o0c, o1c, _, _⟩ := hA.cells p hpn
            have HB := Lib.hid hB; have HA := Lib.hid hA; have HV := Lib.hid hV
            obtain ⟨x0c, x1c, _, _⟩ := hV
            generalize cvr f h k q p = o at *
            simp only [encP] at o0c o1c
            clear hB hA hmm ho' hp hY
            refine wp_loose [(43, []), (44, []), (45, []), (46, [44, 45]), (47, []), (48, []), (49, []), (50, [48, 49]), (51, [47, 50]), (52, [51]), (53, []), (54, []), (55, [53, 54]), (56, [52, 55]), (57, [43, 46])]
              (PgMulR w2.heap.size n k q p (enc o.a) (enc o.b) (enc x.a) (enc x.b) (enc y.a) (enc y.b) (enc m.a) (enc m.b) (enc o'.a) (enc o'.b)) (fun d => false) (by kernel_rfl) (by kernel_rfl) (fun _ _ _ _ h hb => h.keep hb) ?_ ?_
            · refine opsrun_cons ?_ (opsrun_cons ?_ (opsrun_cons ?_ (opsrun_cons ?_ (opsrun_cons ?_ (opsrun_cons ?_ (opsrun_cons ?_ (opsrun_cons ?_ (opsrun_cons ?_ (opsrun_cons ?_ (opsrun_cons ?_ (opsrun_cons ?_ (opsrun_cons ?_ (opsrun_cons ?_ (opsrun_cons ?_ opsrun_nil))))))))))))))
              all_goals
                refine OpRuns.any ?_
                intro Q0 σ W' K hb hn hK
                simp only [fill, List.map, Act.put, List.setIfInBounds_toArray, List.set_cons_zero, List.set_cons_succ] at hK ⊢
              · clear hn
                go_simp
                exact hK _ _ rfl (Below.refl _ _) (fun h => absurd h (by decide))
              · clear hn
                go_simp
                exact hK _ _ rfl (Below.refl _ _) (fun h => absurd h (by decide))
              · clear hn
                go_simp
                exact hK _ _ rfl (Below.refl _ _) (fun h => absurd h (by decide))
              · have h44 : σ 44 = _ := hn 44 (by decide)
                have h45 : σ 45 = _ := hn 45 (by decide)
                clear hn
                simp only [h44, h45] at hK
                go_simp
                exact hK _ _ (congrArg (Value.int .i64) HQ.out) (Below.refl _ _) (fun h => absurd h (by decide))
              · clear hn
                go_simp
                exact hK _ _ rfl (Below.refl _ _) (fun h => absurd h (by decide))
              · clear hn
                go_simp
                exact hK _ _ rfl (Below.refl _ _) (fun h => absurd h (by decide))
              · clear hn
                go_simp
                exact hK _ _ rfl (Below.refl _ _) (fun h => absurd h (by decide))
              · have h48 : σ 48 = _ := hn 48 (by decide)
                have h49 : σ 49 = _ := hn 49 (by decide)
                clear hn
                simp only [h48, h49] at hK
                go_simp
                exact hK _ _ (congrArg (Value.int .i64) HQ.out) (Below.refl _ _) (fun h => absurd h (by decide))
              · have h47 : σ 47 = _ := hn 47 (by decide)
                have h50 : σ 50 = _ := hn 50 (by decide)
                clear hn
                simp only [h47, h50] at hK
                go_simp
                exact hK _ _ rfl (Below.refl _ _) (fun h => absurd h (by decide))
              · have h51 : σ 51 = _ := hn 51 (by decide)
                clear hn
                simp only [h51] at hK
                have o0c' := bkeep hb o0c
                have o1c' := bkeep hb o1c
                clear o0c o1c
                go_simp
                exact hK _ _ rfl (Below.refl _ _) (fun h => absurd h (by decide))
              · clear hn
                have x0c' := bkeep hb x0c
                have x1c' := bkeep hb x1c
                clear x0c x1c
                go_simp
                exact hK _ _ rfl (Below.refl _ _) (fun h => absurd h (by decide))
              · clear hn
                have y0c' := bkeep hb y0c
                have y1c' := bkeep hb y1c
                clear y0c y1c
                go_simp
                exact hK _ _ rfl (Below.refl _ _) (fun h => absurd h (by decide))
              · have h53 : σ 53 = _ := hn 53 (by decide)
                have h54 : σ 54 = _ := hn 54 (by decide)
                clear hn
                simp only [h53, h54] at hK
                go_simp
                go_at_call 78
                refine (m1 _).mono ?_
                rintro e w1 ⟨rfl, hb1⟩
                exact hK _ _ rfl hb1 (fun h => absurd h (by decide))
              · have h52 : σ 52 = _ := hn 52 (by decide)
                have h55 : σ 55 = _ := hn 55 (by decide)
                clear hn
                simp only [h52, h55] at hK
                go_simp
                go_at_call 99
                refine (a1 _).mono ?_
                rintro e w1 ⟨rfl, hb1⟩
                exact hK _ _ rfl hb1 (fun h => absurd h (by decide))
              · have h43 : σ 43 = _ := hn 43 (by decide)
                have h46 : σ 46 = _ := hn 46 (by decide)
                clear hn
                simp only [h43, h46] at hK
                go_simp
                exact hK _ _ rfl (Below.refl _ _) (fun h => absurd h (by decide))
            · intro σ W' hb hR' hF
              have h56 : σ 56 = _ := hR' 56 (by decide)
              have h57 : σ 57 = _ := hR' 57 (by decide)
              replace HB := Lib.hid (bthen HB.out hb)
              have hA := HA.out.keep hb
              replace HV := Lib.hid (HV.out.keep hb)
              obtain ⟨c0, c1, f0, f1⟩ := hA.cells p hpn
              have HA2' := Lib.hid ((hA.setq p (enc o'.a) (enc o'.b) hpn).same (pc_same fun j _ => HST.out j))
              clear hR' hF hA o0c o1c x0c x1c y0c y1c hb m1 a1
              simp only [fill, List.map, Act.put, List.setIfInBounds_toArray, List.set_cons_zero, List.set_cons_succ, List.length_cons, List.length_nil, List.drop_succ_cons, List.drop_zero, Nat.reduceAdd, h56, h57]
              clear h56 h57
              go_wp2_with fail
              go_roundw
              case rel => exact ⟨q + 1, by omega, by go_num, (HB.out.setCell (Nat.le_refl _) _).setCell (Nat.le_refl _) _, HA2'.out, by rw [hX]; exact (HV.out.far (by omega) _ _).far (by omega) _ _⟩
              case measure => simp [intOf]; omega
          · have hqn : q = lb := by omega
            subst hqn
            have HA := Lib.hid (hA.same (pc_same (y := fun p => encP (cvp f h (k + 1) p)) (fun p _ => by rw [HE.out])))
            have HB := Lib.hid hB
            clear hA hB hV
            go_wp2_with fail
            go_roundw
            case rel => exact ⟨k + 1, by omega, by go_num, HB.out, HA.out⟩
            case measure => simp [intOf]; omega
      · have hkn : k = la := by omega
        subst hkn
        have HP := Lib.hid ((hA.same (pc_same (y := fun p => encP (cv f h p)) (fun p _ => by rw [HA1'.out]))).isP (Nat.le_refl _) (by unfold maxLen; have := HN.out; omega))
        have HB := Lib.hid (bthen HB0.out hB)
        clear hA hB
        go_wp2_with fail
        go_ret
        exact ⟨_, rfl, HB.out, by rw [HRES.out]; exact HP.out⟩
theorem pmul_is (v u : Value) (l m : List F2) (w : World) (h1 : Poly w v l) (h2 : Poly w u m) (hl : l.length ≤ 1073741824) (hm : m.length ≤ 1073741824) : Calls Tryz.prog 105 #[v, u] w (RetP (mulP l m) w) := by
  obtain ⟨a, ca, rfl⟩ := h1.slice
  obtain ⟨b, cb, rfl⟩ := h2.slice
  exact pmul_core a b _ _ ca cb l m w h1 h2 hl hm
end Go.Proofs.YthfkfgjhgicfeaaGreatDoor
namespace Go.Proofs.YthfkfgjhgicfeaaGreatDoor
open Go.RowKit
set_option linter.unusedVariables false

end Go.Proofs.YthfkfgjhgicfeaaGreatDoor
namespace Go.Proofs.YthfkfgjhgicfeaaGreatDoor
open Go.RowKit
set_option linter.unusedVariables false

theorem pscale_is (v : Value) (l : List F2) (x0 x1 : Int) (x : F2) (w : World) (h : Poly w v l) (hx : Rep x0 x1 x) (hl : l.length ≤ 4294967296) : Calls Tryz.prog 81 #[v, .agg #[.int .u64 x0, .int .u64 x1]] w (RetP (scaP l x) w) :=
  (pscale_new v l x0 x1 x w h hx hl).mono fun _ _ hr => (hr.retF (by have := scaP_len l x; unfold maxLen; omega)).ret
theorem padd_is (v u : Value) (l m : List F2) (w : World) (h1 : Poly w v l) (h2 : Poly w u m) (hl : l.length ≤ 4294967296) (hm : m.length ≤ 4294967296) : Calls Tryz.prog 80 #[v, u] w (RetP (addP l m) w) :=
  (padd_new v u l m w h1 h2 hl hm).mono fun _ _ hr => (hr.retF (by have := addP_len l m; unfold maxLen; omega)).ret
theorem lift_one (w : World) : Calls Tryz.prog 65 #[.int .u64 1] w fun e w' => e = .returned (.agg #[.int .u64 1, .int .u64 0]) ∧ Below w.heap.size w w' := by
  have h := lift_q 1 1 (U_lit _ rfl rfl) (F2.eq (by decide +kernel) rfl) w
  rw [show enc (1 : F2).a = 1 from rfl, show enc (1 : F2).b = 0 from rfl] at h
  exact h
def PgThrR (n0 b2 off2 n cb k : Nat) (v6 : Value) (x0 x1 z0 z1 a0 a1 s0 s1 : Int) (sl : Nat) (v : Value) (W : World) : Prop :=
  match sl with
  | 36 => v = .slice (some ⟨b2, off2, none⟩) n cb
  | 37 => v = .int .i64 k
  | 38 => v = .pointer (some ⟨b2, off2 + k * 2, none⟩)
  | 39 => v = .agg #[.int .u64 z0, .int .u64 z1]
  | 40 => v = v6
  | 41 => v = .agg #[.int .u64 x0, .int .u64 x1]
  | 42 => v = .agg #[.int .u64 a0, .int .u64 a1]
  | 43 => v = .agg #[.int .u64 s0, .int .u64 s1]
  | _ => ∃ g : Nat, v = .pointer (some ⟨g, 0, none⟩) ∧ n0 ≤ g ∧ Var W g 0 0
theorem PgThrR.keep {n0 b2 off2 n cb k : Nat} {v6 : Value} {x0 x1 z0 z1 a0 a1 s0 s1 : Int} {sl : Nat} {v : Value} {W W' : World} (h : PgThrR n0 b2 off2 n cb k v6 x0 x1 z0 z1 a0 a1 s0 s1 sl v W) (hb : Below W.heap.size W W') : PgThrR n0 b2 off2 n cb k v6 x0 x1 z0 z1 a0 a1 s0 s1 sl v W' := by
  unfold PgThrR at *
  split at h
  all_goals first | exact h | (obtain ⟨g, h1, h2, h3⟩ := h; exact ⟨g, h1, h2, h3.keep hb⟩)
def PgThr (w : World) (l m : List F2) (n : Nat) (v6 v7 i : Value) (W : World) : Prop :=
  ∃ (k : Nat) (o : List F2), k ≤ n ∧ i = .int .i64 k ∧ Below w.heap.size w W ∧ IsP W v6 o ∧ Gone l m k o ∧ IsP W v7 (rootsP l k) ∧ ApartTo l k

set_option maxHeartbeats 8000000 in
theorem pthr_is (v u : Value) (l m' : List F2) (w : World) (h1 : Poly w v l) (h2 : Poly w u m') (hl : l.length ≤ 1048576) (hm' : m'.length ≤ 1048576) : Calls Tryz.prog 71 #[v, u] w (RetT l m' w) := by
  obtain ⟨a, ca, rfl⟩ := h1.slice
  obtain ⟨b, cb, rfl⟩ := h2.slice
  by_cases hlen : l.length = m'.length
  · obtain ⟨_, hm1, hc1⟩ := h1.at
    obtain ⟨_, hm2, hc2⟩ := h2.at
    have HNO : Hid (∀ i, i < l.length → atP (rootsP l i) (cq l i) = 0 → thrB l m' = false) := Lib.hid (fun i h1 h2 => thrB_met h1 h2)
    have HSTA : Hid (∀ k, ApartTo l k → k < l.length → atP (rootsP l k) (cq l k) ≠ 0 → ApartTo l (k + 1)) := Lib.hid (fun k h => h.step)
    have HSTG : Hid (∀ k o p a s z, Gone l m' k o → k < l.length → atP (rootsP l k) (cq l k) = p → atP o (cq l k) = a → p ≠ 0 → cq m' k - a = s → s * qinv p = z → Gone l m' (k + 1) (addP o (scaP (rootsP l k) z))) := Lib.hid (fun k o p a s z h1 h2 h3 h4 h5 h6 h7 => h1.step h2 h3 h4 h5 h6 h7)
    have HSTR : Hid (∀ k, k < l.length → mulP (rootsP l k) [-(cq l k), 1] = rootsP l (k + 1)) := Lib.hid (fun k hk => rootsP_step l k hk)
    have HALL : Hid (∀ o, Gone l m' l.length o → ApartTo l l.length → thrB l m' = true ∧ thrL l m' = o) := Lib.hid (fun o h1 h2 => h1.all h2 hlen)
    rw [← hlen] at hc2 hm2 ⊢
    unfold maxLen at hm1 hm2
    have HC := Lib.hid hc1; have HD := Lib.hid hc2
    clear hc1 hc2 h1 h2 hlen
    generalize hL : l.length = n at *
    have HL := Lib.hid hL
    have hL1 : (n : Int) ≤ 1048576 := by omega
    clear hL
    go_enter Tryz.func71, Tryz.ntmps71
    go_upto_region 6 with (go_at_call 65; ((with_reducible refine (lift_one _).mono ?_); rintro e W1 ⟨rfl, hb⟩; have HB0 := Lib.hid hb; clear hb))
    go_loopw [6, 7, 22] (PgThr w l m' n) (fun _ _ i _ => n - (intOf i).toNat)
    case atStart => exact ⟨0, [], Nat.zero_le _, rfl, HB0.out.alloc HB0.out.size _, IsP.nil _, Gone.start l m', by rw [rootsP_zero]; exact isP_one (by simp [go_sem]; rfl) (by simp [go_sem]; rfl), ApartTo.start l⟩
    case round =>
      clear HB0
      obtain ⟨k, o, hk, rfl, hB, h6, hG, h7, hAp⟩ := hrel
      by_cases hlt : k < n
      · have hk1 : (k : Int) < (n : Int) := by omega
        have hk0 : (0 : Int) ≤ (k : Int) := by omega
        obtain ⟨b1, off1, x0, x1, rfl, g0, g1, hX⟩ := HC.out k hlt
        replace g0 := bkeep hB g0
        replace g1 := bkeep hB g1
        have HGL := Lib.hid hG.len
        have HRL := Lib.hid (rootsP_len l k)
        go_upto_region 8 with fail
        refine wp_gen (fun W => Below w.heap.size w W ∧ Var W wr.heap.size x0 x1 ∧ IsP W u6 o ∧ IsP W u7 (rootsP l k)) ⟨hB.alloc hB.size _, Var.new _ _ _ _, h6.keep ((Below.refl _ _).alloc (Nat.le_refl _) _), h7.keep ((Below.refl _ _).alloc (Nat.le_refl _) _)⟩ ?_
        clear hB h6 h7 g0 g1
        rintro W1 ⟨hB, hV, h6, h7⟩
        generalize wr.heap.size = gx at *
        have A1 := pat_is u7 (rootsP l k) x0 x1 (cq l k) W1 h7.poly hX (by have := HRL.out; omega)
        have HB := Lib.hid hB; have HV := Lib.hid hV; have H6 := Lib.hid h6; have H7 := Lib.hid h7; have HG := Lib.hid hG; have HAp := Lib.hid hAp
        have HX := Lib.hid hX
        obtain ⟨x0c, x1c, _, _⟩ := hV
        clear hB h6 h7 hG hAp hX
        unfold RetQ at A1
        by_cases hp0 : atP (rootsP l k) (cq l k) = 0
        · have HF := Lib.hid (HNO.out k hlt hp0)
          have I1 := pinv_no (enc (atP (rootsP l k) (cq l k)).a) (enc (atP (rootsP l k) (cq l k)).b) _ (rep_enc _) hp0
          generalize atP (rootsP l k) (cq l k) = p at *
          clear hp0
          go_wp2_with (first
            | (go_at_call 64; ((with_reducible refine A1.mono ?_); rintro e W2 ⟨rfl, hb⟩; replace HB := Lib.hid (bthen HB.out hb); clear hb A1 x0c x1c))
            | (go_at_call 76; ((with_reducible refine (I1 _).mono ?_); rintro e W3 ⟨rfl, hb⟩; replace HB := Lib.hid (bthen HB.out hb); clear hb I1)))
          go_ret2
          exact RetT.no HF.out rfl (HB.out.alloc HB.out.size _)
        · have HP0 := Lib.hid hp0
          have HAN := Lib.hid (HSTA.out k HAp.out hlt hp0)
          obtain ⟨p, hp⟩ : ∃ p, atP (rootsP l k) (cq l k) = p := ⟨_, rfl⟩
          obtain ⟨ao, hao⟩ : ∃ ao, atP o (cq l k) = ao := ⟨_, rfl⟩
          obtain ⟨s, hs⟩ : ∃ s, cq m' k - ao = s := ⟨_, rfl⟩
          obtain ⟨q, hq⟩ : ∃ q, qinv p = q := ⟨_, rfl⟩
          obtain ⟨z, hz⟩ : ∃ z, s * q = z := ⟨_, rfl⟩
          have HGN := Lib.hid (HSTG.out k o p ao s z HG.out hlt hp hao (by rw [← hp]; exact hp0) hs (by rw [hq]; exact hz))
          rw [hp] at A1 hp0
          have I1 := pinv_yes (enc p.a) (enc p.b) p q (rep_enc _) hp0 hq
          clear hp0 HP0
          go_upto_region 11 with (first
            | (go_at_call 64; ((with_reducible refine A1.mono ?_); rintro e W2 ⟨rfl, hb2⟩; clear A1 x0c x1c))
            | (go_at_call 76; ((with_reducible refine (I1 _).mono ?_); rintro e W3 ⟨rfl, hb3⟩; clear I1)))
          have hbb := bthen hb2 hb3
          refine wp_gen (fun W => Below w.heap.size w W ∧ Var W gx x0 x1 ∧ IsP W u6 o ∧ IsP W u7 (rootsP l k) ∧ Var W W3.heap.size (enc q.a) (enc q.b)) ⟨(bthen HB.out hbb).alloc (bthen HB.out hbb).size _, (HV.out.keep hbb).alloc _, (H6.out.keep hbb).keep ((Below.refl _ _).alloc (Nat.le_refl _) _), (H7.out.keep hbb).keep ((Below.refl _ _).alloc (Nat.le_refl _) _), Var.new _ _ _ _⟩ ?_
          clear HB HV H6 H7 hbb hb2 hb3
          rintro W0 ⟨hB, hV, h6, h7, hQ⟩
          generalize W3.heap.size = gp at *
          obtain ⟨b2, off2, z0, z1, rfl, k0, k1, hZ⟩ := HD.out k hlt
          have z0c := bkeep hB k0
          have z1c := bkeep hB k1
          have A2 := fun W (hb : Below W0.heap.size W0 W) => pat_is u6 o x0 x1 (cq l k) W (h6.keep hb).poly HX.out (by have := HGL.out; omega)
          rw [hao] at A2
          unfold RetQ at A2
          have s1 := psub_q z0 z1 (enc ao.a) (enc ao.b) (cq m' k) ao s hZ (rep_enc _) hs
          have M1 := pmul_q (enc s.a) (enc s.b) (enc q.a) (enc q.b) s q z (rep_enc _) (rep_enc _) hz
          have HB := Lib.hid hB; have HV := Lib.hid hV; have H6 := Lib.hid h6; have H7 := Lib.hid h7; have HQV := Lib.hid hQ
          obtain ⟨x0c, x1c, _, _⟩ := hV
          have SCX : Hid (∀ W, IsP W u7 (rootsP l k) → Calls Tryz.prog 81 #[u7, .agg #[.int .u64 (enc z.a), .int .u64 (enc z.b)]] W (RetP (scaP (rootsP l k) z) W)) := Lib.hid (fun W h => pscale_is u7 (rootsP l k) _ _ z W h.poly (rep_enc _) (by have := HRL.out; omega))
          have ADX : Hid (∀ W v71, IsP W u6 o → IsP W v71 (scaP (rootsP l k) z) → Calls Tryz.prog 80 #[u6, v71] W (RetP (addP o (scaP (rootsP l k) z)) W)) := Lib.hid (fun W v71 h h' => padd_is u6 v71 o _ W h.poly h'.poly (by have := HGL.out; omega) (by have := HRL.out; have := scaP_len (rootsP l k) z; omega))
          have N1 := pneg_q x0 x1 (cq l k) (-(cq l k)) HX.out rfl
          have MU : Hid (∀ W1, IsP W1 u7 (rootsP l k) → Calls Tryz.prog 105 #[u7, .slice (some ⟨W1.heap.size, 0, none⟩) 2 2] (W1.alloc (.cells #[.int .u64 (enc (-(cq l k)).a), .int .u64 (enc (-(cq l k)).b), .int .u64 1, .int .u64 0] 31)) (RetP (rootsP l (k + 1)) (W1.alloc (.cells #[.int .u64 (enc (-(cq l k)).a), .int .u64 (enc (-(cq l k)).b), .int .u64 1, .int .u64 0] 31)))) := Lib.hid (fun W1 h => by
            have := pmul_is u7 (.slice (some ⟨W1.heap.size, 0, none⟩) 2 2) (rootsP l k) [-(cq l k), 1] (W1.alloc (.cells #[.int .u64 (enc (-(cq l k)).a), .int .u64 (enc (-(cq l k)).b), .int .u64 1, .int .u64 0] 31)) (h.keep ((Below.refl _ _).alloc (Nat.le_refl _) _)).poly (isP_two (by simp [go_sem]) (by simp [go_sem]) (by simp [go_sem]; rfl) (by simp [go_sem]; rfl)).poly (by have := HRL.out; omega) (by simp)
            rw [HSTR.out k hlt] at this
            exact this)
          clear hB h6 h7 hQ hZ hs hq hz hp hao k0 k1
          generalize hnx : -(cq l k) = nx at *
          clear hnx
          refine wp_loose [(36, []), (37, []), (38, [36, 37]), (39, [38]), (40, []), (41, []), (42, [40, 41]), (43, [39, 42]), (12, [])]
            (PgThrR W0.heap.size b2 off2 n cb k u6 x0 x1 z0 z1 (enc ao.a) (enc ao.b) (enc s.a) (enc s.b)) (fun d => false) (by kernel_rfl) (by kernel_rfl) (fun _ _ _ _ h hb => h.keep hb) ?_ ?_
          · refine opsrun_cons ?_ (opsrun_cons ?_ (opsrun_cons ?_ (opsrun_cons ?_ (opsrun_cons ?_ (opsrun_cons ?_ (opsrun_cons ?_ (opsrun_cons ?_ (opsrun_cons ?_ opsrun_nil))))))))
            all_goals
              refine OpRuns.any ?_
              intro Q0 σ W' K hb hn hK
              simp only [fill, List.map, Act.put, List.setIfInBounds_toArray, List.set_cons_zero, List.set_cons_succ] at hK ⊢
            · clear hn
              go_simp
              exact hK _ _ rfl (Below.refl _ _) (fun h => absurd h (by decide))
            · clear hn
              go_simp
              exact hK _ _ rfl (Below.refl _ _) (fun h => absurd h (by decide))
            · have h36 : σ 36 = _ := hn 36 (by decide)
              have h37 : σ 37 = _ := hn 37 (by decide)
              clear hn
              simp only [h36, h37] at hK
              go_simp
              exact hK _ _ rfl (Below.refl _ _) (fun h => absurd h (by decide))
            · have h38 : σ 38 = _ := hn 38 (by decide)
              clear hn
              simp only [h38] at hK
              have z0c' := bkeep hb z0c
              have z1c' := bkeep hb z1c
              clear z0c z1c
              go_simp
              exact hK _ _ rfl (Below.refl _ _) (fun h => absurd h (by decide))
            · clear hn
              go_simp
              exact hK _ _ rfl (Below.refl _ _) (fun h => absurd h (by decide))
            · clear hn
              have x0c' := bkeep hb x0c
              have x1c' := bkeep hb x1c
              clear x0c x1c
              go_simp
              exact hK _ _ rfl (Below.refl _ _) (fun h => absurd h (by decide))
            · have h40 : σ 40 = _ := hn 40 (by decide)
              have h41 : σ 41 = _ := hn 41 (by decide)
              clear hn
              simp only [h40, h41] at hK
              go_simp
              go_at_call 64
              refine (A2 _ hb).mono ?_
              rintro e w1 ⟨rfl, hb1⟩
              exact hK _ _ rfl hb1 (fun h => absurd h (by decide))
            · have h39 : σ 39 = _ := hn 39 (by decide)
              have h42 : σ 42 = _ := hn 42 (by decide)
              clear hn
              simp only [h39, h42] at hK
              go_simp
              go_at_call 75
              refine (s1 _).mono ?_
              rintro e w1 ⟨rfl, hb1⟩
              exact hK _ _ rfl hb1 (fun h => absurd h (by decide))
            · clear hn
              go_simp
              exact hK _ _ ⟨_, rfl, hb.size, Var.new _ _ _ _⟩ ((Below.refl _ _).alloc (Nat.le_refl _) _) (fun h => absurd h (by decide))
          · intro σ W' hb hR' hF
            have h43 : σ 43 = _ := hR' 43 (by decide)
            obtain ⟨gm, h12, hgm, hVm⟩ : ∃ g : Nat, σ 12 = .pointer (some ⟨g, 0, none⟩) ∧ W0.heap.size ≤ g ∧ Var W' g 0 0 := hR' 12 (by decide)
            have hgp : gp < W0.heap.size := HQV.out.lt
            have hgx : gx < W0.heap.size := HV.out.lt
            have hW0 : w.heap.size ≤ W0.heap.size := HB.out.size
            obtain ⟨c0, c1, f0, f1⟩ := hVm
            have HVM := Lib.hid (show Var W' gm 0 0 from ⟨c0, c1, f0, f1⟩)
            have hu6 : NotAt gm u6 := H6.out.notAt hgm
            have hu7 : NotAt gm u7 := H7.out.notAt hgm
            replace HB := Lib.hid (bthen HB.out hb)
            replace HV := Lib.hid (HV.out.keep hb)
            replace H6 := Lib.hid (H6.out.keep hb)
            replace H7 := Lib.hid (H7.out.keep hb)
            replace HQV := Lib.hid (HQV.out.keep hb)
            clear hR' hF x0c x1c z0c z1c hb A2 s1
            simp only [fill, List.map, Act.put, List.setIfInBounds_toArray, List.set_cons_zero, List.set_cons_succ, List.length_cons, List.length_nil, List.drop_succ_cons, List.drop_zero, Nat.reduceAdd, h43, h12]
            clear h43 h12
            go_upto_region 12 with fail
            refine wp_gen (fun W => Below w.heap.size w W ∧ Var W gx x0 x1 ∧ IsP W u6 o ∧ IsP W u7 (rootsP l k) ∧ Var W gp (enc q.a) (enc q.b) ∧ Var W gm (enc s.a) (enc s.b)) ⟨(HB.out.setCell (by show w.heap.size ≤ gm; omega) _).setCell (by show w.heap.size ≤ gm; omega) _, (HV.out.far (by omega) _ _).far (by omega) _ _, (H6.out.off hu6 _ _).off hu6 _ _, (H7.out.off hu7 _ _).off hu7 _ _, (HQV.out.far (by omega) _ _).far (by omega) _ _, HVM.out.set _ _⟩ ?_
            clear HB HV H6 H7 HQV HVM c0 c1 f0 f1 hu6 hu7
            rintro W4 ⟨hB, hV, h6, h7, ⟨q0c, q1c, _, _⟩, ⟨m0c, m1c, _, _⟩⟩
            have HB := Lib.hid hB; have HV := Lib.hid hV; have H6 := Lib.hid h6; have H7 := Lib.hid h7
            clear hB hV h6 h7
            go_upto_region 13 with (first
              | (go_at_call 78; ((with_reducible refine (M1 _).mono ?_); rintro e W5 ⟨rfl, hb⟩; replace HB := Lib.hid (bthen HB.out hb); replace HV := Lib.hid (HV.out.keep hb); replace H6 := Lib.hid (H6.out.keep hb); replace H7 := Lib.hid (H7.out.keep hb); have T5 := SCX.out W5 H7.out; clear hb q0c q1c m0c m1c M1 SCX))
              | (go_at_call 81; ((with_reducible refine T5.mono ?_); rintro e W6 ⟨v6, rfl, hb, hp⟩; replace HB := Lib.hid (bthen HB.out hb); replace HV := Lib.hid (HV.out.keep hb); replace H6 := Lib.hid (H6.out.keep hb); replace H7 := Lib.hid (H7.out.keep hb); have T6 := ADX.out W6 v6 H6.out hp; clear hb hp T5 ADX))
              | (go_at_call 80; ((with_reducible refine T6.mono ?_); rintro e W7 ⟨v7, rfl, hb, hp⟩; replace HB := Lib.hid (bthen HB.out hb); replace HV := Lib.hid (HV.out.keep hb); replace H7 := Lib.hid (H7.out.keep hb); have HO := Lib.hid hp; clear hb hp T6 H6)))
            obtain ⟨x0c, x1c, _, _⟩ := HV.out
            go_wp2_with (first
              | (go_at_call 77; ((with_reducible refine (N1 _).mono ?_); rintro e W8 ⟨rfl, hb⟩; replace HB := Lib.hid (bthen HB.out hb); replace H7 := Lib.hid (H7.out.keep hb); replace HO := Lib.hid (HO.out.keep hb); clear hb x0c x1c N1 HV))
              | (go_at_call 65; ((with_reducible refine (lift_one _).mono ?_); rintro e W9 ⟨rfl, hb⟩; replace HB := Lib.hid (bthen HB.out hb); replace H7 := Lib.hid (H7.out.keep hb); replace HO := Lib.hid (HO.out.keep hb); have T9 := MU.out W9 H7.out; clear hb MU))
              | (go_at_call 105; ((with_reducible refine T9.mono ?_); rintro e W10 ⟨v10, rfl, hb, hp⟩; have hbb := ((Below.refl W9.heap.size W9).alloc (Nat.le_refl _) (.cells #[.int .u64 (enc nx.a), .int .u64 (enc nx.b), .int .u64 1, .int .u64 0] 31)).trans (hb.mono (by simp)); replace HB := Lib.hid (bthen HB.out hbb); replace HO := Lib.hid (HO.out.keep hbb); have HN7 := Lib.hid hp; clear hb hbb hp T9 H7)))
            go_roundw
            case rel => exact ⟨k + 1, _, by omega, by go_num, HB.out, HO.out, HGN.out, HN7.out, HAN.out⟩
            case measure => simp [intOf]; omega
      · have hin : k = n := by omega
        subst hin
        obtain ⟨e1, e2⟩ := HALL.out o hG hAp
        have HB := Lib.hid hB; have HO := Lib.hid h6; have E1 := Lib.hid e1; have E2 := Lib.hid e2
        clear hB h6 h7 hG hAp e1 e2
        go_wp2_with fail
        go_ret2
        exact RetT.yes E1.out E2.out rfl HB.out HO.out
  · have H := Lib.hid (fun e w' => @RetT.no l m' w w' e (thrB_len hlen))
    have d1 : ((l.length : Int) == (m'.length : Int)) = false := by simp; omega
    have d2 : decide ((l.length : Int) = (m'.length : Int)) = false := by simp; omega
    generalize l.length = la at *
    generalize m'.length = lb at *
    clear h1 h2
    go_enter Tryz.func71, Tryz.ntmps71
    go_wp2
    go_ret2
    exact H.out _ _ rfl (Below.refl _ _)
end Go.Proofs.YthfkfgjhgicfeaaGreatDoor
