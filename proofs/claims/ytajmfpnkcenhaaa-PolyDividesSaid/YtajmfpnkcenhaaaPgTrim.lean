/-
  What the program's kept, Degree and Trim of package poly come to: contracts for the walk.
-/
import Derived.Test.YtajmfpnkcenhaaaPolyNwt
namespace Go.Proofs.Ytajmfpnkcenhaaa
open Go.RowKit
set_option linter.unusedVariables false

theorem psum_one (a b : Int) (x : F2) (hx : Rep a b x) (v : Value) (w : World) (hr : QRow w v [(a, b)]) : Calls Try.prog 49 #[v] w fun e w' => e = .returned (.agg #[.int .u64 (enc x.a), .int .u64 (enc x.b)]) ∧ Below w.heap.size w w' := by
  have h := psum_q v [(a, b)] w hr (by intro n hn; simp at hn; subst hn; exact ⟨hx.1, hx.2.1⟩)
  have e : qsum ([(a, b)].map toQ) = x := by
    show toQ (a, b) + 0 = x
    rw [F2.add_zero]; exact F2.eq hx.2.2.1 hx.2.2.2
  rw [e] at h
  exact h
theorem kept_q (a b : Int) (x : F2) (hx : Rep a b x) (w : World) : Calls Try.prog 35 #[.agg #[.int .u64 a, .int .u64 b]] w fun e w' => e = .returned (.agg #[.int .u64 (enc x.a), .int .u64 (enc x.b)]) ∧ Below w.heap.size w w' := by
  have k1 := psum_one a b x hx
  generalize enc x.a = s at *
  generalize enc x.b = t at *
  clear hx
  go_enter Try.func35, Try.ntmps35
  go_upto_region 1 with fail
  refine wp_gen (fun W => Below w.heap.size w W ∧ Var W w.heap.size a b ∧ Var W (w.heap.size + 1) 0 0) ⟨((Below.refl _ _).alloc (Nat.le_refl _) _).alloc (by simp) _, by simp [Var, go_sem], by simp [Var, go_sem]⟩ ?_
  rintro W ⟨hB, ⟨c0, c1, f0, f1⟩, hR⟩
  go_wp2_with (go_at_call 49; ((with_reducible refine (k1 _ _ (qrow_one (by simp [go_sem]) (by simp [go_sem]))).mono ?_); rintro e w1 ⟨rfl, hb⟩; have hbb := ((Below.refl W.heap.size W).alloc (Nat.le_refl _) (.cells #[.int .u64 a, .int .u64 b] 25)).trans (hb.mono (by simp)); obtain ⟨d0, d1, e0, e1⟩ := hR.keep hbb; replace hB := bthen hB hbb; clear hb hbb c0 c1 f0 f1))
  exact bodyPost_ret (v := .agg #[.int .u64 s, .int .u64 t]) (by simp [results, Try.results35, go_sem, d0, d1]) rfl ⟨rfl, (hB.setCell (by simp) _).setCell (by simp) _⟩

set_option maxHeartbeats 4000000 in
theorem pdegree (v : Value) (l : List F2) (w : World) (h : Poly w v l) (hl : l.length ≤ 4294967296) : Calls Try.prog 17 #[v] w (RetI (degP l) w) := by
  obtain ⟨a, cap, rfl⟩ := h.slice
  obtain ⟨_, hm, hc⟩ := h.at
  unfold maxLen at hm
  have HC := Lib.hid hc
  have HT := Lib.hid (tn_le (cq l))
  have hT1 : Hid (∀ m, cq l m = 0 → tn (cq l) (m + 1) = tn (cq l) m) := Lib.hid (fun m h => by show (if _ then _ else _) = _; rw [if_pos h])
  have hT2 : Hid (∀ m, cq l m ≠ 0 → tn (cq l) (m + 1) = m + 1) := Lib.hid (fun m h => by show (if _ then _ else _) = _; rw [if_neg h])
  have HD : Hid (degP l = (tn (cq l) l.length : Int) - 1) := Lib.hid rfl
  generalize degP l = d at *
  clear hc h
  generalize hL : l.length = len at *
  have hL1 : (len : Int) ≤ 4294967296 := by omega
  clear hL
  go_enter Try.func17, Try.ntmps17
  go_upto_region 2 with fail
  go_loopw [3] (TrimDown w l len) (fun i _ => (intOf i).toNat)
  case atStart => exact ⟨len, Nat.le_refl _, rfl, rfl, Below.refl _ _⟩
  case round =>
    obtain ⟨n, hn, rfl, ht, hB⟩ := hrel
    rcases Nat.eq_zero_or_pos n with hn0 | hn0
    · have p0 : ¬ (0 : Int) < (n : Int) := by omega
      have HE : Hid ((n : Int) - 1 = d) := Lib.hid (by rw [HD.out, ht, hn0]; rfl)
      have HB := Lib.hid hB
      clear hn0 ht hB
      go_wp2_with fail
      go_ret
      exact ⟨congrArg (fun z => Ending.returned (Value.int .i64 z)) HE.out, HB.out⟩
    · obtain ⟨m, hm1⟩ : ∃ m, n = m + 1 := ⟨n - 1, by omega⟩
      obtain ⟨b, off, z0, z1, rfl, g0, g1, hR⟩ := HC.out m (by omega)
      replace g0 := bkeep hB g0
      replace g1 := bkeep hB g1
      have e1 : ((n : Int) - 1) = (m : Int) := by omega
      have p1 : (0 : Int) < (n : Int) := by omega
      have HM := Lib.hid hm1
      have p2 : (m : Int) < (len : Int) := by omega
      have a1 := kept_q z0 z1 (cq l m) hR
      by_cases hx : cq l m = 0
      · rw [hx, show enc (0 : F2).a = 0 from rfl, show enc (0 : F2).b = 0 from rfl] at a1
        have HT1 : Hid (tn (cq l) len = tn (cq l) m) := Lib.hid (by rw [ht, HM.out]; exact hT1.out m hx)
        clear ht hx hR hm1 hn0
        go_upto_region 3 with ((go_at_call 35; ((with_reducible refine (a1 _).mono ?_); rintro e w1 ⟨rfl, hb⟩; replace hB := bthen hB hb; clear hb g0 g1)))
        have HB := Lib.hid hB
        clear hB
        go_wp2_with fail
        go_roundw
        case rel => exact ⟨m, by omega, by first | rfl | exact congrArg (Value.int .i64) e1, HT1.out, HB.out⟩
        case measure => have := HM.out; simp [intOf]; omega
      · have HNE := Lib.hid (enc_ne hx)
        have HE : Hid ((m : Int) = d) := Lib.hid (by rw [HD.out, ht, HM.out, hT2.out m hx]; omega)
        generalize enc (cq l m).a = s at *
        generalize enc (cq l m).b = t at *
        have HB := Lib.hid hB
        clear hx hR hm1 hn0 ht hB
        go_upto_region 4 with ((go_at_call 35; ((with_reducible refine (a1 _).mono ?_); rintro e w1 ⟨rfl, hb⟩; replace HB := Lib.hid (bthen HB.out hb); clear hb g0 g1 a1)))
        case roundEnd => exfalso; rcases HNE.out with h | h <;> exact h (by assumption)
        all_goals
          go_wp2_with fail
          go_ret
          exact ⟨congrArg (fun z => Ending.returned (Value.int .i64 z)) HE.out, HB.out⟩

/-- A call that tells a polynomial in a row of its own. -/
def RetA (l : List F2) (w : World) (e : Ending) (w' : World) : Prop :=
  ∃ g, e = .returned (.slice (some ⟨g, 0, none⟩) l.length l.length) ∧ w.heap.size ≤ g ∧ Below w.heap.size w w' ∧ Arr w' g (l.length * 2) (pc fun j => encP (cq l j))
theorem mk_cq (l : List F2) : mk l.length (cq l) = l := by
  refine List.ext_getElem (by rw [mk_len]) fun i h1 h2 => ?_
  simp [mk, cq, List.getD, h2]
theorem RetA.retF {l : List F2} {w w' : World} {e : Ending} (hl : l.length ≤ maxLen) (h : RetA l w e w') : RetF l w e w' := by
  obtain ⟨g, rfl, hg, hb, hA⟩ := h
  exact ⟨_, rfl, hb, by have := hA.isP (Nat.le_refl _) hl; rwa [mk_cq] at this, fun a n c he => by cases he; exact hg⟩

set_option maxHeartbeats 4000000 in
theorem ptrim_new (v : Value) (l : List F2) (w : World) (h : Poly w v l) (hl : l.length ≤ 4294967296) : Calls Try.prog 19 #[v] w (RetA (trimP l) w) := by
  have DG := pdegree v l w h hl
  obtain ⟨a, cap, rfl⟩ := h.slice
  obtain ⟨_, hm, hc⟩ := h.at
  have hn0 := tn_le (cq l) l.length
  have HTL : Hid ((trimP l).length = tn (cq l) l.length) := Lib.hid (pl_len _ _)
  have HTC : Hid (∀ j, cq (trimP l) j = cq l j) := Lib.hid (cq_pl (cq_upto l))
  unfold RetI degP at DG
  unfold maxLen at hm
  have HC := Lib.hid hc
  clear hc h
  generalize trimP l = r at *
  generalize hL : l.length = len at *
  have hL1 : (len : Int) ≤ 4294967296 := by omega
  generalize tn (cq l) len = n at *
  have HN := Lib.hid HTL.out
  have hmk := fun W => run_make_pairs (P := Try.prog) 22 25 (.agg #[.int .u64 0, .int .u64 0]) Try.underlying22 infoQ5 rfl n (by omega) W
  generalize hd : (n : Int) - 1 = d at *
  have hd1 : d + 1 = (n : Int) := by omega
  have hd2 : -1 ≤ d ∧ d ≤ 4294967296 := by omega
  clear hL
  go_enter Try.func19, Try.ntmps19
  go_upto_region 3 with ((go_at_call 17; ((with_reducible refine DG.mono ?_); rintro e w1 ⟨rfl, hb⟩; have HB := Lib.hid hb; clear hb DG)))
  go_loopw [11] (TrimUp w w1.heap.size n (cq l)) (fun i _ => n - (intOf i).toNat)
  case atStart => exact ⟨0, Nat.zero_le _, rfl, HB.out.alloc HB.out.size _, (Arr.newq w1 _ _).same (pc_same (fun i _ => by unfold prt; rw [if_neg (by omega)]))⟩
  case round =>
    clear hmk
    obtain ⟨k, hk, rfl, hW, hA⟩ := hrel
    by_cases hlt : k < n
    · obtain ⟨b', off', z2, z3, rfl, g2, g3, hR⟩ := HC.out k (by omega)
      have a2 := kept_q z2 z3 (cq l k) hR
      have HST := Lib.hid (prt_step (f := cq l) (m := k) rfl)
      generalize cq l k = x at a2 HST
      replace g2 := bkeep hW g2
      replace g3 := bkeep hW g3
      clear hR
      have hlt' : (k : Int) < ((n : Nat) : Int) := by omega
      have hlt2 : (k : Int) < (len : Int) := by omega
      have hwr : w.heap.size ≤ w1.heap.size := HB.out.size
      go_upto_region 6 with ((go_at_call 35; ((with_reducible refine (a2 _).mono ?_); rintro e w2 ⟨rfl, hb⟩; replace hA := hA.keep hb; replace hW := bthen hW hb; obtain ⟨c0, c1, f0, f1⟩ := hA.cells k hlt; clear hb g2 g3)))
      have HA := Lib.hid ((hA.setq k (enc x.a) (enc x.b) hlt).same (pc_same fun j _ => HST.out j))
      have HW := Lib.hid hW
      clear hA hW c0 c1 f0 f1
      go_wp2_with fail
      go_roundw
      case rel => exact ⟨k + 1, by omega, by go_num, (HW.out.setCell hwr _).setCell hwr _, HA.out⟩
      case measure => simp [intOf]; omega
    · have hkn : k = n := by omega
      subst hkn
      have HA := Lib.hid (hA.same (pc_same (prt_all _ _)))
      have HW := Lib.hid hW
      clear hA hW
      go_wp2_with fail
      go_ret
      refine ⟨w1.heap.size, by rw [HN.out]; rfl, HB.out.size, HW.out, ?_⟩
      rw [HN.out]
      exact HA.out.same (pc_same fun j _ => by rw [HTC.out])
end Go.Proofs.Ytajmfpnkcenhaaa
