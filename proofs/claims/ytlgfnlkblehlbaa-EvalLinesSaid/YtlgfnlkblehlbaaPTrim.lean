/-
  What the document's Trim and Degree of layer 5 come to: contracts for the walk. (Written by gen_ptrim.py.)
-/
import Derived.Test.YtlgfnlkblehlbaaPolyC
import Derived.Test.YtlgfnlkblehlbaaGRef
namespace Go.Proofs.Ytlgfnlkblehlbaa
open Go.RowKit
set_option linter.unusedVariables false

theorem infoQ5 : (Try.prog.info? 29).map (fun i => (i.zero, i.size, i.bytes)) = some (some (.agg #[.int .u64 0, .int .u64 0]), 2, 16) := by kernel_rfl
def TrimDown (w : World) (l : List F2) (len : Nat) (i : Value) (W : World) : Prop := ∃ n : Nat, n ≤ len ∧ i = .int .i64 n ∧ tn (cq l) len = tn (cq l) n ∧ Below w.heap.size w W
def TrimUp (w : World) (g n : Nat) (f : Nat → F2) (i : Value) (W : World) : Prop := ∃ m : Nat, m ≤ n ∧ i = .int .i64 m ∧ Below w.heap.size w W ∧ Arr W g (n * 2) (pc (prt f m))
theorem enc_zero_iff (x : F) : enc x = 0 ↔ x = 0 := by
  constructor
  · intro h
    have := toF_enc x
    rw [h] at this
    rw [← this]; rfl
  · rintro rfl; rfl
theorem enc_ne {x : F2} (h : x ≠ 0) : enc x.a ≠ 0 ∨ enc x.b ≠ 0 := by
  by_cases h1 : enc x.a = 0
  · refine Or.inr fun h2 => h (F2.eq ((enc_zero_iff _).1 h1) ((enc_zero_iff _).1 h2))
  · exact Or.inl h1

set_option maxHeartbeats 4000000 in
theorem rtrim_new (v : Value) (l : List F2) (w : World) (h : Poly w v l) (hl : l.length ≤ 4294967296) : Calls Try.prog 61 #[v] w (RetF (pl l.length (cq l)) w) := by
  obtain ⟨a, cap, rfl⟩ := h.slice
  obtain ⟨_, hm, hc⟩ := h.at
  unfold maxLen at hm
  have HC := Lib.hid hc
  have HT := Lib.hid (tn_le (cq l))
  have hT1 : Hid (∀ m, cq l m = 0 → tn (cq l) (m + 1) = tn (cq l) m) := Lib.hid (fun m h => by show (if _ then _ else _) = _; rw [if_pos h])
  have hT2 : Hid (∀ m, cq l m ≠ 0 → tn (cq l) (m + 1) = m + 1) := Lib.hid (fun m h => by show (if _ then _ else _) = _; rw [if_neg h])
  have HPL : Hid (∀ W g c, tn (cq l) l.length ≤ c → c ≤ maxLen → Arr W g (tn (cq l) l.length * 2) (pc fun j => encP (cq l j)) → IsP W (.slice (some ⟨g, 0, none⟩) (tn (cq l) l.length) c) (pl l.length (cq l))) := Lib.hid (fun W g c h1 h2 h => h.isP h1 h2)
  clear hc h
  generalize hL : l.length = len at *
  have hL1 : (len : Int) ≤ 4294967296 := by omega
  clear hL
  go_enter Try.func61, Try.ntmps61
  go_upto_region 2 with fail
  go_loopw [3] (TrimDown w l len) (fun i _ => (intOf i).toNat)
  case atStart => exact ⟨len, Nat.le_refl _, rfl, rfl, Below.refl _ _⟩
  case round =>
    obtain ⟨n, hn, rfl, ht, hB⟩ := hrel
    rcases Nat.eq_zero_or_pos n with hn0 | hn0
    · have p0 : ¬ (0 : Int) < (n : Int) := by omega
      have HN0 := Lib.hid hn0
      clear hn0
      have hmk := fun W => run_make_pairs (P := Try.prog) 23 29 (.agg #[.int .u64 0, .int .u64 0]) Try.underlying23 infoQ5 rfl n (by omega) W
      have HTN : Hid (tn (cq l) len = n) := Lib.hid (by rw [ht, HN0.out]; rfl)
      have HB := Lib.hid hB
      have hnn : n ≤ len := hn
      clear ht hB
      go_upto_region 6 with fail
      go_loopw [5] (TrimUp w wr.heap.size n (cq l)) (fun i _ => n - (intOf i).toNat)
      case atStart => exact ⟨0, Nat.zero_le _, rfl, HB.out.alloc HB.out.size _, (Arr.newq wr _ _).same (pc_same (fun i _ => by unfold prt; rw [if_neg (by omega)]))⟩
      case round =>
        clear hmk
        obtain ⟨k, hk, rfl, hW, hA⟩ := hrel
        by_cases hlt : k < n
        · exact absurd hlt (by rw [HN0.out]; exact Nat.not_lt_zero _)
        · have hkn : k = n := by omega
          subst hkn
          have HP := Lib.hid (HPL.out _ _ (tn (cq l) len) (Nat.le_refl _) (by have := HT.out len; unfold maxLen; omega) (by rw [HTN.out]; exact hA.same (pc_same (prt_all _ _))))
          have HW := Lib.hid hW
          rw [HTN.out] at HP
          clear hA hW
          go_wp2_with fail
          go_ret
          exact ⟨_, rfl, HW.out, HP.out, fun a n c h => by cases h; exact HB.out.size⟩
    · obtain ⟨m, hm1⟩ : ∃ m, n = m + 1 := ⟨n - 1, by omega⟩
      obtain ⟨b, off, z0, z1, rfl, g0, g1, hR⟩ := HC.out m (by omega)
      replace g0 := bkeep hB g0
      replace g1 := bkeep hB g1
      have e1 : ((n : Int) - 1) = (m : Int) := by omega
      have p1 : (0 : Int) < (n : Int) := by omega
      have HM := Lib.hid hm1
      have p2 : (m : Int) < (len : Int) := by omega
      by_cases hx : cq l m = 0
      · have a1 := radd_q z0 z1 0 0 (cq l m) 0 0 hR rep_zero (by rw [F2.add_zero, hx])
        rw [show enc (0 : F2).a = 0 from rfl, show enc (0 : F2).b = 0 from rfl] at a1
        have HT1 : Hid (tn (cq l) len = tn (cq l) m) := Lib.hid (by rw [ht, HM.out]; exact hT1.out m hx)
        clear ht hx hR hm1 hn0
        go_upto_region 3 with ((go_at_call 21; ((with_reducible refine (a1 _).mono ?_); rintro e w1 ⟨rfl, hb⟩; replace hB := bthen hB hb; clear hb g0 g1)))
        have HB := Lib.hid hB
        clear hB
        go_wp2_with fail
        go_roundw
        case rel => exact ⟨m, by omega, by first | rfl | exact congrArg (Value.int .i64) e1, HT1.out, HB.out⟩
        case measure => have := HM.out; simp [intOf]; omega
      · have a1 := radd_q z0 z1 0 0 (cq l m) 0 (cq l m) hR rep_zero (F2.add_zero _)
        have HNE := Lib.hid (enc_ne hx)
        replace ht : tn (cq l) len = n := ht.trans (by rw [HM.out]; exact hT2.out m hx)
        generalize enc (cq l m).a = s at *
        generalize enc (cq l m).b = t at *
        clear hx hR hm1 hn0
        have hmk := fun W => run_make_pairs (P := Try.prog) 23 29 (.agg #[.int .u64 0, .int .u64 0]) Try.underlying23 infoQ5 rfl n (by omega) W
        have HTN : Hid (tn (cq l) len = n) := Lib.hid (by exact ht)
        have HB := Lib.hid hB
        have hnn : n ≤ len := hn
        clear ht hB
        go_upto_region 6 with ((go_at_call 21; ((with_reducible refine (a1 _).mono ?_); rintro e w1 ⟨rfl, hb⟩; replace HB := Lib.hid (bthen HB.out hb); clear hb g0 g1 a1)))
        case roundEnd => exfalso; rcases HNE.out with h | h <;> exact h (by assumption)
        all_goals
          go_loopw [5] (TrimUp w w1.heap.size n (cq l)) (fun i _ => n - (intOf i).toNat)
          case atStart => exact ⟨0, Nat.zero_le _, rfl, HB.out.alloc HB.out.size _, (Arr.newq w1 _ _).same (pc_same (fun i _ => by unfold prt; rw [if_neg (by omega)]))⟩
          case round =>
            clear hmk
            obtain ⟨k, hk, rfl, hW, hA⟩ := hrel
            by_cases hlt : k < n
            · obtain ⟨b', off', z2, z3, he, g2, g3, hR⟩ := HC.out k (by omega)
              cases he
              have a2 := radd_q z2 z3 0 0 (cq l k) 0 (cq l k) hR rep_zero (F2.add_zero _)
              have HST := Lib.hid (prt_step (f := cq l) (m := k) rfl)
              generalize cq l k = x at a2 HST
              replace g2 := bkeep hW g2
              replace g3 := bkeep hW g3
              clear hR
              have hlt' : (k : Int) < ((n : Nat) : Int) := by omega
              have hlt2 : (k : Int) < (len : Int) := by omega
              have hwr : w.heap.size ≤ w1.heap.size := HB.out.size
              go_upto_region 7 with ((go_at_call 21; ((with_reducible refine (a2 _).mono ?_); rintro e w2 ⟨rfl, hb⟩; replace hA := hA.keep hb; replace hW := bthen hW hb; obtain ⟨c0, c1, f0, f1⟩ := hA.cells k hlt; clear hb g2 g3)))
              have HA := Lib.hid ((hA.setq k (enc x.a) (enc x.b) hlt).same (pc_same fun j _ => HST.out j))
              have HW := Lib.hid hW
              clear hA hW c0 c1 f0 f1
              go_wp2_with fail
              go_roundw
              case rel => exact ⟨k + 1, by omega, by go_num, (HW.out.setCell hwr _).setCell hwr _, HA.out⟩
              case measure => simp [intOf]; omega
            · have hkn : k = n := by omega
              subst hkn
              have HP := Lib.hid (HPL.out _ _ (tn (cq l) len) (Nat.le_refl _) (by have := HT.out len; unfold maxLen; omega) (by rw [HTN.out]; exact hA.same (pc_same (prt_all _ _))))
              have HW := Lib.hid hW
              rw [HTN.out] at HP
              clear hA hW
              go_wp2_with fail
              go_ret
              exact ⟨_, rfl, HW.out, HP.out, fun a n c h => by cases h; exact HB.out.size⟩

theorem rtrim (v : Value) (l : List F2) (w : World) (h : Poly w v l) (hl : l.length ≤ 4294967296) : Calls Try.prog 61 #[v] w (RetP (pl l.length (cq l)) w) := (rtrim_new v l w h hl).mono fun _ _ h => h.ret
end Go.Proofs.Ytlgfnlkblehlbaa
