/-
  What the program's Scale of package poly comes to: a contract for the walk. (Written by gen_pg1.py.)
-/
import Derived.Test.YtajmfpnkcenhaaaPgTrim
namespace Go.Proofs.Ytajmfpnkcenhaaa
open Go.RowKit
set_option linter.unusedVariables false


theorem scaP_upto' (l : List F2) (x : F2) : Upto l.length (fun i => cq l i * x) := fun i hi => by dsimp only; rw [cq_upto l i hi, F2.zero_mul]
/-- Trim of a row that the call made. -/
theorem ptrim_arr {n : Nat} {f : Nat → F2} (h : Upto n f) (hn : n ≤ 4294967296) (W : World) (g c : Nat) (hc : n ≤ c) (hm : c ≤ maxLen) (hA : Arr W g (n * 2) (pc fun j => encP (f j))) : Calls Try.prog 19 #[.slice (some ⟨g, 0, none⟩) n c] W (RetA (pl n f) W) := by
  have := ptrim_new _ (mk n f) W (hA.isP hc hm).poly (by rw [mk_len]; exact hn)
  have e : trimP (mk n f) = pl n f := pl_mk h
  rwa [e] at this
set_option maxHeartbeats 4000000 in
theorem pscale_new (v : Value) (l : List F2) (x0 x1 : Int) (x : F2) (w : World) (h : Poly w v l) (hx : Rep x0 x1 x) (hl : l.length ≤ 4294967296) :
    Calls Try.prog 15 #[v, .agg #[.int .u64 x0, .int .u64 x1]] w (RetA (scaP l x) w) := by
  have HTR : Hid (∀ (W : World) (g : Nat), Arr W g (l.length * 2) (pc fun j => encP (cq l j * x)) → Calls Try.prog 19 #[.slice (some ⟨g, 0, none⟩) l.length l.length] W (RetA (scaP l x) W)) := Lib.hid (fun W g hA => ptrim_arr (scaP_upto' l x) hl W g _ (Nat.le_refl _) (by unfold maxLen; omega) hA)
  obtain ⟨a, cap, rfl⟩ := h.slice
  obtain ⟨_, hm, hc⟩ := h.at
  unfold maxLen at hm
  have hmk := fun W => run_make_pairs (P := Try.prog) 22 25 (.agg #[.int .u64 0, .int .u64 0]) Try.underlying22 infoQ5 rfl l.length hl W
  have HC := Lib.hid hc
  clear hc h
  generalize scaP l x = res at *
  generalize hL : l.length = len at *
  have hL1 : (len : Int) ≤ 4294967296 := by omega
  clear hL
  go_enter Try.func15, Try.ntmps15
  go_upto_region 3 with fail
  go_loopw [13] (ScaleUp w len (fun i => cq l i * x) x0 x1) (fun i _ => len - (intOf i).toNat)
  case atStart =>
    refine ⟨0, Nat.zero_le _, rfl, ((Below.refl _ _).alloc (Nat.le_refl _) _).alloc (by simp) _, (Var.new w x0 x1 _).alloc _, ?_⟩
    have := (Arr.newq (w.alloc (.cells #[.int .u64 x0, .int .u64 x1] 25)) len 25).same (pc_same (y := prt (fun i => cq l i * x) 0) (fun i _ => by unfold prt; rw [if_neg (by omega)]))
    simpa using this
  case round =>
    obtain ⟨k, hk, rfl, hB, hX, hA⟩ := hrel
    by_cases hlt : k < len
    · obtain ⟨b, off, z0, z1, rfl, g0, g1, hR⟩ := HC.out k hlt
      replace g0 := bkeep hB g0
      replace g1 := bkeep hB g1
      obtain ⟨m, hmm⟩ : ∃ m, cq l k * x = m := ⟨_, rfl⟩
      have m1 := pmul_q z0 z1 x0 x1 (cq l k) x m hR hx hmm
      have HST := Lib.hid (prt_step (f := fun i => cq l i * x) (m := k) hmm)
      have hk1 : (k : Int) < (len : Int) := by omega
      have hk0 : (0 : Int) ≤ (k : Int) := by omega
      clear hR hmm hmk
      go_upto_region 5 with fail
      refine wp_gen (fun W => Below w.heap.size w W ∧ Var W w.heap.size x0 x1 ∧ Arr W (w.heap.size + 1) (len * 2) (pc (prt (fun i => cq l i * x) k)) ∧ Var W wr.heap.size z0 z1) ⟨hB.alloc hB.size _, hX.alloc _, hA.alloc _, Var.new _ _ _ _⟩ ?_
      clear hB hX hA g0 g1
      rintro W1 ⟨hB, hX, hA, ⟨y0c, y1c, _, _⟩⟩
      have HXX := Lib.hid hX; have HB := Lib.hid hB; have HA := Lib.hid hA
      obtain ⟨x0c, x1c, _, _⟩ := hX
      clear hB hA
      go_upto_region 6 with ((go_at_call 34; ((with_reducible refine (m1 _).mono ?_); rintro e w2 ⟨rfl, hb⟩; replace HB := Lib.hid (bthen HB.out hb); have HX := Lib.hid (HXX.out.keep hb); have hA := HA.out.keep hb; obtain ⟨c0, c1, f0, f1⟩ := hA.cells k hlt; clear hb x0c x1c y0c y1c m1)))
      have HA2 := Lib.hid ((hA.setq k (enc m.a) (enc m.b) hlt).same (pc_same fun j _ => HST.out j))
      clear hA c0 c1 f0 f1
      go_wp2_with fail
      go_roundw
      case rel => exact ⟨k + 1, by omega, by go_num, (HB.out.setCell (by show w.heap.size ≤ w.heap.size + 1; omega) _).setCell (by show w.heap.size ≤ w.heap.size + 1; omega) _, (HX.out.far (by omega) _ _).far (by omega) _ _, HA2.out⟩
      case measure => simp [intOf]; omega
    · have hkn : k = len := by omega
      subst hkn
      have T := HTR.out wr _ (hA.same (pc_same (prt_all _ _)))
      have HB := Lib.hid hB
      clear hA hB hX hmk
      go_wp2_with ((go_at_call 19; ((with_reducible refine T.mono ?_); rintro e w1 ⟨g, rfl, hg, hb, hA⟩; have HB2 := Lib.hid (bthen HB.out hb); have HA := Lib.hid hA; have HG := Lib.hid (Nat.le_trans HB.out.size hg); clear hb hA hg T)))
      go_ret
      exact ⟨_, rfl, HG.out, HB2.out, HA.out⟩
end Go.Proofs.Ytajmfpnkcenhaaa
