/-
  What the document's Sum of layer 2 comes to: a contract for the walk.
-/
import Derived.Test.YtkgogfnpkcibeaaPairRefB
namespace Go.Proofs.Ytkgogfnpkcibeaa
open Go.RowKit Go.Sort Go.BigFrame
set_option linter.unusedVariables false

theorem rsum_none (v : Value) (hv : v = .slice none 0 0 ∨ ∃ a cap, v = .slice (some a) 0 cap) (w : World) : Calls Try.prog 33 #[v] w fun e w' => e = .returned (.agg #[.int .u64 0, .int .u64 0]) ∧ Below w.heap.size w w' := by
  rcases hv with rfl | ⟨a, cap, rfl⟩
  all_goals
    go_enter Try.func33, Try.ntmps33
    go_upto_region 3 with fail
    go_loopw [4] (SumNone w w.heap.size (w.heap.size + 1)) (fun _ _ => 0)
    case atStart => exact ⟨rfl, ((Below.refl _ _).alloc (Nat.le_refl _) _).alloc (by simp) _, (Var.new _ _ _ _).alloc _, by simpa using Var.new (w.alloc (.cells #[.int .u64 0, .int .u64 0] 24)) 0 0 24⟩
    case round =>
      obtain ⟨rfl, hB, h2, h3⟩ := hrel
      obtain ⟨c0, c1, f0, f1⟩ := h2
      obtain ⟨d0, d1, e0, e1⟩ := h3
      go_wp2
      exact bodyPost_ret (v := .agg #[.int .u64 0, .int .u64 0]) (by simp [results, Try.results33, go_sem, c0, c1]) rfl ⟨rfl, (hB.setCell (by simp) _).setCell (by simp) _⟩

/-- What the slots of a round hold. -/
def SumR (o1 o2 z0 z1 s1 s2 : Int) (k b off len cap : Nat) (j : Nat) (v : Value) (W : World) : Prop :=
  match j with
  | 11 => v = .agg #[.int .u64 o1, .int .u64 o2]
  | 12 => v = .slice (some ⟨b, off, none⟩) len cap
  | 13 => v = .int .i64 k
  | 14 => v = .pointer (some ⟨b, off + k * 2, none⟩)
  | 15 => v = .agg #[.int .u64 z0, .int .u64 z1]
  | _ => v = .agg #[.int .u64 s1, .int .u64 s2]
theorem SumR.keep {o1 o2 z0 z1 s1 s2 : Int} {k b off len cap j : Nat} {v : Value} {W W' : World} (h : SumR o1 o2 z0 z1 s1 s2 k b off len cap j v W) (hb : Below W.heap.size W W') : SumR o1 o2 z0 z1 s1 s2 k b off len cap j v W' := h

set_option maxHeartbeats 1000000 in
theorem rsum_q (v : Value) (zs : List (Int × Int)) (w : World) (hr : QRow w v zs) (hu : ∀ n ∈ zs, U n.1 ∧ U n.2) : Calls Try.prog 33 #[v] w fun e w' => e = .returned (.agg #[.int .u64 (enc (qsum (zs.map toQ)).a), .int .u64 (enc (qsum (zs.map toQ)).b)]) ∧ Below w.heap.size w w' := by
  rcases hr with ⟨rfl, rfl⟩ | ⟨ad, cap, rfl, rfl⟩ | ⟨b, off, cap, rfl, hc, hm, hcell⟩
  · exact rsum_none _ (Or.inl rfl) w
  · exact rsum_none _ (Or.inr ⟨ad, cap, rfl⟩) w
  · unfold maxLen at hm
    have HS := Lib.hid (qsum_snoc zs); have HA := Lib.hid (qheads_all zs); have HC := Lib.hid hcell; have HU := Lib.hid (UU_getD hu); have H0 := Lib.hid (qheads_zero zs)
    clear hcell hu
    generalize hzl : zs.length = len at *
    have HZ := Lib.hid hzl; clear hzl
    go_enter Try.func33, Try.ntmps33
    go_upto_region 3 with fail
    go_loopw [4] (SumHead w zs w.heap.size (w.heap.size + 1)) (fun i _ => len - (intOf i).toNat)
    case atStart => exact ⟨0, Nat.zero_le _, rfl, ((Below.refl _ _).alloc (Nat.le_refl _) _).alloc (by simp) _, (Var.new _ _ _ _).alloc _, by rw [H0.out, show enc (qsum []).a = 0 from rfl, show enc (qsum []).b = 0 from rfl]; simpa using Var.new (w.alloc (.cells #[.int .u64 0, .int .u64 0] 24)) 0 0 24⟩
    case round =>
      obtain ⟨k, hk, rfl, hB, h2, h3⟩ := hrel
      rw [HZ.out] at hk
      by_cases hlt : k < len
      · have g0 := bkeep hB (HC.out k hlt).1
        have g1 := bkeep hB (HC.out k hlt).2
        have gU := HU.out k hlt
        have e2 := HS.out k hlt
        have m1 := radd_q (enc (qsum (qheads zs k)).a) (enc (qsum (qheads zs k)).b) (zs.getD k (0, 0)).1 (zs.getD k (0, 0)).2 _ _ _ (rep_enc _) (rep_raw gU.1 gU.2) e2
        clear e2
        generalize (zs.getD k (0, 0)).1 = z0 at *
        generalize (zs.getD k (0, 0)).2 = z1 at *
        generalize enc (qsum (qheads zs k)).a = o1 at *
        generalize enc (qsum (qheads zs k)).b = o2 at *
        obtain ⟨s1, hs1⟩ : ∃ v, enc (qsum (qheads zs (k + 1))).a = v := ⟨_, rfl⟩
        obtain ⟨s2, hs2⟩ : ∃ v, enc (qsum (qheads zs (k + 1))).b = v := ⟨_, rfl⟩
        rw [hs1, hs2] at m1
        have H1 := Lib.hid hs1; have H2 := Lib.hid hs2
        clear hs1 hs2
        go_upto_region 5 with fail
        have hlt' : (k : Int) < (len : Int) := by omega
        have hk0 : (0 : Int) ≤ (k : Int) := by omega
        obtain ⟨d0, d1, e0, e1⟩ := h3
        refine wp_loose [(11, []), (12, []), (13, []), (14, [12, 13]), (15, [14]), (16, [11, 15])]
          (SumR o1 o2 z0 z1 s1 s2 k b off len cap) (fun d => false) (by kernel_rfl) (by kernel_rfl) (fun _ _ _ _ h hb => h.keep hb) ?_ ?_
        · refine opsrun_cons ?_ (opsrun_cons ?_ (opsrun_cons ?_ (opsrun_cons ?_ (opsrun_cons ?_ (opsrun_cons ?_ opsrun_nil)))))
          all_goals
            refine OpRuns.any ?_
            intro Q0 σ W' K hb hn hK
            simp only [fill, List.map, Act.put, List.setIfInBounds_toArray, List.set_cons_zero, List.set_cons_succ] at hK ⊢
          · have d0' := bkeep hb d0
            have d1' := bkeep hb d1
            clear d0 d1
            go_simp
            exact hK _ _ rfl (Below.refl _ _) (fun h => absurd h (by decide))
          · clear hn
            go_simp
            exact hK _ _ rfl (Below.refl _ _) (fun h => absurd h (by decide))
          · clear hn
            go_simp
            exact hK _ _ rfl (Below.refl _ _) (fun h => absurd h (by decide))
          · have h12 : σ 12 = _ := hn 12 (by decide)
            have h13 : σ 13 = _ := hn 13 (by decide)
            clear hn
            simp only [h12, h13] at hK
            go_simp
            exact hK _ _ rfl (Below.refl _ _) (fun h => absurd h (by decide))
          · have h14 : σ 14 = _ := hn 14 (by decide)
            have g0' := bkeep hb g0; have g1' := bkeep hb g1
            clear hn g0 g1
            simp only [h14] at hK
            go_simp
            exact hK _ _ rfl (Below.refl _ _) (fun h => absurd h (by decide))
          · have h11 : σ 11 = _ := hn 11 (by decide)
            have h15 : σ 15 = _ := hn 15 (by decide)
            clear hn
            simp only [h11, h15] at hK
            go_simp
            go_at_call 11
            refine (m1 _).mono ?_
            rintro e w1 ⟨rfl, hb1⟩
            exact hK _ _ rfl hb1 (fun h => absurd h (by decide))
        · intro σ W' hb hR' hF
          have h16 : σ 16 = _ := hR' 16 (by decide)
          have V3 := Var.keep ⟨d0, d1, e0, e1⟩ hb
          replace h2 := h2.keep hb
          replace hB := bthen hB hb
          clear hR' hF d0 d1 e0 e1 g0 g1
          simp only [fill, List.map, Act.put, List.setIfInBounds_toArray, List.set_cons_zero, List.set_cons_succ, List.length_cons, List.length_nil, List.drop_succ_cons, List.drop_zero, Nat.reduceAdd]
          have HV := Lib.hid V3
          obtain ⟨d0, d1, e0, e1⟩ := V3
          go_upto_region 4 with fail
          refine wp_gen (fun W => Below w.heap.size w W ∧ Var W w.heap.size 0 0 ∧ Var W (w.heap.size + 1) s1 s2) ⟨(hB.setCell (by simp) _).setCell (by simp) _, (h2.far (by omega) _ _).far (by omega) _ _, HV.out.set _ _⟩ ?_
          clear hB h2 d0 d1 e0 e1 HV
          rintro W2 ⟨hB, h2, h3⟩
          go_wp2
          go_roundw
          case rel => exact ⟨k + 1, by rw [HZ.out]; omega, by go_num, hB, h2, by rw [H1.out, H2.out]; exact h3⟩
          case measure => simp [intOf]; omega
      · obtain ⟨c0, c1, f0, f1⟩ := h2
        obtain ⟨d0, d1, e0, e1⟩ := h3
        go_wp2
        exact bodyPost_ret (v := .agg #[.int .u64 (enc (qsum (qheads zs k)).a), .int .u64 (enc (qsum (qheads zs k)).b)]) (by simp [results, Try.results33, go_sem, c0, c1]) rfl ⟨by rw [HA.out k (by omega)], (hB.setCell (by simp) _).setCell (by simp) _⟩
end Go.Proofs.Ytkgogfnpkcibeaa
