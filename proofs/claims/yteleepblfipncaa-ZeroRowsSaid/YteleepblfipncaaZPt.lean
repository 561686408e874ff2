/-
  What zero.many, Spot come to, and the document's Spot: contracts for the walk. (Written by gen_zpt.py.)
-/
import Derived.Test.YteleepblfipncaaZRow
import Derived.Test.YteleepblfipncaaLoose
namespace Go.Proofs.Yteleepblfipncaa
open Go.RowKit Go.Sort Go.BigFrame
set_option linter.unusedVariables false


theorem pow2_lt {k : Nat} (hk : k ≤ 32) : ((2 ^ k : Nat) : Int) ≤ 4294967296 ∧ 1 ≤ ((2 ^ k : Nat) : Int) := by
  have h1 := Nat.pow_le_pow_right (n := 2) (by decide) hk
  have h2 := Nat.two_pow_pos k
  omega
theorem pow2_U {k : Nat} (hk : k ≤ 32) : U ((2 ^ k : Nat) : Int) := by
  have := pow2_lt hk
  unfold U; omega
theorem wrapu_pow {k : Nat} (hk : k ≤ 32) : IntKind.u64.wrap (2 ^ k) = ((2 ^ k : Nat) : Int) := by
  have : ∀ k, k ≤ 32 → IntKind.u64.wrap (2 ^ k) = ((2 ^ k : Nat) : Int) := by decide +kernel
  exact this k hk
theorem many_is (k : Nat) (z : Int) (hk : k ≤ 32) (hz : ((2 ^ k : Nat) : Int) = z) (w : World) : Calls Try.prog 27 #[.int .i64 k] w fun e w' => e = .returned (.int .u64 z) ∧ w = w' := by
  have e1 := wrapu_pow hk
  rw [hz] at e1
  clear hz
  go_enter Try.func27, Try.ntmps27
  go_wp2
  go_ret
  exact ⟨rfl, rfl⟩

def SpotR (a b k i r la lb s t : Int) (sl : Nat) (v : Value) (W : World) : Prop :=
  match sl with
  | 7 => v = .agg #[.int .u64 a, .int .u64 b]
  | 8 => v = .int .i64 k
  | 9 => v = .int .i64 i
  | 10 => v = .int .u64 r
  | 11 => v = .agg #[.int .u64 la, .int .u64 lb]
  | _ => v = .agg #[.int .u64 s, .int .u64 t]
theorem SpotR.keep {a b k i r la lb s t : Int} {sl : Nat} {v : Value} {W W' : World} (h : SpotR a b k i r la lb s t sl v W) (hb : Below W.heap.size W W') : SpotR a b k i r la lb s t sl v W' := h

theorem zspot_is (k i a b : Int) (x z : F2) (hi : I64 i) (hx : Rep a b x) (hz : x - lift (rowv k i) = z) (w : World) : Calls Try.prog 16 #[.agg #[.int .u64 a, .int .u64 b], .int .i64 k, .int .i64 i] w fun e w' => e = .returned (.agg #[.int .u64 (enc z.a), .int .u64 (enc z.b)]) ∧ Below w.heap.size w w' := by
  obtain ⟨l, hl⟩ : ∃ l, lift (rowv k i) = l := ⟨_, rfl⟩
  have k1 := zrow_is k i (enc (rowv k i)) hi rfl
  have k2 := lift_q (enc (rowv k i)) l (enc_U _) (by rw [toF_enc]; exact hl)
  have k3 := psub_q a b (enc l.a) (enc l.b) x l z hx (rep_enc l) (by rw [← hl, ← hz])
  generalize enc z.a = s at *
  generalize enc z.b = t at *
  generalize enc l.a = la at *
  generalize enc l.b = lb at *
  generalize enc (rowv k i) = r at *
  clear hx hz hl hi
  go_enter Try.func16, Try.ntmps16
  go_upto_region 1 with fail
  refine wp_gen (fun W => Below w.heap.size w W ∧ Var W w.heap.size a b ∧ Var W (w.heap.size + 1) 0 0) ⟨((Below.refl _ _).alloc (Nat.le_refl _) _).alloc (by simp) _, by simp [Var, go_sem], by simp [Var, go_sem]⟩ ?_
  rintro W ⟨hB, ⟨c0, c1, f0, f1⟩, hR⟩
  refine wp_loose [(7, []), (8, []), (9, []), (10, [8, 9]), (11, [10]), (12, [7, 11])]
    (SpotR a b k i r la lb s t) (fun d => false) (by kernel_rfl) (by kernel_rfl) (fun _ _ _ _ h hb => h.keep hb) ?_ ?_
  · refine opsrun_cons ?_ (opsrun_cons ?_ (opsrun_cons ?_ (opsrun_cons ?_ (opsrun_cons ?_ (opsrun_cons ?_ opsrun_nil)))))
    all_goals
      refine OpRuns.any ?_
      intro Q0 σ W' K hb hn hK
      simp only [fill, List.map, Act.put, List.setIfInBounds_toArray, List.set_cons_zero, List.set_cons_succ] at hK ⊢
    · clear hn
      have c0' := bkeep hb c0
      have c1' := bkeep hb c1
      clear c0 c1
      go_simp
      exact hK _ _ rfl (Below.refl _ _) (fun h => absurd h (by decide))
    · clear hn
      go_simp
      exact hK _ _ rfl (Below.refl _ _) (fun h => absurd h (by decide))
    · clear hn
      go_simp
      exact hK _ _ rfl (Below.refl _ _) (fun h => absurd h (by decide))
    · have h8 : σ 8 = _ := hn 8 (by decide)
      have h9 : σ 9 = _ := hn 9 (by decide)
      clear hn
      simp only [h8, h9] at hK
      go_simp
      go_at_call 12
      refine (k1 _).mono ?_
      rintro e w1 ⟨rfl, rfl⟩
      exact hK _ _ rfl (Below.refl _ _) (fun h => absurd h (by decide))
    · have h10 : σ 10 = _ := hn 10 (by decide)
      clear hn
      simp only [h10] at hK
      go_simp
      go_at_call 31
      refine (k2 _).mono ?_
      rintro e w1 ⟨rfl, hb1⟩
      exact hK _ _ rfl hb1 (fun h => absurd h (by decide))
    · have h7 : σ 7 = _ := hn 7 (by decide)
      have h11 : σ 11 = _ := hn 11 (by decide)
      clear hn
      simp only [h7, h11] at hK
      go_simp
      go_at_call 29
      refine (k3 _).mono ?_
      rintro e w1 ⟨rfl, hb1⟩
      exact hK _ _ rfl hb1 (fun h => absurd h (by decide))
  · intro σ W' hb hR' hF
    have h12 : σ 12 = _ := hR' 12 (by decide)
    replace hR := hR.keep hb
    replace hB := bthen hB hb
    clear hR' hF c0 c1 f0 f1
    simp only [fill, List.map, Act.put, List.setIfInBounds_toArray, List.set_cons_zero, List.set_cons_succ, List.length_cons, List.length_nil, List.drop_succ_cons, List.drop_zero, Nat.reduceAdd]
    obtain ⟨d0, d1, e0, e1⟩ := hR
    go_wp2
    exact bodyPost_ret (v := .agg #[.int .u64 s, .int .u64 t]) (by simp [results, Try.results16, go_sem, d0, d1]) rfl ⟨rfl, (hB.setCell (by simp) _).setCell (by simp) _⟩

def RSpotR (a b k i r la lb s t : Int) (sl : Nat) (v : Value) (W : World) : Prop :=
  match sl with
  | 7 => v = .agg #[.int .u64 a, .int .u64 b]
  | 8 => v = .int .i64 k
  | 9 => v = .int .i64 i
  | 10 => v = .int .u64 r
  | 11 => v = .agg #[.int .u64 la, .int .u64 lb]
  | _ => v = .agg #[.int .u64 s, .int .u64 t]
theorem RSpotR.keep {a b k i r la lb s t : Int} {sl : Nat} {v : Value} {W W' : World} (h : RSpotR a b k i r la lb s t sl v W) (hb : Below W.heap.size W W') : RSpotR a b k i r la lb s t sl v W' := h

theorem rzspot_is (k i a b : Int) (x z : F2) (hi : I64 i) (hx : Rep a b x) (hz : x - lift (rowv k i) = z) (w : World) : Calls Try.prog 17 #[.agg #[.int .u64 a, .int .u64 b], .int .i64 k, .int .i64 i] w fun e w' => e = .returned (.agg #[.int .u64 (enc z.a), .int .u64 (enc z.b)]) ∧ Below w.heap.size w w' := by
  obtain ⟨l, hl⟩ : ∃ l, lift (rowv k i) = l := ⟨_, rfl⟩
  have k1 := fun W => ref_below (rzrow_is k i (enc (rowv k i)) hi rfl W)
  have k2 := rlift_q (enc (rowv k i)) l (enc_U _) (by rw [toF_enc]; exact hl)
  have k3 := rsub_q a b (enc l.a) (enc l.b) x l z hx (rep_enc l) (by rw [← hl, ← hz])
  generalize enc z.a = s at *
  generalize enc z.b = t at *
  generalize enc l.a = la at *
  generalize enc l.b = lb at *
  generalize enc (rowv k i) = r at *
  clear hx hz hl hi
  go_enter Try.func17, Try.ntmps17
  go_upto_region 1 with fail
  refine wp_gen (fun W => Below w.heap.size w W ∧ Var W w.heap.size a b ∧ Var W (w.heap.size + 1) 0 0) ⟨((Below.refl _ _).alloc (Nat.le_refl _) _).alloc (by simp) _, by simp [Var, go_sem], by simp [Var, go_sem]⟩ ?_
  rintro W ⟨hB, ⟨c0, c1, f0, f1⟩, hR⟩
  refine wp_loose [(7, []), (8, []), (9, []), (10, [8, 9]), (11, [10]), (12, [7, 11])]
    (RSpotR a b k i r la lb s t) (fun d => false) (by kernel_rfl) (by kernel_rfl) (fun _ _ _ _ h hb => h.keep hb) ?_ ?_
  · refine opsrun_cons ?_ (opsrun_cons ?_ (opsrun_cons ?_ (opsrun_cons ?_ (opsrun_cons ?_ (opsrun_cons ?_ opsrun_nil)))))
    all_goals
      refine OpRuns.any ?_
      intro Q0 σ W' K hb hn hK
      simp only [fill, List.map, Act.put, List.setIfInBounds_toArray, List.set_cons_zero, List.set_cons_succ] at hK ⊢
    · clear hn
      have c0' := bkeep hb c0
      have c1' := bkeep hb c1
      clear c0 c1
      go_simp
      exact hK _ _ rfl (Below.refl _ _) (fun h => absurd h (by decide))
    · clear hn
      go_simp
      exact hK _ _ rfl (Below.refl _ _) (fun h => absurd h (by decide))
    · clear hn
      go_simp
      exact hK _ _ rfl (Below.refl _ _) (fun h => absurd h (by decide))
    · have h8 : σ 8 = _ := hn 8 (by decide)
      have h9 : σ 9 = _ := hn 9 (by decide)
      clear hn
      simp only [h8, h9] at hK
      go_simp
      go_at_call 13
      refine (k1 _).mono ?_
      rintro e w1 ⟨rfl, hb1⟩
      exact hK _ _ rfl hb1 (fun h => absurd h (by decide))
    · have h10 : σ 10 = _ := hn 10 (by decide)
      clear hn
      simp only [h10] at hK
      go_simp
      go_at_call 20
      refine (k2 _).mono ?_
      rintro e w1 ⟨rfl, hb1⟩
      exact hK _ _ rfl hb1 (fun h => absurd h (by decide))
    · have h7 : σ 7 = _ := hn 7 (by decide)
      have h11 : σ 11 = _ := hn 11 (by decide)
      clear hn
      simp only [h7, h11] at hK
      go_simp
      go_at_call 25
      refine (k3 _).mono ?_
      rintro e w1 ⟨rfl, hb1⟩
      exact hK _ _ rfl hb1 (fun h => absurd h (by decide))
  · intro σ W' hb hR' hF
    have h12 : σ 12 = _ := hR' 12 (by decide)
    replace hR := hR.keep hb
    replace hB := bthen hB hb
    clear hR' hF c0 c1 f0 f1
    simp only [fill, List.map, Act.put, List.setIfInBounds_toArray, List.set_cons_zero, List.set_cons_succ, List.length_cons, List.length_nil, List.drop_succ_cons, List.drop_zero, Nat.reduceAdd]
    obtain ⟨d0, d1, e0, e1⟩ := hR
    go_wp2
    exact bodyPost_ret (v := .agg #[.int .u64 s, .int .u64 t]) (by simp [results, Try.results17, go_sem, d0, d1]) rfl ⟨rfl, (hB.setCell (by simp) _).setCell (by simp) _⟩
end Go.Proofs.Yteleepblfipncaa
