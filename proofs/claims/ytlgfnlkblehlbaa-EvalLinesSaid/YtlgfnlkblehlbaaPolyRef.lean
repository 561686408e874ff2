/-
  What the document's At, Scale and Add of layer 5 come to: contracts for the walk. (Written by gen_polyref.py.)
-/
import Derived.Test.YtlgfnlkblehlbaaPTrim
import Derived.Test.YtlgfnlkblehlbaaGNum
import Derived.IntWalk
namespace Go.Proofs.Ytlgfnlkblehlbaa
open Go.RowKit
set_option linter.unusedVariables false
def AtR (b off len cap k g3 g5 : Nat) (x0 x1 o0 o1 m0 m1 z0 z1 n0 n1 : Int) (sl : Nat) (v : Value) (W : World) : Prop :=
  match sl with
  | 14 => v = .agg #[.int .u64 o0, .int .u64 o1]
  | 15 => v = .agg #[.int .u64 x0, .int .u64 x1]
  | 16 => v = .agg #[.int .u64 m0, .int .u64 m1]
  | 17 => v = .slice (some ⟨b, off, none⟩) len cap
  | 18 => v = .int .i64 k
  | 19 => v = .pointer (some ⟨b, off + k * 2, none⟩)
  | 20 => v = .agg #[.int .u64 z0, .int .u64 z1]
  | _ => v = .agg #[.int .u64 n0, .int .u64 n1]
theorem AtR.keep {b off len cap k g3 g5 : Nat} {x0 x1 o0 o1 m0 m1 z0 z1 n0 n1 : Int} {sl : Nat} {v : Value} {W W' : World} (h : AtR b off len cap k g3 g5 x0 x1 o0 o1 m0 m1 z0 z1 n0 n1 sl v W) (hb : Below W.heap.size W W') : AtR b off len cap k g3 g5 x0 x1 o0 o1 m0 m1 z0 z1 n0 n1 sl v W' := h

def AtDown (w : World) (l : List F2) (x : F2) (len : Nat) (x0 x1 : Int) (i : Value) (W : World) : Prop :=
  ∃ n : Nat, n ≤ len ∧ i = .int .i64 ((n : Int) - 1) ∧ Below w.heap.size w W ∧ Var W w.heap.size x0 x1 ∧ Var W (w.heap.size + 1) 0 0 ∧ Var W (w.heap.size + 1 + 1) (enc (hq len (cq l) x n).a) (enc (hq len (cq l) x n).b)
set_option maxHeartbeats 4000000 in
theorem rat_a (a : Option Addr) (cap : Nat) (l : List F2) (x0 x1 : Int) (x y : F2) (w : World) (h : PolyA w a l.length l) (hx : Rep x0 x1 x) (hl : l.length ≤ 4294967296) (hy : qe l.length (cq l) x = y) :
    Calls Try.prog 24 #[.slice a l.length cap, .agg #[.int .u64 x0, .int .u64 x1]] w fun e w' => e = .returned (.agg #[.int .u64 (enc y.a), .int .u64 (enc y.b)]) ∧ Below w.heap.size w w' := by
  subst hy
  obtain ⟨_, hm, hc⟩ := h
  unfold maxLen at hm
  have HC := Lib.hid hc
  have hS := Lib.hid (hq_step l.length (cq l) x); have hE := Lib.hid (hq_end l.length (cq l) x); have hZ := Lib.hid (hq_zero l.length (cq l) x)
  clear hc
  generalize hL : l.length = len at *
  have hL1 : (len : Int) ≤ 4294967296 := by omega
  clear hL
  go_enter Try.func24, Try.ntmps24
  go_upto_region 3 with fail
  go_loopw [6] (AtDown w l x len x0 x1) (fun i _ => (intOf i + 1).toNat)
  case atStart =>
    refine ⟨len, Nat.le_refl _, rfl, (((Below.refl _ _).alloc (Nat.le_refl _) _).alloc (by simp) _).alloc (by simp; omega) _, ((Var.new w x0 x1 _).alloc _).alloc _, ?_, ?_⟩
    · have := (Var.new (w.alloc (.cells #[.int .u64 x0, .int .u64 x1] 29)) 0 0 29).alloc (.cells #[.int .u64 0, .int .u64 0] 29)
      simpa using this
    · rw [hE.out len (Nat.le_refl _), show enc (0 : F2).a = 0 from rfl, show enc (0 : F2).b = 0 from rfl]
      have := Var.new ((w.alloc (.cells #[.int .u64 x0, .int .u64 x1] 29)).alloc (.cells #[.int .u64 0, .int .u64 0] 29)) 0 0 29
      simpa using this
  case round =>
    obtain ⟨n, hn, rfl, hB, hX, hZ0, hO⟩ := hrel
    rcases Nat.eq_zero_or_pos n with hn0 | hn0
    · subst hn0
      rw [hZ.out] at hO
      have p0 : ((0 : Nat) : Int) - 1 = -1 := by omega
      rw [p0]
      obtain ⟨c0, c1, f0, f1⟩ := hO
      obtain ⟨d0, d1, e0, e1⟩ := hZ0
      clear hX
      go_wp2
      exact bodyPost_ret (v := .agg #[.int .u64 (enc (qe len (cq l) x).a), .int .u64 (enc (qe len (cq l) x).b)]) (by simp [results, Try.results24, go_sem, d0, d1]) rfl ⟨rfl, (hB.setCell (by simp) _).setCell (by simp) _⟩
    · obtain ⟨k, rfl⟩ : ∃ k, n = k + 1 := ⟨n - 1, by omega⟩
      have p1 : ((k + 1 : Nat) : Int) - 1 = (k : Int) := by omega
      rw [p1]
      obtain ⟨b, off, z0, z1, rfl, g0, g1, hR⟩ := HC.out k (by omega)
      replace g0 := bkeep hB g0
      replace g1 := bkeep hB g1
      have e := hS.out k (by omega)
      generalize hq len (cq l) x (k + 1) = o at *
      generalize hO' : hq len (cq l) x k = o' at *
      obtain ⟨m, hmm⟩ : ∃ m, o * x = m := ⟨_, rfl⟩
      rw [hmm] at e
      have m1 := rmul_q (enc o.a) (enc o.b) x0 x1 o x m (rep_enc o) hx hmm
      have a1 := radd_q (enc m.a) (enc m.b) z0 z1 m (cq l k) o' (rep_enc m) hR e.symm
      have HO' := Lib.hid hO'
      have HXX := Lib.hid hX; have HOO := Lib.hid hO; have HZ0 := Lib.hid hZ0; have HB := Lib.hid hB
      obtain ⟨x0c, x1c, _, _⟩ := hX
      obtain ⟨o0c, o1c, _, _⟩ := hO
      have hk1 : (k : Int) < (len : Int) := by omega
      have hk0 : (0 : Int) ≤ (k : Int) := by omega
      clear e hmm hO' hR hZ0 hB p1 hn0
      go_upto_region 5 with fail
      refine wp_loose [(14, []), (15, []), (16, [14, 15]), (17, []), (18, []), (19, [17, 18]), (20, [19]), (21, [16, 20])]
        (AtR b off len cap k w.heap.size (w.heap.size + 1 + 1) x0 x1 (enc o.a) (enc o.b) (enc m.a) (enc m.b) z0 z1 (enc o'.a) (enc o'.b)) (fun d => false) (by kernel_rfl) (by kernel_rfl) (fun _ _ _ _ h hb => h.keep hb) ?_ ?_
      · refine opsrun_cons ?_ (opsrun_cons ?_ (opsrun_cons ?_ (opsrun_cons ?_ (opsrun_cons ?_ (opsrun_cons ?_ (opsrun_cons ?_ (opsrun_cons ?_ opsrun_nil)))))))
        all_goals
          refine OpRuns.any ?_
          intro Q0 σ W' K hb hn hK
          simp only [fill, List.map, Act.put, List.setIfInBounds_toArray, List.set_cons_zero, List.set_cons_succ] at hK ⊢
        · clear hn
          have o0c' := bkeep hb o0c
          have o1c' := bkeep hb o1c
          clear o0c o1c
          go_simp
          exact hK _ _ rfl (Below.refl _ _) (fun h => absurd h (by decide))
        · clear hn
          have x0c' := bkeep hb x0c
          have x1c' := bkeep hb x1c
          clear x0c x1c
          go_simp
          exact hK _ _ rfl (Below.refl _ _) (fun h => absurd h (by decide))
        · have h14 : σ 14 = _ := hn 14 (by decide)
          have h15 : σ 15 = _ := hn 15 (by decide)
          clear hn
          simp only [h14, h15] at hK
          go_simp
          go_at_call 22
          refine (m1 _).mono ?_
          rintro e w1 ⟨rfl, hb1⟩
          exact hK _ _ rfl hb1 (fun h => absurd h (by decide))
        · clear hn
          go_simp
          exact hK _ _ rfl (Below.refl _ _) (fun h => absurd h (by decide))
        · clear hn
          go_simp
          exact hK _ _ rfl (Below.refl _ _) (fun h => absurd h (by decide))
        · have h17 : σ 17 = _ := hn 17 (by decide)
          have h18 : σ 18 = _ := hn 18 (by decide)
          clear hn
          simp only [h17, h18] at hK
          go_simp
          exact hK _ _ rfl (Below.refl _ _) (fun h => absurd h (by decide))
        · have h19 : σ 19 = _ := hn 19 (by decide)
          clear hn
          simp only [h19] at hK
          have g0' := bkeep hb g0
          have g1' := bkeep hb g1
          clear g0 g1
          go_simp
          exact hK _ _ rfl (Below.refl _ _) (fun h => absurd h (by decide))
        · have h16 : σ 16 = _ := hn 16 (by decide)
          have h20 : σ 20 = _ := hn 20 (by decide)
          clear hn
          simp only [h16, h20] at hK
          go_simp
          go_at_call 21
          refine (a1 _).mono ?_
          rintro e w1 ⟨rfl, hb1⟩
          exact hK _ _ rfl hb1 (fun h => absurd h (by decide))
      · intro σ W' hb hR' hF
        have h21 : σ 21 = _ := hR' 21 (by decide)
        replace HB := Lib.hid (bthen HB.out hb)
        have hX := HXX.out.keep hb
        have hO := HOO.out.keep hb
        have hZ0 := HZ0.out.keep hb
        have HO := Lib.hid hO; have HX := Lib.hid hX; have HZZ := Lib.hid hZ0
        obtain ⟨c0, c1, f0, f1⟩ := hO
        clear hR' hF hX hZ0 x0c x1c o0c o1c g0 g1 hb m1 a1
        simp only [fill, List.map, Act.put, List.setIfInBounds_toArray, List.set_cons_zero, List.set_cons_succ, List.length_cons, List.length_nil, List.drop_succ_cons, List.drop_zero, Nat.reduceAdd, h21]
        clear h21
        go_wp2_with fail
        go_roundw
        case rel => exact ⟨k, by omega, by rfl, (HB.out.setCell (by show w.heap.size ≤ w.heap.size + 1 + 1; omega) _).setCell (by show w.heap.size ≤ w.heap.size + 1 + 1; omega) _, (HX.out.far (by omega) _ _).far (by omega) _ _, (HZZ.out.far (by omega) _ _).far (by omega) _ _, by rw [HO'.out]; exact HO.out.set _ _⟩
        case measure => simp [intOf]
theorem rat (v : Value) (l : List F2) (x0 x1 : Int) (x y : F2) (w : World) (h : Poly w v l) (hx : Rep x0 x1 x) (hl : l.length ≤ 4294967296) (hy : qe l.length (cq l) x = y) :
    Calls Try.prog 24 #[v, .agg #[.int .u64 x0, .int .u64 x1]] w fun e w' => e = .returned (.agg #[.int .u64 (enc y.a), .int .u64 (enc y.b)]) ∧ Below w.heap.size w w' := by
  obtain ⟨a, cap, rfl⟩ := h.slice
  exact rat_a a cap l x0 x1 x y w h.at hx hl hy
def PScaleR (g n b off cap k : Nat) (x0 x1 z0 z1 m0 m1 : Int) (sl : Nat) (v : Value) (W : World) : Prop :=
  match sl with
  | 16 => v = .slice (some ⟨g, 0, none⟩) n n
  | 17 => v = .int .i64 k
  | 18 => v = .slice (some ⟨b, off, none⟩) n cap
  | 19 => v = .int .i64 k
  | 20 => v = .pointer (some ⟨b, off + k * 2, none⟩)
  | 21 => v = .agg #[.int .u64 z0, .int .u64 z1]
  | 22 => v = .agg #[.int .u64 x0, .int .u64 x1]
  | 23 => v = .agg #[.int .u64 m0, .int .u64 m1]
  | _ => v = .pointer (some ⟨g, k * 2, none⟩)
theorem PScaleR.keep {g n b off cap k : Nat} {x0 x1 z0 z1 m0 m1 : Int} {sl : Nat} {v : Value} {W W' : World} (h : PScaleR g n b off cap k x0 x1 z0 z1 m0 m1 sl v W) (hb : Below W.heap.size W W') : PScaleR g n b off cap k x0 x1 z0 z1 m0 m1 sl v W' := h

def ScaleUp (w : World) (n : Nat) (f : Nat → F2) (x0 x1 : Int) (i : Value) (W : World) : Prop :=
  ∃ m : Nat, m ≤ n ∧ i = .int .i64 m ∧ Below w.heap.size w W ∧ Var W w.heap.size x0 x1 ∧ Arr W (w.heap.size + 1) (n * 2) (pc (prt f m))
set_option maxHeartbeats 4000000 in
theorem rscaleP (v : Value) (l : List F2) (x0 x1 : Int) (x : F2) (w : World) (h : Poly w v l) (hx : Rep x0 x1 x) (hl : l.length ≤ 4294967296) :
    Calls Try.prog 47 #[v, .agg #[.int .u64 x0, .int .u64 x1]] w (RetF (pl l.length (fun i => cq l i * x)) w) := by
  have hup : Upto l.length (fun i => cq l i * x) := fun i hi => by dsimp only; rw [cq_upto l i hi, F2.zero_mul]
  have HPL := Lib.hid (pl_mk hup)
  have HTR : Hid (∀ (W : World) (g : Nat), Arr W g (l.length * 2) (pc fun j => encP (cq l j * x)) → Calls Try.prog 61 #[.slice (some ⟨g, 0, none⟩) l.length l.length] W (RetF (pl l.length (fun i => cq l i * x)) W)) := Lib.hid (fun W g hA => by
    have := rtrim_new _ (mk l.length (fun i => cq l i * x)) W (hA.isP (Nat.le_refl _) (by unfold maxLen; omega)).poly (by rw [mk_len]; exact hl)
    rw [HPL.out] at this
    exact this)
  obtain ⟨a, cap, rfl⟩ := h.slice
  obtain ⟨_, hm, hc⟩ := h.at
  unfold maxLen at hm
  have hmk := fun W => run_make_pairs (P := Try.prog) 23 29 (.agg #[.int .u64 0, .int .u64 0]) Try.underlying23 infoQ5 rfl l.length hl W
  have HC := Lib.hid hc
  clear hc h hup HPL
  generalize hL : l.length = len at *
  have hL1 : (len : Int) ≤ 4294967296 := by omega
  clear hL
  go_enter Try.func47, Try.ntmps47
  go_upto_region 3 with fail
  go_loopw [6] (ScaleUp w len (fun i => cq l i * x) x0 x1) (fun i _ => len - (intOf i).toNat)
  case atStart =>
    refine ⟨0, Nat.zero_le _, rfl, ((Below.refl _ _).alloc (Nat.le_refl _) _).alloc (by simp) _, (Var.new w x0 x1 _).alloc _, ?_⟩
    have := (Arr.newq (w.alloc (.cells #[.int .u64 x0, .int .u64 x1] 29)) len 29).same (pc_same (y := prt (fun i => cq l i * x) 0) (fun i _ => by unfold prt; rw [if_neg (by omega)]))
    simpa using this
  case round =>
    obtain ⟨k, hk, rfl, hB, hX, hA⟩ := hrel
    by_cases hlt : k < len
    · obtain ⟨b, off, z0, z1, rfl, g0, g1, hR⟩ := HC.out k hlt
      replace g0 := bkeep hB g0
      replace g1 := bkeep hB g1
      obtain ⟨m, hmm⟩ : ∃ m, cq l k * x = m := ⟨_, rfl⟩
      have m1 := rmul_q z0 z1 x0 x1 (cq l k) x m hR hx hmm
      have HST := Lib.hid (prt_step (f := fun i => cq l i * x) (m := k) hmm)
      have HXX := Lib.hid hX; have HB := Lib.hid hB; have HA := Lib.hid hA
      obtain ⟨x0c, x1c, _, _⟩ := hX
      have hk1 : (k : Int) < (len : Int) := by omega
      have hk0 : (0 : Int) ≤ (k : Int) := by omega
      clear hR hB hA hmm hmk
      go_upto_region 5 with fail
      refine wp_loose [(16, []), (17, []), (18, []), (19, []), (20, [18, 19]), (21, [20]), (22, []), (23, [21, 22]), (24, [16, 17])]
        (PScaleR (w.heap.size + 1) len b off cap k x0 x1 z0 z1 (enc m.a) (enc m.b)) (fun d => false) (by kernel_rfl) (by kernel_rfl) (fun _ _ _ _ h hb => h.keep hb) ?_ ?_
      · refine opsrun_cons ?_ (opsrun_cons ?_ (opsrun_cons ?_ (opsrun_cons ?_ (opsrun_cons ?_ (opsrun_cons ?_ (opsrun_cons ?_ (opsrun_cons ?_ (opsrun_cons ?_ opsrun_nil))))))))
        all_goals
          refine OpRuns.any ?_
          intro Q0 σ W' K hb hn hK
          simp only [fill, List.map, Act.put, List.setIfInBounds_toArray, List.set_cons_zero, List.set_cons_succ] at hK ⊢
        · clear hn
          go_simp
          exact hK _ _ rfl (Below.refl _ _) (fun h => absurd h (by decide))
        · clear hn
          go_simp
          exact hK _ _ rfl (Below.refl _ _) (fun h => absurd h (by decide))
        · clear hn
          go_simp
          exact hK _ _ rfl (Below.refl _ _) (fun h => absurd h (by decide))
        · clear hn
          go_simp
          exact hK _ _ rfl (Below.refl _ _) (fun h => absurd h (by decide))
        · have h18 : σ 18 = _ := hn 18 (by decide)
          have h19 : σ 19 = _ := hn 19 (by decide)
          clear hn
          simp only [h18, h19] at hK
          go_simp
          exact hK _ _ rfl (Below.refl _ _) (fun h => absurd h (by decide))
        · have h20 : σ 20 = _ := hn 20 (by decide)
          clear hn
          simp only [h20] at hK
          have g0' := bkeep hb g0
          have g1' := bkeep hb g1
          clear g0 g1
          go_simp
          exact hK _ _ rfl (Below.refl _ _) (fun h => absurd h (by decide))
        · clear hn
          have x0c' := bkeep hb x0c
          have x1c' := bkeep hb x1c
          clear x0c x1c
          go_simp
          exact hK _ _ rfl (Below.refl _ _) (fun h => absurd h (by decide))
        · have h21 : σ 21 = _ := hn 21 (by decide)
          have h22 : σ 22 = _ := hn 22 (by decide)
          clear hn
          simp only [h21, h22] at hK
          go_simp
          go_at_call 22
          refine (m1 _).mono ?_
          rintro e w1 ⟨rfl, hb1⟩
          exact hK _ _ rfl hb1 (fun h => absurd h (by decide))
        · have h16 : σ 16 = _ := hn 16 (by decide)
          have h17 : σ 17 = _ := hn 17 (by decide)
          clear hn
          simp only [h16, h17] at hK
          go_simp
          exact hK _ _ rfl (Below.refl _ _) (fun h => absurd h (by decide))
      · intro σ W' hb hR' hF
        have h23 : σ 23 = _ := hR' 23 (by decide)
        have h24 : σ 24 = _ := hR' 24 (by decide)
        replace HB := Lib.hid (bthen HB.out hb)
        have HX := Lib.hid (HXX.out.keep hb)
        have hA := HA.out.keep hb
        obtain ⟨c0, c1, f0, f1⟩ := hA.cells k hlt
        have HA2 := Lib.hid ((hA.setq k (enc m.a) (enc m.b) hlt).same (pc_same fun j _ => HST.out j))
        clear hR' hF hA x0c x1c g0 g1 hb m1
        simp only [fill, List.map, Act.put, List.setIfInBounds_toArray, List.set_cons_zero, List.set_cons_succ, List.length_cons, List.length_nil, List.drop_succ_cons, List.drop_zero, Nat.reduceAdd, h23, h24]
        clear h23 h24
        go_wp2_with fail
        go_roundw
        case rel => exact ⟨k + 1, by omega, by go_num, (HB.out.setCell (by show w.heap.size ≤ w.heap.size + 1; omega) _).setCell (by show w.heap.size ≤ w.heap.size + 1; omega) _, (HX.out.far (by omega) _ _).far (by omega) _ _, HA2.out⟩
        case measure => simp [intOf]; omega
    · have hkn : k = len := by omega
      subst hkn
      have T := HTR.out wr _ (hA.same (pc_same (prt_all _ _)))
      have HB := Lib.hid hB
      clear hA hB hX hmk
      go_wp2_with ((go_at_call 61; ((with_reducible refine T.mono ?_); rintro e w1 ⟨v1, rfl, hb, hp, hfr⟩; have HB2 := Lib.hid (bthen HB.out hb); have HP := Lib.hid hp; have HFR := Lib.hid (hfr.less HB.out.size); clear hb hp hfr T)))
      go_ret
      exact ⟨_, rfl, HB2.out, HP.out, HFR.out⟩
end Go.Proofs.Ytlgfnlkblehlbaa
