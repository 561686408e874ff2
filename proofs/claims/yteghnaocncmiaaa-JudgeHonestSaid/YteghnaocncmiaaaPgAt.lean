/-
  What the program's At and Lift of package poly come to: contracts for the walk. (At is written by gen_pat.py, of XPolyRef's.)
-/
import Derived.Test.YteghnaocncmiaaaPgTrim
namespace Go.Proofs.Yteghnaocncmiaaa
open Go.RowKit
set_option linter.unusedVariables false

def PAtR (b off len cap k g3 g5 : Nat) (x0 x1 o0 o1 m0 m1 z0 z1 n0 n1 : Int) (sl : Nat) (v : Value) (W : World) : Prop :=
  match sl with
  | 15 => v = .agg #[.int .u64 o0, .int .u64 o1]
  | 16 => v = .agg #[.int .u64 x0, .int .u64 x1]
  | 17 => v = .agg #[.int .u64 m0, .int .u64 m1]
  | 18 => v = .slice (some ⟨b, off, none⟩) len cap
  | 19 => v = .int .i64 k
  | 20 => v = .pointer (some ⟨b, off + k * 2, none⟩)
  | 21 => v = .agg #[.int .u64 z0, .int .u64 z1]
  | _ => v = .agg #[.int .u64 n0, .int .u64 n1]
theorem PAtR.keep {b off len cap k g3 g5 : Nat} {x0 x1 o0 o1 m0 m1 z0 z1 n0 n1 : Int} {sl : Nat} {v : Value} {W W' : World} (h : PAtR b off len cap k g3 g5 x0 x1 o0 o1 m0 m1 z0 z1 n0 n1 sl v W) (hb : Below W.heap.size W W') : PAtR b off len cap k g3 g5 x0 x1 o0 o1 m0 m1 z0 z1 n0 n1 sl v W' := h

set_option maxHeartbeats 4000000 in
theorem pat_any (a : Option Addr) (len cap : Nat) (l : List F2) (x0 x1 : Int) (x y : F2) (w : World) (h : PolyA w a len l) (hx : Rep x0 x1 x) (hl : len ≤ 4294967296) (hy : qe l.length (cq l) x = y) :
    Calls Try.prog 38 #[.slice a len cap, .agg #[.int .u64 x0, .int .u64 x1]] w fun e w' => e = .returned (.agg #[.int .u64 (enc y.a), .int .u64 (enc y.b)]) ∧ Below w.heap.size w w' := by
  subst hy
  obtain ⟨hL, hm, hc⟩ := h
  subst hL
  unfold maxLen at hm
  have HC := Lib.hid hc
  have hS := Lib.hid (hq_step l.length (cq l) x); have hE := Lib.hid (hq_end l.length (cq l) x); have hZ := Lib.hid (hq_zero l.length (cq l) x)
  clear hc
  generalize hL : l.length = len at *
  have hL1 : (len : Int) ≤ 4294967296 := by omega
  clear hL
  go_enter Try.func38, Try.ntmps38
  go_upto_region 3 with fail
  go_loopw [6] (AtDown w l x len x0 x1) (fun i _ => (intOf i + 1).toNat)
  case atStart =>
    refine ⟨len, Nat.le_refl _, rfl, (((Below.refl _ _).alloc (Nat.le_refl _) _).alloc (by simp) _).alloc (by simp; omega) _, ((Var.new w x0 x1 _).alloc _).alloc _, ?_, ?_⟩
    · have := (Var.new (w.alloc (.cells #[.int .u64 x0, .int .u64 x1] 27)) 0 0 27).alloc (.cells #[.int .u64 0, .int .u64 0] 27)
      simpa using this
    · rw [hE.out len (Nat.le_refl _), show enc (0 : F2).a = 0 from rfl, show enc (0 : F2).b = 0 from rfl]
      have := Var.new ((w.alloc (.cells #[.int .u64 x0, .int .u64 x1] 27)).alloc (.cells #[.int .u64 0, .int .u64 0] 27)) 0 0 27
      simpa using this
  case round =>
    obtain ⟨n, hn, rfl, hB, hX, hZ0, hO⟩ := hrel
    rcases Nat.eq_zero_or_pos n with hn0 | hn0
    · subst hn0
      rw [hZ.out] at hO
      have p0 : ((0 : Nat) : Int) - 1 = -1 := by omega
      rw [p0]
      obtain ⟨c0, c1, f0, f1⟩ := hO
      obtain ⟨d0, d1, e0, e1⟩ := hZ0
      clear hX
      go_wp2
      exact bodyPost_ret (v := .agg #[.int .u64 (enc (qe len (cq l) x).a), .int .u64 (enc (qe len (cq l) x).b)]) (by simp [results, Try.results38, go_sem, d0, d1]) rfl ⟨rfl, (hB.setCell (by simp) _).setCell (by simp) _⟩
    · obtain ⟨k, rfl⟩ : ∃ k, n = k + 1 := ⟨n - 1, by omega⟩
      have p1 : ((k + 1 : Nat) : Int) - 1 = (k : Int) := by omega
      rw [p1]
      obtain ⟨b, off, z0, z1, rfl, g0, g1, hR⟩ := HC.out k (by omega)
      replace g0 := bkeep hB g0
      replace g1 := bkeep hB g1
      have e := hS.out k (by omega)
      generalize hq len (cq l) x (k + 1) = o at *
      generalize hO' : hq len (cq l) x k = o' at *
      obtain ⟨m, hmm⟩ : ∃ m, o * x = m := ⟨_, rfl⟩
      rw [hmm] at e
      have m1 := pmul_q (enc o.a) (enc o.b) x0 x1 o x m (rep_enc o) hx hmm
      have a1 := padd_q (enc m.a) (enc m.b) z0 z1 m (cq l k) o' (rep_enc m) hR e.symm
      have HO' := Lib.hid hO'
      have HXX := Lib.hid hX; have HOO := Lib.hid hO; have HZ0 := Lib.hid hZ0; have HB := Lib.hid hB
      obtain ⟨x0c, x1c, _, _⟩ := hX
      obtain ⟨o0c, o1c, _, _⟩ := hO
      have hk1 : (k : Int) < (len : Int) := by omega
      have hk0 : (0 : Int) ≤ (k : Int) := by omega
      clear e hmm hO' hR hZ0 hB p1 hn0
      go_upto_region 5 with fail
      refine wp_loose [(15, []), (16, []), (17, [15, 16]), (18, []), (19, []), (20, [18, 19]), (21, [20]), (22, [17, 21])]
        (PAtR b off len cap k w.heap.size (w.heap.size + 1 + 1) x0 x1 (enc o.a) (enc o.b) (enc m.a) (enc m.b) z0 z1 (enc o'.a) (enc o'.b)) (fun d => false) (by kernel_rfl) (by kernel_rfl) (fun _ _ _ _ h hb => h.keep hb) ?_ ?_
      · refine opsrun_cons ?_ (opsrun_cons ?_ (opsrun_cons ?_ (opsrun_cons ?_ (opsrun_cons ?_ (opsrun_cons ?_ (opsrun_cons ?_ (opsrun_cons ?_ opsrun_nil)))))))
        all_goals
          refine OpRuns.any ?_
          intro Q0 σ W' K hb hn hK
          simp only [fill, List.map, Act.put, List.setIfInBounds_toArray, List.set_cons_zero, List.set_cons_succ] at hK ⊢
        · clear hn
          have o0c' := bkeep hb o0c
          have o1c' := bkeep hb o1c
          clear o0c o1c
          go_simp
          exact hK _ _ rfl (Below.refl _ _) (fun h => absurd h (by decide))
        · clear hn
          have x0c' := bkeep hb x0c
          have x1c' := bkeep hb x1c
          clear x0c x1c
          go_simp
          exact hK _ _ rfl (Below.refl _ _) (fun h => absurd h (by decide))
        · have h15 : σ 15 = _ := hn 15 (by decide)
          have h16 : σ 16 = _ := hn 16 (by decide)
          clear hn
          simp only [h15, h16] at hK
          go_simp
          go_at_call 53
          refine (m1 _).mono ?_
          rintro e w1 ⟨rfl, hb1⟩
          exact hK _ _ rfl hb1 (fun h => absurd h (by decide))
        · clear hn
          go_simp
          exact hK _ _ rfl (Below.refl _ _) (fun h => absurd h (by decide))
        · clear hn
          go_simp
          exact hK _ _ rfl (Below.refl _ _) (fun h => absurd h (by decide))
        · have h18 : σ 18 = _ := hn 18 (by decide)
          have h19 : σ 19 = _ := hn 19 (by decide)
          clear hn
          simp only [h18, h19] at hK
          go_simp
          exact hK _ _ rfl (Below.refl _ _) (fun h => absurd h (by decide))
        · have h20 : σ 20 = _ := hn 20 (by decide)
          clear hn
          simp only [h20] at hK
          have g0' := bkeep hb g0
          have g1' := bkeep hb g1
          clear g0 g1
          go_simp
          exact hK _ _ rfl (Below.refl _ _) (fun h => absurd h (by decide))
        · have h17 : σ 17 = _ := hn 17 (by decide)
          have h21 : σ 21 = _ := hn 21 (by decide)
          clear hn
          simp only [h17, h21] at hK
          go_simp
          go_at_call 52
          refine (a1 _).mono ?_
          rintro e w1 ⟨rfl, hb1⟩
          exact hK _ _ rfl hb1 (fun h => absurd h (by decide))
      · intro σ W' hb hR' hF
        have h22 : σ 22 = _ := hR' 22 (by decide)
        replace HB := Lib.hid (bthen HB.out hb)
        have hX := HXX.out.keep hb
        have hO := HOO.out.keep hb
        have hZ0 := HZ0.out.keep hb
        have HO := Lib.hid hO; have HX := Lib.hid hX; have HZZ := Lib.hid hZ0
        obtain ⟨c0, c1, f0, f1⟩ := hO
        clear hR' hF hX hZ0 x0c x1c o0c o1c g0 g1 hb m1 a1
        simp only [fill, List.map, Act.put, List.setIfInBounds_toArray, List.set_cons_zero, List.set_cons_succ, List.length_cons, List.length_nil, List.drop_succ_cons, List.drop_zero, Nat.reduceAdd, h22]
        clear h22
        go_wp2_with fail
        go_roundw
        case rel => exact ⟨k, by omega, by rfl, (HB.out.setCell (by show w.heap.size ≤ w.heap.size + 1 + 1; omega) _).setCell (by show w.heap.size ≤ w.heap.size + 1 + 1; omega) _, (HX.out.far (by omega) _ _).far (by omega) _ _, (HZZ.out.far (by omega) _ _).far (by omega) _ _, by rw [HO'.out]; exact HO.out.set _ _⟩
        case measure => simp [intOf]

theorem pat (v : Value) (l : List F2) (x0 x1 : Int) (x y : F2) (w : World) (h : Poly w v l) (hx : Rep x0 x1 x) (hl : l.length ≤ 4294967296) (hy : qe l.length (cq l) x = y) :
    Calls Try.prog 38 #[v, .agg #[.int .u64 x0, .int .u64 x1]] w fun e w' => e = .returned (.agg #[.int .u64 (enc y.a), .int .u64 (enc y.b)]) ∧ Below w.heap.size w w' := by
  obtain ⟨a, cap, rfl⟩ := h.slice
  exact pat_any a l.length cap l x0 x1 x y w h.at hx hl hy
theorem pat_is (v : Value) (l : List F2) (x0 x1 : Int) (x : F2) (w : World) (h : Poly w v l) (hx : Rep x0 x1 x) (hl : l.length ≤ 4294967296) : Calls Try.prog 38 #[v, .agg #[.int .u64 x0, .int .u64 x1]] w (RetQ (atP l x) w) := pat v l x0 x1 x _ w h hx hl rfl
def PLiftUp (w : World) (n : Nat) (f : Nat → F2) (i : Value) (W : World) : Prop := ∃ m : Nat, m ≤ n ∧ i = .int .i64 m ∧ Below w.heap.size w W ∧ Arr W w.heap.size (n * 2) (pc (prt f m))
theorem liftL_at (zs : List Int) (k : Nat) (h : k < zs.length) : cq (liftL zs) k = lift (toF (zs.getD k 0)) := by
  unfold cq liftL
  simp [List.getD, h]
end Go.Proofs.Yteghnaocncmiaaa
