/-
  What the method butterflies comes to: one stage.
-/
import Derived.Test.YtflabonifbhmnaaDoorNttRise
import Derived.Test.YtflabonifbhmnaaDoorButter
import Derived.Test.YtflabonifbhmnaaDoorRootLog
import Derived.Test.YtflabonifbhmnaaDoorPtsRef
import Derived.Test.YtflabonifbhmnaaDoorTwo
import Derived.Deep.QuietTactic
import Derived.BigQuiet
import Derived.IntWalk
import Derived.Deep.RegionHeld3
import Derived.Deep.DeepCutAuto
namespace Go.Proofs.YtflabonifbhmnaaDoor
open Go.RowKit
set_option linter.unusedVariables false

/-- The three functions of a kind, in their cells. -/
def K3 (W : World) (b : Nat) (f0 f1 f2 : Value) : Prop := W.cell? ⟨b, 0, none⟩ = some f0 ∧ W.cell? ⟨b, 1, none⟩ = some f1 ∧ W.cell? ⟨b, 2, none⟩ = some f2
theorem K3.keep {W w1 : World} {b : Nat} {f0 f1 f2 : Value} (h : K3 W b f0 f1 f2) (hb : Below W.heap.size W w1) : K3 w1 b f0 f1 f2 := ⟨bkeep hb h.1, bkeep hb h.2.1, bkeep hb h.2.2⟩
theorem K3.far {W : World} {b g : Nat} {f0 f1 f2 : Value} (h : K3 W b f0 f1 f2) (hg : g ≠ b) (o : Nat) (v : Value) : K3 (W.setCell ⟨g, o, none⟩ v) b f0 f1 f2 :=
  ⟨(World.cell?_setCell_far _ _ _ _ hg).trans h.1, (World.cell?_setCell_far _ _ _ _ hg).trans h.2.1, (World.cell?_setCell_far _ _ _ _ hg).trans h.2.2⟩
theorem K3.but {W w1 : World} {b g : Nat} {f0 f1 f2 : Value} (h : K3 W b f0 f1 f2) (hB : But g W w1) (hg : b ≠ g) : K3 w1 b f0 f1 f2 := ⟨hB.keep h.1 hg, hB.keep h.2.1 hg, hB.keep h.2.2 hg⟩
theorem K3.new (W : World) (f0 f1 f2 : Value) (t : TypeId) : K3 (W.alloc (.cells #[f0, f1, f2] t)) W.heap.size f0 f1 f2 := by simp [K3, go_sem]

/-- A stage under way, of numbers and of pairs. -/
abbrev bfU (h : Nat) (c : F) (x : Nat → F) (j t : Nat) : Nat → F := bfp (· + ·) (· - ·) (· * ·) h c x j t
abbrev bfQ (h : Nat) (c : F) (x : Nat → F2) (j t : Nat) : Nat → F2 := bfp (· + ·) (· - ·) scale h c x j t
theorem fly_set {cc : Bool} {W : World} {g n h j t p q : Nat} {c : F} {x : Nat → F} {z : Nat → Int} (hA : Arr W g n (fun i => .int .u64 (z i))) (hz : ∀ i, i < n → Num cc (z i) (bfU h c x j t i)) (hj : j < h) (hp : p = j + t * (2 * h)) (hq : q = p + h) (hn : q < n) :
    ArrF cc ((W.setCell ⟨g, p, none⟩ (.int .u64 (enc (x p + x q * fpow c j)))).setCell ⟨g, q, none⟩ (.int .u64 (enc (x p - x q * fpow c j)))) g n (bfU h c x j (t + 1)) := by
  subst hp hq
  refine ⟨fun i => if i = j + t * (2 * h) + h then enc (x (j + t * (2 * h)) - x (j + t * (2 * h) + h) * fpow c j) else if i = j + t * (2 * h) then enc (x (j + t * (2 * h)) + x (j + t * (2 * h) + h) * fpow c j) else z i, ((hA.set _ _ (by omega)).set _ _ hn).same (fun i hi => ?_), fun i hi => ?_⟩
  · dsimp only
    split
    · rfl
    · split <;> rfl
  · have := bfp_step (· + ·) (· - ·) (· * ·) h c x j t hj i
    show Num _ _ (bfp _ _ _ _ _ _ _ _ _)
    rw [this]
    dsimp only
    by_cases c1 : i = j + t * (2 * h) + h
    · rw [if_pos c1, if_pos c1]; exact num_enc _ _
    · rw [if_neg c1, if_neg c1]
      by_cases c2 : i = j + t * (2 * h)
      · rw [if_pos c2, if_pos c2]; exact num_enc _ _
      · rw [if_neg c2, if_neg c2]; exact hz i hi
theorem fly_setq {cc : Bool} {W : World} {g n h j t p q : Nat} {c : F} {x : Nat → F2} {z : Nat → Int × Int} {a s : F2} (hA : Arr W g (n * 2) (pc fun i => if true = true ∧ i = p then (enc a.a, enc a.b) else z i)) (hz : ∀ i, i < n → NumQ cc (z i) (bfQ h c x j t i)) (hj : j < h) (hp : p = j + t * (2 * h)) (hq : q = p + h) (hn : q < n)
    (ha : x p + scale (x q) (fpow c j) = a) (hs : x p - scale (x q) (fpow c j) = s) :
    ArrQ cc ((W.setCell ⟨g, q * 2, none⟩ (.int .u64 (enc s.a))).setCell ⟨g, q * 2 + 1, none⟩ (.int .u64 (enc s.b))) g n (bfQ h c x j (t + 1)) := by
  subst hp hq ha hs
  refine ⟨_, hA.setq _ _ _ hn, fun i hi => ?_⟩
  have := bfp_step (· + ·) (· - ·) scale h c x j t hj i
  show NumQ _ _ (bfp _ _ _ _ _ _ _ _ _)
  rw [this]
  by_cases c1 : i = j + t * (2 * h) + h
  · simp only [if_pos c1]; exact numq_enc _ _
  · simp only [if_neg c1]
    by_cases c2 : i = j + t * (2 * h)
    · simp only [c2, and_self, if_true]; exact numq_enc _ _
    · simp only [c2, and_false, if_false]; exact hz i hi

def FlyOut (cc : Bool) (w : World) (g n h : Nat) (c : F) (x : Nat → F) (y i : Value) (W : World) : Prop :=
  ∃ j : Nat, j ≤ h ∧ i = .int .i64 j ∧ y = .int .u64 (enc (fpow c j)) ∧ But g w W ∧ w.heap.size < W.heap.size ∧ K3 W w.heap.size addU subU mulU' ∧ ArrF cc W g n (bfU h c x j 0)
def FlyIn (cc : Bool) (w : World) (g n h T : Nat) (c : F) (x : Nat → F) (j : Nat) (i : Value) (W : World) : Prop :=
  ∃ t p : Nat, t ≤ T ∧ p = j + t * (2 * h) ∧ i = .int .i64 p ∧ But g w W ∧ w.heap.size < W.heap.size ∧ K3 W w.heap.size addU subU mulU' ∧ ArrF cc W g n (bfU h c x j t)
def FlyOutQ (cc : Bool) (w : World) (g n h : Nat) (c : F) (x : Nat → F2) (y i : Value) (W : World) : Prop :=
  ∃ j : Nat, j ≤ h ∧ i = .int .i64 j ∧ y = .int .u64 (enc (fpow c j)) ∧ But g w W ∧ w.heap.size < W.heap.size ∧ K3 W w.heap.size addQ subQ scaleQ ∧ ArrQ cc W g n (bfQ h c x j 0)
def FlyInQ (cc : Bool) (w : World) (g n h T : Nat) (c : F) (x : Nat → F2) (j : Nat) (i : Value) (W : World) : Prop :=
  ∃ t p : Nat, t ≤ T ∧ p = j + t * (2 * h) ∧ i = .int .i64 p ∧ But g w W ∧ w.heap.size < W.heap.size ∧ K3 W w.heap.size addQ subQ scaleQ ∧ ArrQ cc W g n (bfQ h c x j t)
/-- Where a round stands. -/
theorem fly_in {n h T j t p : Nat} (hn : n = T * (2 * h)) (hj : j < h) (hp : p = j + t * (2 * h)) (ht : t < T) : p + h < n ∧ p + 2 * h = j + (t + 1) * (2 * h) := by
  have : (t + 1) * (2 * h) ≤ T * (2 * h) := Nat.mul_le_mul_right _ ht
  rw [Nat.add_mul, Nat.one_mul] at this
  rw [Nat.add_mul, Nat.one_mul]
  omega
theorem fly_out {n h T j t p : Nat} (hn : n = T * (2 * h)) (hp : p = j + t * (2 * h)) (ht : t ≤ T) (h' : ¬ t < T) : n ≤ p ∧ p = j + n := by
  have : t = T := by omega
  subst this; omega
theorem same_below' {w : World} {P : Program} {f : Nat} {args : Array Value} {v : Value} (h : Calls P f args w fun e w' => e = .returned v ∧ w = w') : Calls P f args w fun e w' => e = .returned v ∧ Below w.heap.size w w' :=
  h.mono fun e w' h => ⟨h.1, h.2 ▸ Below.refl _ _⟩
def FlyR9 (B g n cap p q hh : Nat) (zp zq pw y : Int) (sl : Nat) (v : Value) (W : World) : Prop :=
  match sl with
  | 33 => v = .slice (some ⟨g, 0, none⟩) n cap
  | 34 => v = .int .i64 p
  | 35 => v = .pointer (some ⟨g, p, none⟩)
  | 36 => v = .int .u64 zp
  | 37 => v = .pointer (some ⟨B, 2, none⟩)
  | 38 => v = mulU'
  | 39 => v = .slice (some ⟨g, 0, none⟩) n cap
  | 40 => v = .int .i64 p
  | 41 => v = .int .i64 hh
  | 42 => v = .int .i64 q
  | 43 => v = .pointer (some ⟨g, q, none⟩)
  | 44 => v = .int .u64 zq
  | 45 => v = .int .u64 pw
  | 46 => v = .int .u64 y
  | 12 => v = .int .u64 zp
  | _ => v = .int .u64 y
theorem FlyR9.keep {B g n cap p q hh : Nat} {zp zq pw y : Int} {sl : Nat} {v : Value} {W W' : World} (h : FlyR9 B g n cap p q hh zp zq pw y sl v W) (hb : Below W.heap.size W W') : FlyR9 B g n cap p q hh zp zq pw y sl v W' := h
def FlyR10 (B g n cap p q hh : Nat) (zp y a s : Int) (sl : Nat) (v : Value) (W : World) : Prop :=
  match sl with
  | 47 => v = .slice (some ⟨g, 0, none⟩) n cap
  | 48 => v = .int .i64 p
  | 49 => v = .slice (some ⟨g, 0, none⟩) n cap
  | 50 => v = .int .i64 p
  | 51 => v = .int .i64 hh
  | 52 => v = .int .i64 q
  | 53 => v = .pointer (some ⟨B, 0, none⟩)
  | 54 => v = addU
  | 55 => v = .int .u64 zp
  | 56 => v = .int .u64 y
  | 57 => v = .int .u64 a
  | 58 => v = .pointer (some ⟨B, 1, none⟩)
  | 59 => v = subU
  | 60 => v = .int .u64 zp
  | 61 => v = .int .u64 y
  | 62 => v = .int .u64 s
  | _ => v = .pointer (some ⟨g, p, none⟩)
theorem FlyR10.keep {B g n cap p q hh : Nat} {zp y a s : Int} {sl : Nat} {v : Value} {W W' : World} (h : FlyR10 B g n cap p q hh zp y a s sl v W) (hb : Below W.heap.size W W') : FlyR10 B g n cap p q hh zp y a s sl v W' := h
set_option maxHeartbeats 4000000 in
theorem fly_core_u (g cap r n h T wh : Nat) (c : F) (hr1 : (1 : Int) ≤ r) (hr2 : (r : Int) ≤ 20) (hN : n = T * (2 * h)) (hwh : 2 * h = wh) (hk2 : n ≤ 1048576) (ho2 : h ≤ 1048576) (h0 : 0 < h) (h0n : 0 < n)
    (w1 : wrap64 (2 ^ r) = (wh : Int)) (w2 : wrap64 (2 ^ (r - 1)) = (h : Int)) (hc : rootOf r = c) (x : Nat → F) (cc : Bool) (w : World) (ha : ArrF cc w g n x) :
    Calls Tryd.prog 66 #[kindU, .slice (some ⟨g, 0, none⟩) n cap, .int .i64 r] w fun e w' => e = .returned (.tuple #[]) ∧ But g w w' ∧ ArrF cc w' g n (bf (· + ·) (· - ·) (· * ·) h c x) := by
  obtain ⟨hg, H0⟩ : g < w.heap.size ∧ Hid (ArrF cc (w.alloc (.cells #[addU, subU, mulU'] 44)) g n x) := by
    obtain ⟨z, hA, hz⟩ := ha
    exact ⟨hA.lt (by omega), Lib.hid ⟨z, hA.alloc _, hz⟩⟩
  have O1 := of_is r (enc c) (by rw [ofv_in (by omega) (by omega), ← hc]; rfl)
  have HN := Lib.hid hN
  have HWH := Lib.hid hwh
  have ht0 : (0 : Int) ≤ T := by omega
  have hwh2 : wh ≤ 2097152 := by omega
  have hwh0 : 0 < wh := by omega
  clear hN hc hwh ha
  go_enter Tryd.func66, Tryd.ntmps66
  go_wp2_with fail
  go_quiet (fail)
  simp only [w1, w2]
  clear w1 w2
  go_wp2_with (go_at_call 35; ((with_reducible refine (O1 _).mono ?_); rintro e w' ⟨rfl, rfl⟩))
  go_loopw [9, 22] (FlyOut cc w g n h c x) (fun _ i _ => h - (intOf i).toNat)
  case atStart =>
    obtain ⟨z, hA, hz⟩ := H0.out
    refine ⟨0, Nat.zero_le _, rfl, rfl, ((But.refl _ _).alloc _).drewN _, by simp, ?_, ⟨z, hA, fun i hi => ?_⟩⟩
    · exact K3.new _ _ _ _ _
    · show Num cc (z i) (bfp _ _ _ _ _ _ _ _ _)
      rw [bfp_start]; exact hz i hi
  case round =>
    obtain ⟨j, hj, rfl, rfl, hB, hs, hK3, hA⟩ := hrel
    by_cases hlt : j < h
    · have hlt' : (j : Int) < (h : Int) := by omega
      go_upto_region 7 with fail
      go_loopw [11] (FlyIn cc w g n h T c x j) (fun i _ => n - (intOf i).toNat)
      case atStart => exact ⟨0, j, Nat.zero_le _, by omega, rfl, hB, hs, hK3, hA⟩
      case round =>
        clear hB hs hK3 hA
        obtain ⟨t, p, ht, hp, rfl, hB, hs, hK3, ⟨z, hA, hz⟩⟩ := hrel
        by_cases hlt2 : t < T
        · obtain ⟨a1, a2⟩ := fly_in HN.out hlt hp hlt2
          obtain ⟨e1, e2⟩ := bfp_fresh (· + ·) (· - ·) (· * ·) h c x j t hlt
          rw [← hp] at e1 e2
          obtain ⟨q, hq⟩ : ∃ q, p + h = q := ⟨_, rfl⟩
          rw [hq] at a1 e2
          have zp := hz p (by omega)
          have zq := hz q a1
          rw [show bfU h c x j t p = x p from e1] at zp
          rw [show bfU h c x j t q = x q from e2] at zq
          have m1 := fun W => same_below' (mul_is (z q) (enc (fpow c j)) (enc (x q * fpow c j)) zq.1 (enc_U _) (by rw [zq.2.1, toF_enc]) W)
          have d1 := add_is (z p) (enc (x q * fpow c j)) (enc (x p + x q * fpow c j)) zp.1 (enc_U _) (by rw [zp.2.1, toF_enc])
          have d2 := sub_is (z p) (enc (x q * fpow c j)) (enc (x p - x q * fpow c j)) zp.1 (enc_U _) (by rw [zp.2.1, toF_enc])
          obtain ⟨c0, f0⟩ := hA p (by omega)
          obtain ⟨c1, f1⟩ := hA q a1
          dsimp only at c0 c1
          have HA := Lib.hid hA; have HB := Lib.hid hB; have HZ := Lib.hid hz; have HK := Lib.hid hK3; have HS := Lib.hid hs
          have HP := Lib.hid hp; have HQN := Lib.hid hq; have HNX := Lib.hid a2
          have HQ : Hid (IntKind.i64.wrap ((p : Int) + (h : Int)) = (q : Int)) := Lib.hid (by rw [IntWalk.i64_in _ (by omega)]; omega)
          have p7 : p ≠ q := by omega
          have p8 : q ≠ p := by omega
          have p1 : (p : Int) < (n : Int) := by omega
          have p2 : (q : Int) < (n : Int) := by omega
          have p3 : p < n := by omega
          have p4 : (n : Int) ≤ 1048576 := by omega
          have p5 : (h : Int) ≤ 1048576 := by omega
          have p6 : (wh : Int) ≤ 2097152 := by omega
          have n1 : (0 : Int) ≤ (p : Int) := by omega
          have n2 : (0 : Int) ≤ (q : Int) := by omega
          have n3 : (0 : Int) ≤ (h : Int) := by omega
          obtain ⟨k0, k1, k2⟩ := hK3
          clear hA hB hz hs hp hq a2 e1 e2 zp zq
          obtain ⟨pw, hpw⟩ : ∃ v, enc (fpow c j) = v := ⟨_, rfl⟩
          obtain ⟨y, hy⟩ : ∃ v, enc (x q * fpow c j) = v := ⟨_, rfl⟩
          obtain ⟨a, ha⟩ : ∃ v, enc (x p + x q * fpow c j) = v := ⟨_, rfl⟩
          obtain ⟨s, hs⟩ : ∃ v, enc (x p - x q * fpow c j) = v := ⟨_, rfl⟩
          rw [hpw, hy] at m1
          rw [hy, ha] at d1
          rw [hy, hs] at d2
          rw [hpw]
          have HA' := Lib.hid ha; have HS' := Lib.hid hs; have HPW := Lib.hid hpw
          clear ha hs hy hpw
          go_upto_region 9 with fail
          refine wp_loose [(33, []), (34, []), (35, [33, 34]), (36, [35]), (37, []), (38, [37]), (39, []), (40, []), (41, []), (42, [40, 41]), (43, [39, 42]), (44, [43]), (45, []), (46, [38, 44, 45]), (12, [36]), (13, [46])]
            (FlyR9 w.heap.size g n cap p q h (z p) (z q) pw y) (fun d => false) (by kernel_rfl) (by kernel_rfl) (fun _ _ _ _ h hb => h.keep hb) ?_ ?_
          · refine opsrun_cons ?_ (opsrun_cons ?_ (opsrun_cons ?_ (opsrun_cons ?_ (opsrun_cons ?_ (opsrun_cons ?_ (opsrun_cons ?_ (opsrun_cons ?_ (opsrun_cons ?_ (opsrun_cons ?_ (opsrun_cons ?_ (opsrun_cons ?_ (opsrun_cons ?_ (opsrun_cons ?_ (opsrun_cons ?_ (opsrun_cons ?_ opsrun_nil)))))))))))))))
            all_goals
              refine OpRuns.any ?_
              intro Q0 σ W' K hb hn hK
              simp only [fill, List.map, Act.put, List.setIfInBounds_toArray, List.set_cons_zero, List.set_cons_succ] at hK ⊢
            · clear hn
              go_simp
              exact hK _ _ rfl (Below.refl _ _) (fun h => absurd h (by decide))
            · clear hn
              go_simp
              exact hK _ _ rfl (Below.refl _ _) (fun h => absurd h (by decide))
            · have h33 : σ 33 = _ := hn 33 (by decide)
              have h34 : σ 34 = _ := hn 34 (by decide)
              clear hn
              simp only [h33, h34] at hK
              go_simp
              exact hK _ _ rfl (Below.refl _ _) (fun h => absurd h (by decide))
            · have h35 : σ 35 = _ := hn 35 (by decide)
              clear hn
              simp only [h35] at hK
              have c0' := bkeep hb c0
              clear c0
              go_simp
              exact hK _ _ rfl (Below.refl _ _) (fun h => absurd h (by decide))
            · clear hn
              go_simp
              exact hK _ _ rfl (Below.refl _ _) (fun h => absurd h (by decide))
            · have h37 : σ 37 = _ := hn 37 (by decide)
              clear hn
              simp only [h37] at hK
              have k2' := bkeep hb k2
              clear k2
              go_simp
              exact hK _ _ rfl (Below.refl _ _) (fun h => absurd h (by decide))
            · clear hn
              go_simp
              exact hK _ _ rfl (Below.refl _ _) (fun h => absurd h (by decide))
            · clear hn
              go_simp
              exact hK _ _ rfl (Below.refl _ _) (fun h => absurd h (by decide))
            · clear hn
              go_simp
              exact hK _ _ rfl (Below.refl _ _) (fun h => absurd h (by decide))
            · have h40 : σ 40 = _ := hn 40 (by decide)
              have h41 : σ 41 = _ := hn 41 (by decide)
              clear hn
              simp only [h40, h41] at hK
              go_simp
              exact hK _ _ (congrArg (Value.int .i64) HQ.out) (Below.refl _ _) (fun h => absurd h (by decide))
            · have h39 : σ 39 = _ := hn 39 (by decide)
              have h42 : σ 42 = _ := hn 42 (by decide)
              clear hn
              simp only [h39, h42] at hK
              go_simp
              exact hK _ _ rfl (Below.refl _ _) (fun h => absurd h (by decide))
            · have h43 : σ 43 = _ := hn 43 (by decide)
              clear hn
              simp only [h43] at hK
              have c1' := bkeep hb c1
              clear c1
              go_simp
              exact hK _ _ rfl (Below.refl _ _) (fun h => absurd h (by decide))
            · clear hn
              go_simp
              exact hK _ _ rfl (Below.refl _ _) (fun h => absurd h (by decide))
            · have h38 : σ 38 = _ := hn 38 (by decide)
              have h44 : σ 44 = _ := hn 44 (by decide)
              have h45 : σ 45 = _ := hn 45 (by decide)
              clear hn
              simp only [h38, h44, h45] at hK
              go_simp
              go_at_call 45
              refine (m1 _).mono ?_
              rintro e w1 ⟨rfl, hb1⟩
              exact hK _ _ rfl hb1 (fun h => absurd h (by decide))
            · have h36 : σ 36 = _ := hn 36 (by decide)
              clear hn
              simp only [h36] at hK
              go_simp
              exact hK _ _ rfl (Below.refl _ _) (fun h => absurd h (by decide))
            · have h46 : σ 46 = _ := hn 46 (by decide)
              clear hn
              simp only [h46] at hK
              go_simp
              exact hK _ _ rfl (Below.refl _ _) (fun h => absurd h (by decide))
          · intro σ W' hb hR' hF
            have h12 : σ 12 = _ := hR' 12 (by decide)
            have h13 : σ 13 = _ := hR' 13 (by decide)
            replace HB := Lib.hid (HB.out.then hb)
            replace HK := Lib.hid (HK.out.keep hb)
            replace HS := Lib.hid (Nat.lt_of_lt_of_le HS.out hb.size)
            replace HA := Lib.hid (HA.out.keep hb)
            obtain ⟨k0, k1, k2⟩ := HK.out
            clear hR' hF c0 c1 f0 f1 hb
            simp only [fill, List.map, Act.put, List.setIfInBounds_toArray, List.set_cons_zero, List.set_cons_succ, List.length_cons, List.length_nil, List.drop_succ_cons, List.drop_zero, Nat.reduceAdd, h12, h13]
            clear h12 h13
            go_upto_region 10 with fail
            obtain ⟨c0, f0⟩ := HA.out p p3
            obtain ⟨c1, f1⟩ := HA.out q a1
            dsimp only at c0 c1
            have hqn := HQ.out
            have hne1 : g ≠ w.heap.size := by omega
            have hne2 : w.heap.size ≠ g := by omega
            go_region_held3 (fun w' => w'.cell? ⟨w.heap.size, 0, none⟩ = some addU ∧ w'.cell? ⟨w.heap.size, 1, none⟩ = some subU) (go_keep)
              (first | (go_at_call 43; ((with_reducible refine (d1 _).mono ?_); rintro e w' ⟨rfl, rfl⟩)) | (go_at_call 44; ((with_reducible refine (d2 _).mono ?_); rintro e w' ⟨rfl, rfl⟩)))
            all_goals
              go_wp2_with fail
              go_roundw
              case rel =>
                have := fly_set HA.out HZ.out hlt HP.out HQN.out.symm a1
                rw [HA'.out, HS'.out] at this
                exact ⟨t + 1, p + wh, by omega, by rw [← HWH.out]; exact HNX.out, by go_num, ((HB.out.setCell (Or.inl rfl) _).setCell (Or.inl rfl) _).drew, by simp; exact HS.out, (HK.out.far (by omega) _ _).far (by omega) _ _, this⟩
              case measure => simp [intOf]; omega
        · obtain ⟨a1, a2⟩ := fly_out HN.out hp ht hlt2
          have m2 := mul_is (enc (fpow c j)) (enc c) (enc (fpow c (j + 1))) (enc_U _) (enc_U _) (by rw [toF_enc, toF_enc, fpow_succ])
          have a3 : (n : Int) ≤ (p : Int) := by omega
          have HA := Lib.hid hA; have HB := Lib.hid hB; have HZ := Lib.hid hz; have HK := Lib.hid hK3; have HS := Lib.hid hs
          have HT : Hid (∀ i, i < n → bfU h c x j t i = bfU h c x (j + 1) 0 i) := Lib.hid (fun i hi => by
            show bfp _ _ _ _ _ _ _ _ _ = _
            have : t = T := by omega
            subst this
            exact bfp_next _ _ _ h c x j t i (by rw [← HN.out]; exact hi))
          clear hA hB hz hs hK3 hp a1 a2
          go_wp2_with (go_at_call 45; ((with_reducible refine (m2 _).mono ?_); rintro e w' ⟨rfl, rfl⟩))
          go_roundw
          case rel => exact ⟨j + 1, by omega, by go_num, rfl, HB.out, HS.out, HK.out, ⟨z, HA.out, fun i hi => by rw [← HT.out i hi]; exact HZ.out i hi⟩⟩
          case measure => simp [intOf]; omega
    · have : j = h := by omega
      subst this
      obtain ⟨z, hA, hz⟩ := hA
      have HA := Lib.hid hA; have HB := Lib.hid hB; have HZ := Lib.hid hz
      clear hA hB hz
      go_wp2_with fail
      go_end0
      refine ⟨rfl, HB.out, z, HA.out, fun i hi => ?_⟩
      rw [← bfp_end _ _ _ _ _ _ _ h0]; exact HZ.out i hi

theorem fly_u (g k cap r o : Nat) (hr : r = o + 1) (hk : k ≤ 20) (ho : r ≤ k) (x : Nat → F) (cc : Bool) (w : World) (h : ArrF cc w g (2 ^ k) x) :
    Calls Tryd.prog 66 #[kindU, .slice (some ⟨g, 0, none⟩) (2 ^ k) cap, .int .i64 r] w fun e w' => e = .returned (.tuple #[]) ∧ But g w w' ∧ ArrF cc w' g (2 ^ k) (bf (· + ·) (· - ·) (· * ·) (2 ^ o) (rootOf r) x) :=
  fly_core_u g cap r (2 ^ k) (2 ^ o) (2 ^ (k - r)) (2 * 2 ^ o) (rootOf r) (by omega) (by omega)
    (by rw [show 2 * 2 ^ o = 2 ^ r by rw [hr, Nat.pow_succ, Nat.mul_comm], ← Nat.pow_add]; congr 1; omega) rfl
    (Nat.pow_le_pow_right (i := _) (j := 20) (by decide) hk) (Nat.pow_le_pow_right (i := _) (j := 20) (by decide) (by omega)) (Nat.two_pow_pos o) (Nat.two_pow_pos k)
    (by rw [wrap64_pow r (by omega), hr, Nat.pow_succ, Nat.mul_comm]) (by rw [wrap64_pow (r - 1) (by omega), show r - 1 = o by omega]) rfl x cc w h

/-- A step of a stage, of pairs: before the first store, and behind it. -/
def FlyWd (w : World) (g n p gx gy : Nat) (x0 x1 y0 y1 a0 a1 : Int) (z : Nat → Int × Int) (st : Bool) (W : World) : Prop :=
  But g w W ∧ w.heap.size < W.heap.size ∧ K3 W w.heap.size addQ subQ scaleQ ∧ Var W gx x0 x1 ∧ Var W gy y0 y1 ∧ Arr W g (n * 2) (pc fun i => if st = true ∧ i = p then (a0, a1) else z i)
theorem FlyWd.keep {w : World} {g n p gx gy : Nat} {x0 x1 y0 y1 a0 a1 : Int} {z : Nat → Int × Int} {st : Bool} {W W' : World} (h : FlyWd w g n p gx gy x0 x1 y0 y1 a0 a1 z st W) (hb : Below W.heap.size W W') : FlyWd w g n p gx gy x0 x1 y0 y1 a0 a1 z st W' :=
  ⟨h.1.then hb, Nat.lt_of_lt_of_le h.2.1 hb.size, h.2.2.1.keep hb, h.2.2.2.1.keep hb, h.2.2.2.2.1.keep hb, h.2.2.2.2.2.keep hb⟩
theorem FlyWd.drew {w : World} {g n p gx gy : Nat} {x0 x1 y0 y1 a0 a1 : Int} {z : Nat → Int × Int} {st : Bool} {W : World} (h : FlyWd w g n p gx gy x0 x1 y0 y1 a0 a1 z st W) : FlyWd w g n p gx gy x0 x1 y0 y1 a0 a1 z st W.drew := h.keep (Below.refl _ _).drew
theorem FlyWd.store {w : World} {g n p gx gy : Nat} {x0 x1 y0 y1 a0 a1 : Int} {z : Nat → Int × Int} {W : World} (h : FlyWd w g n p gx gy x0 x1 y0 y1 a0 a1 z false W) (hp : p < n) (hg : g ≠ w.heap.size) (hx : g ≠ gx) (hy : g ≠ gy) :
    FlyWd w g n p gx gy x0 x1 y0 y1 a0 a1 z true ((W.setCell ⟨g, p * 2, none⟩ (.int .u64 a0)).setCell ⟨g, p * 2 + 1, none⟩ (.int .u64 a1)) := by
  obtain ⟨h1, h2, h3, h4, h5, h6⟩ := h
  refine ⟨(h1.setCell (Or.inl rfl) _).setCell (Or.inl rfl) _, by simp; exact h2, (h3.far hg _ _).far hg _ _, (h4.far hx _ _).far hx _ _, (h5.far hy _ _).far hy _ _, (h6.setq p a0 a1 hp).same (pc_same fun i hi => ?_)⟩
  by_cases c : i = p
  · rw [if_pos c, if_pos ⟨rfl, c⟩]
  · rw [if_neg c, if_neg (fun h => by cases h.1), if_neg (fun h => c h.2)]
def FlyQ9 (H B g n cap p q hh : Nat) (zp zp' zq zq' pw y y' : Int) (sl : Nat) (v : Value) (W : World) : Prop :=
  match sl with
  | 33 => v = .slice (some ⟨g, 0, none⟩) n cap
  | 34 => v = .int .i64 p
  | 35 => v = .pointer (some ⟨g, p * 2, none⟩)
  | 36 => v = .agg #[.int .u64 zp, .int .u64 zp']
  | 37 => v = .pointer (some ⟨B, 2, none⟩)
  | 38 => v = scaleQ
  | 39 => v = .slice (some ⟨g, 0, none⟩) n cap
  | 40 => v = .int .i64 p
  | 41 => v = .int .i64 hh
  | 42 => v = .int .i64 q
  | 43 => v = .pointer (some ⟨g, q * 2, none⟩)
  | 44 => v = .agg #[.int .u64 zq, .int .u64 zq']
  | 45 => v = .int .u64 pw
  | 46 => v = .agg #[.int .u64 y, .int .u64 y']
  | _ => ∃ gg : Nat, v = .pointer (some ⟨gg, 0, none⟩) ∧ H ≤ gg ∧ Var W gg 0 0
theorem FlyQ9.keep {H B g n cap p q hh : Nat} {zp zp' zq zq' pw y y' : Int} {sl : Nat} {v : Value} {W W' : World} (h : FlyQ9 H B g n cap p q hh zp zp' zq zq' pw y y' sl v W) (hb : Below W.heap.size W W') : FlyQ9 H B g n cap p q hh zp zp' zq zq' pw y y' sl v W' := by
  unfold FlyQ9 at *
  split at h
  all_goals first | exact h | (obtain ⟨gg, h1, h2, h3⟩ := h; exact ⟨gg, h1, h2, h3.keep hb⟩)
def FlyQ10 (B g n cap p q hh : Nat) (zp zp' y y' a a' s s' : Int) (sl : Nat) (v : Value) : Prop :=
  match sl with
  | 47 => v = .slice (some ⟨g, 0, none⟩) n cap
  | 48 => v = .int .i64 p
  | 49 => v = .slice (some ⟨g, 0, none⟩) n cap
  | 50 => v = .int .i64 p
  | 51 => v = .int .i64 hh
  | 52 => v = .int .i64 q
  | 53 => v = .pointer (some ⟨B, 0, none⟩)
  | 54 => v = addQ
  | 55 => v = .agg #[.int .u64 zp, .int .u64 zp']
  | 56 => v = .agg #[.int .u64 y, .int .u64 y']
  | 57 => v = .agg #[.int .u64 a, .int .u64 a']
  | 58 => v = .pointer (some ⟨B, 1, none⟩)
  | 59 => v = subQ
  | 60 => v = .agg #[.int .u64 zp, .int .u64 zp']
  | 61 => v = .agg #[.int .u64 y, .int .u64 y']
  | 62 => v = .agg #[.int .u64 s, .int .u64 s']
  | 63 => v = .pointer (some ⟨g, p * 2, none⟩)
  | _ => v = .pointer (some ⟨g, q * 2, none⟩)
set_option maxHeartbeats 4000000 in
theorem fly_core_q (g cap r n h T wh : Nat) (c : F) (hr1 : (1 : Int) ≤ r) (hr2 : (r : Int) ≤ 20) (hN : n = T * (2 * h)) (hwh : 2 * h = wh) (hk2 : n ≤ 1048576) (ho2 : h ≤ 1048576) (h0 : 0 < h) (h0n : 0 < n)
    (w1 : wrap64 (2 ^ r) = (wh : Int)) (w2 : wrap64 (2 ^ (r - 1)) = (h : Int)) (hc : rootOf r = c) (x : Nat → F2) (cc : Bool) (w : World) (ha : ArrQ cc w g n x) :
    Calls Tryd.prog 70 #[kindQ, .slice (some ⟨g, 0, none⟩) n cap, .int .i64 r] w fun e w' => e = .returned (.tuple #[]) ∧ But g w w' ∧ ArrQ cc w' g n (bf (· + ·) (· - ·) scale h c x) := by
  obtain ⟨hg, H0⟩ : g < w.heap.size ∧ Hid (ArrQ cc (w.alloc (.cells #[addQ, subQ, scaleQ] 57)) g n x) := by
    obtain ⟨z, hA, hz⟩ := ha
    exact ⟨hA.lt (by omega), Lib.hid ⟨z, hA.alloc _, hz⟩⟩
  have O1 := of_is r (enc c) (by rw [ofv_in (by omega) (by omega), ← hc]; rfl)
  have HN := Lib.hid hN
  have HWH := Lib.hid hwh
  have ht0 : (0 : Int) ≤ T := by omega
  have hwh2 : wh ≤ 2097152 := by omega
  have hwh0 : 0 < wh := by omega
  clear hN hc hwh ha
  go_enter Tryd.func70, Tryd.ntmps70
  go_wp2_with fail
  go_quiet (fail)
  simp only [w1, w2]
  clear w1 w2
  go_wp2_with (go_at_call 35; ((with_reducible refine (O1 _).mono ?_); rintro e w' ⟨rfl, rfl⟩))
  go_loopw [9, 22] (FlyOutQ cc w g n h c x) (fun _ i _ => h - (intOf i).toNat)
  case atStart =>
    obtain ⟨z, hA, hz⟩ := H0.out
    refine ⟨0, Nat.zero_le _, rfl, rfl, ((But.refl _ _).alloc _).drewN _, by simp, ?_, ⟨z, hA, fun i hi => ?_⟩⟩
    · exact K3.new _ _ _ _ _
    · show NumQ cc (z i) (bfp _ _ _ _ _ _ _ _ _)
      rw [bfp_start]; exact hz i hi
  case round =>
    obtain ⟨j, hj, rfl, rfl, hB, hs, hK3, hA⟩ := hrel
    by_cases hlt : j < h
    · have hlt' : (j : Int) < (h : Int) := by omega
      go_upto_region 7 with fail
      go_loopw [11] (FlyInQ cc w g n h T c x j) (fun i _ => n - (intOf i).toNat)
      case atStart => exact ⟨0, j, Nat.zero_le _, by omega, rfl, hB, hs, hK3, hA⟩
      case round =>
        clear hB hs hK3 hA
        obtain ⟨t, p, ht, hp, rfl, hB, hs, hK3, ⟨z, hA, hz⟩⟩ := hrel
        by_cases hlt2 : t < T
        · obtain ⟨a1, a2⟩ := fly_in HN.out hlt hp hlt2
          obtain ⟨e1, e2⟩ := bfp_fresh (· + ·) (· - ·) scale h c x j t hlt
          rw [← hp] at e1 e2
          obtain ⟨q, hq⟩ : ∃ q, p + h = q := ⟨_, rfl⟩
          rw [hq] at a1 e2
          have zp := hz p (by omega)
          have zq := hz q a1
          rw [show bfQ h c x j t p = x p from e1] at zp
          rw [show bfQ h c x j t q = x q from e2] at zq
          obtain ⟨y, hy⟩ : ∃ v : F2, scale (x q) (fpow c j) = v := ⟨_, rfl⟩
          obtain ⟨a, ha⟩ : ∃ v : F2, x p + y = v := ⟨_, rfl⟩
          obtain ⟨s, hs'⟩ : ∃ v : F2, x p - y = v := ⟨_, rfl⟩
          have m1 := pscale_q (z q).1 (z q).2 (enc (fpow c j)) (x q) y zq.1 (enc_U _) (by rw [toF_enc, hy])
          have d1' := padd_q (z p).1 (z p).2 (enc y.a) (enc y.b) (x p) y a zp.1 (rep_enc y) ha
          have d2' := psub_q (z p).1 (z p).2 (enc y.a) (enc y.b) (x p) y s zp.1 (rep_enc y) hs'
          have HAA : Hid (x p + scale (x q) (fpow c j) = a) := Lib.hid (by rw [hy, ha])
          have HSS : Hid (x p - scale (x q) (fpow c j) = s) := Lib.hid (by rw [hy, hs'])
          obtain ⟨c0, c1, f0, f1⟩ := hA.cells p (by omega)
          obtain ⟨d0, d1, g0, g1⟩ := hA.cells q a1
          have HA := Lib.hid hA; have HB := Lib.hid hB; have HZ := Lib.hid hz; have HK := Lib.hid hK3; have HS := Lib.hid hs
          have HP := Lib.hid hp; have HQN := Lib.hid hq; have HNX := Lib.hid a2
          have HQ : Hid (IntKind.i64.wrap ((p : Int) + (h : Int)) = (q : Int)) := Lib.hid (by rw [IntWalk.i64_in _ (by omega)]; omega)
          have p7 : p ≠ q := by omega
          have p8 : q ≠ p := by omega
          have p1 : (p : Int) < (n : Int) := by omega
          have p2 : (q : Int) < (n : Int) := by omega
          have p3 : p < n := by omega
          have p4 : (n : Int) ≤ 1048576 := by omega
          have p5 : (h : Int) ≤ 1048576 := by omega
          have p6 : (wh : Int) ≤ 2097152 := by omega
          have n1 : (0 : Int) ≤ (p : Int) := by omega
          have n2 : (0 : Int) ≤ (q : Int) := by omega
          have n3 : (0 : Int) ≤ (h : Int) := by omega
          obtain ⟨k0, k1, k2⟩ := hK3
          clear hA hB hz hs hp hq a2 e1 e2 zp zq
          clear hy ha hs'
          generalize hzp : z p = zzp at *
          generalize hzq : z q = zzq at *
          obtain ⟨z0, z1⟩ := zzp
          obtain ⟨q0, q1⟩ := zzq
          dsimp only at m1 d1' d2' c0 c1 d0 d1
          clear hzp hzq
          have hne1 : g ≠ w.heap.size := by omega
          obtain ⟨pw, hpw⟩ : ∃ v, enc (fpow c j) = v := ⟨_, rfl⟩
          rw [hpw] at m1
          rw [hpw]
          have HPW := Lib.hid hpw
          clear hpw
          go_upto_region 9 with fail
          refine wp_loose [(33, []), (34, []), (35, [33, 34]), (36, [35]), (37, []), (38, [37]), (39, []), (40, []), (41, []), (42, [40, 41]), (43, [39, 42]), (44, [43]), (45, []), (46, [38, 44, 45]), (12, []), (13, [])]
            (FlyQ9 wr.heap.size w.heap.size g n cap p q h z0 z1 q0 q1 pw (enc y.a) (enc y.b)) (fun d => d == 12 || d == 13) (by kernel_rfl) (by kernel_rfl) (fun _ _ _ _ h hb => h.keep hb) ?_ ?_
          · refine opsrun_cons ?_ (opsrun_cons ?_ (opsrun_cons ?_ (opsrun_cons ?_ (opsrun_cons ?_ (opsrun_cons ?_ (opsrun_cons ?_ (opsrun_cons ?_ (opsrun_cons ?_ (opsrun_cons ?_ (opsrun_cons ?_ (opsrun_cons ?_ (opsrun_cons ?_ (opsrun_cons ?_ (opsrun_cons ?_ (opsrun_cons ?_ opsrun_nil)))))))))))))))
            all_goals
              refine OpRuns.any ?_
              intro Q0 σ W' K hb hn hK
              simp only [fill, List.map, Act.put, List.setIfInBounds_toArray, List.set_cons_zero, List.set_cons_succ] at hK ⊢
            · clear hn
              go_simp
              exact hK _ _ rfl (Below.refl _ _) (fun h => absurd h (by decide))
            · clear hn
              go_simp
              exact hK _ _ rfl (Below.refl _ _) (fun h => absurd h (by decide))
            · have h33 : σ 33 = _ := hn 33 (by decide)
              have h34 : σ 34 = _ := hn 34 (by decide)
              clear hn
              simp only [h33, h34] at hK
              go_simp
              exact hK _ _ rfl (Below.refl _ _) (fun h => absurd h (by decide))
            · have h35 : σ 35 = _ := hn 35 (by decide)
              clear hn
              simp only [h35] at hK
              have c0' := bkeep hb c0
              have c1' := bkeep hb c1
              clear c0 c1
              go_simp
              exact hK _ _ rfl (Below.refl _ _) (fun h => absurd h (by decide))
            · clear hn
              go_simp
              exact hK _ _ rfl (Below.refl _ _) (fun h => absurd h (by decide))
            · have h37 : σ 37 = _ := hn 37 (by decide)
              clear hn
              simp only [h37] at hK
              have k2' := bkeep hb k2
              clear k2
              go_simp
              exact hK _ _ rfl (Below.refl _ _) (fun h => absurd h (by decide))
            · clear hn
              go_simp
              exact hK _ _ rfl (Below.refl _ _) (fun h => absurd h (by decide))
            · clear hn
              go_simp
              exact hK _ _ rfl (Below.refl _ _) (fun h => absurd h (by decide))
            · clear hn
              go_simp
              exact hK _ _ rfl (Below.refl _ _) (fun h => absurd h (by decide))
            · have h40 : σ 40 = _ := hn 40 (by decide)
              have h41 : σ 41 = _ := hn 41 (by decide)
              clear hn
              simp only [h40, h41] at hK
              go_simp
              exact hK _ _ (congrArg (Value.int .i64) HQ.out) (Below.refl _ _) (fun h => absurd h (by decide))
            · have h39 : σ 39 = _ := hn 39 (by decide)
              have h42 : σ 42 = _ := hn 42 (by decide)
              clear hn
              simp only [h39, h42] at hK
              go_simp
              exact hK _ _ rfl (Below.refl _ _) (fun h => absurd h (by decide))
            · have h43 : σ 43 = _ := hn 43 (by decide)
              clear hn
              simp only [h43] at hK
              have d0' := bkeep hb d0
              have d1' := bkeep hb d1
              clear d0 d1
              go_simp
              exact hK _ _ rfl (Below.refl _ _) (fun h => absurd h (by decide))
            · clear hn
              go_simp
              exact hK _ _ rfl (Below.refl _ _) (fun h => absurd h (by decide))
            · have h38 : σ 38 = _ := hn 38 (by decide)
              have h44 : σ 44 = _ := hn 44 (by decide)
              have h45 : σ 45 = _ := hn 45 (by decide)
              clear hn
              simp only [h38, h44, h45] at hK
              go_simp
              go_at_call 55
              refine (m1 _).mono ?_
              rintro e w1 ⟨rfl, hb1⟩
              exact hK _ _ rfl hb1 (fun h => absurd h (by decide))
            · clear hn
              go_simp
              exact hK _ _ ⟨_, rfl, hb.size, Var.new _ _ _ _⟩ ((Below.refl _ _).alloc (Nat.le_refl _) _) (fun _ => ⟨_, rfl, Nat.le_refl _, by simp⟩)
            · clear hn
              go_simp
              exact hK _ _ ⟨_, rfl, hb.size, Var.new _ _ _ _⟩ ((Below.refl _ _).alloc (Nat.le_refl _) _) (fun _ => ⟨_, rfl, Nat.le_refl _, by simp⟩)
          · intro σ W' hb hR' hF
            have h36 : σ 36 = _ := hR' 36 (by decide)
            have h46 : σ 46 = _ := hR' 46 (by decide)
            obtain ⟨gx, ex, lx, vx⟩ : ∃ gg : Nat, σ 12 = .pointer (some ⟨gg, 0, none⟩) ∧ wr.heap.size ≤ gg ∧ Var W' gg 0 0 := hR' 12 (by decide)
            obtain ⟨gy, ey, ly, vy⟩ : ∃ gg : Nat, σ 13 = .pointer (some ⟨gg, 0, none⟩) ∧ wr.heap.size ≤ gg ∧ Var W' gg 0 0 := hR' 13 (by decide)
            have hne := hF 12 (by decide) 13 (by decide) rfl rfl (by decide)
            rw [ex, ey] at hne
            have hxy : gx ≠ gy := fun h => hne (by rw [h])
            have hyx : gy ≠ gx := Ne.symm hxy
            replace HB := Lib.hid (HB.out.then hb)
            replace HK := Lib.hid (HK.out.keep hb)
            have hlw : w.heap.size < wr.heap.size := HS.out
            have hgw : g < wr.heap.size := by omega
            have hww : w.heap.size < W'.heap.size := Nat.lt_of_lt_of_le hlw hb.size
            have HA2 := HA.out.keep hb
            clear hR' hF c0 c1 f0 f1 d0 d1 g0 g1 hb k0 k1 k2 hne
            simp only [fill, List.map, Act.put, List.setIfInBounds_toArray, List.set_cons_zero, List.set_cons_succ, List.length_cons, List.length_nil, List.drop_succ_cons, List.drop_zero, Nat.reduceAdd, h36, h46, ex, ey]
            clear h36 h46 ex ey
            have HVX := Lib.hid vx; have HVY := Lib.hid vy
            have HA3 := Lib.hid HA2
            clear HA2
            obtain ⟨vx0, vx1, vx2, vx3⟩ := vx
            obtain ⟨vy0, vy1, vy2, vy3⟩ := vy
            have hgx : g ≠ gx := by omega
            have hgy : g ≠ gy := by omega
            have hwx : w.heap.size ≤ gx := by omega
            have hwy : w.heap.size ≤ gy := by omega
            have hwx2 : gx ≠ w.heap.size := by omega
            have hwy2 : gy ≠ w.heap.size := by omega
            go_upto_region 10 with fail
            refine wp_gen (FlyWd w g n p gx gy z0 z1 (enc y.a) (enc y.b) (enc a.a) (enc a.b) z false) ⟨(((HB.out.setCell (Or.inr hwx) _).setCell (Or.inr hwx) _).setCell (Or.inr hwy) _).setCell (Or.inr hwy) _, by simp; exact hww, (((HK.out.far hwx2 _ _).far hwx2 _ _).far hwy2 _ _).far hwy2 _ _, ((HVX.out.set _ _).far hyx _ _).far hyx _ _, ((HVY.out.far hxy _ _).far hxy _ _).set _ _, ((((HA3.out.far (Ne.symm hgx) _ _).far (Ne.symm hgx) _ _).far (Ne.symm hgy) _ _).far (Ne.symm hgy) _ _).same (pc_same fun i hi => by rw [if_neg (fun h => by cases h.1)])⟩ ?_
            clear HB HK hww HA3 HVX HVY vx0 vx1 vx2 vx3 vy0 vy1 vy2 vy3 HS
            intro W3 hW3
            have h0W : FlyWd w g n p gx gy z0 z1 (enc y.a) (enc y.b) (enc a.a) (enc a.b) z false { W3 with drawn := W3.drawn + 1 } := hW3.drew
            clear hW3
            refine wp_two [(some 47, [], true), (some 48, [], true), (some 49, [], false), (some 50, [], false), (some 51, [], false), (some 52, [50, 51], false), (some 53, [], true), (some 54, [53], true), (some 55, [], true), (some 56, [], true), (some 57, [54, 55, 56], true), (some 58, [], false), (some 59, [58], false), (some 60, [], false), (some 61, [], false), (some 62, [59, 60, 61], true), (some 63, [47, 48], true), (none, [57, 63], false), (some 64, [49, 52], false)]
              17 (FlyQ10 w.heap.size g n cap p q h z0 z1 (enc y.a) (enc y.b) (enc a.a) (enc a.b) (enc s.a) (enc s.b)) (FlyWd w g n p gx gy z0 z1 (enc y.a) (enc y.b) (enc a.a) (enc a.b) z) (by kernel_rfl) (by kernel_rfl) h0W ?_ ?_
            · refine ops2_one ?_ (ops2_one ?_ (ops2_one ?_ (ops2_one ?_ (ops2_one ?_ (ops2_one ?_ (ops2_one ?_ (ops2_one ?_ (ops2_one ?_ (ops2_one ?_ (ops2_one ?_ (ops2_one ?_ (ops2_one ?_ (ops2_one ?_ (ops2_one ?_ (ops2_one ?_ (ops2_one ?_ (ops2_st ?_ (ops2_one ?_ ops2_nil))))))))))))))))))
              all_goals
                first | refine OpRuns1.any ?_ | refine StRuns.any ?_
              · intro Q0 σ s W K hs1 hW hn hK
                simp only [fill, List.filterMap, Act.put, List.setIfInBounds_toArray, List.set_cons_zero, List.set_cons_succ] at hK ⊢
                obtain rfl := hs1 rfl
                clear hn
                have HW := Lib.hid hW
                clear hW
                go_simp
                exact hK _ _ rfl HW.out
              · intro Q0 σ s W K hs1 hW hn hK
                simp only [fill, List.filterMap, Act.put, List.setIfInBounds_toArray, List.set_cons_zero, List.set_cons_succ] at hK ⊢
                obtain rfl := hs1 rfl
                clear hn
                have HW := Lib.hid hW
                clear hW
                go_simp
                exact hK _ _ rfl HW.out
              · intro Q0 σ s W K hs1 hW hn hK
                simp only [fill, List.filterMap, Act.put, List.setIfInBounds_toArray, List.set_cons_zero, List.set_cons_succ] at hK ⊢
                clear hn
                have HW := Lib.hid hW
                clear hW
                go_simp
                exact hK _ _ rfl HW.out
              · intro Q0 σ s W K hs1 hW hn hK
                simp only [fill, List.filterMap, Act.put, List.setIfInBounds_toArray, List.set_cons_zero, List.set_cons_succ] at hK ⊢
                clear hn
                have HW := Lib.hid hW
                clear hW
                go_simp
                exact hK _ _ rfl HW.out
              · intro Q0 σ s W K hs1 hW hn hK
                simp only [fill, List.filterMap, Act.put, List.setIfInBounds_toArray, List.set_cons_zero, List.set_cons_succ] at hK ⊢
                clear hn
                have HW := Lib.hid hW
                clear hW
                go_simp
                exact hK _ _ rfl HW.out
              · intro Q0 σ s W K hs1 hW hn hK
                simp only [fill, List.filterMap, Act.put, List.setIfInBounds_toArray, List.set_cons_zero, List.set_cons_succ] at hK ⊢
                have h50 : σ 50 = _ := hn 50 (by decide)
                have h51 : σ 51 = _ := hn 51 (by decide)
                clear hn
                simp only [h50, h51] at hK
                have HW := Lib.hid hW
                clear hW
                go_simp
                exact hK _ _ (congrArg (Value.int .i64) HQ.out) HW.out
              · intro Q0 σ s W K hs1 hW hn hK
                simp only [fill, List.filterMap, Act.put, List.setIfInBounds_toArray, List.set_cons_zero, List.set_cons_succ] at hK ⊢
                obtain rfl := hs1 rfl
                clear hn
                have HW := Lib.hid hW
                clear hW
                go_simp
                exact hK _ _ rfl HW.out
              · intro Q0 σ s W K hs1 hW hn hK
                simp only [fill, List.filterMap, Act.put, List.setIfInBounds_toArray, List.set_cons_zero, List.set_cons_succ] at hK ⊢
                obtain rfl := hs1 rfl
                have h53 : σ 53 = _ := hn 53 (by decide)
                clear hn
                simp only [h53] at hK
                obtain ⟨k0, _, _⟩ := hW.2.2.1
                have HW := Lib.hid hW
                clear hW
                go_simp
                exact hK _ _ rfl HW.out
              · intro Q0 σ s W K hs1 hW hn hK
                simp only [fill, List.filterMap, Act.put, List.setIfInBounds_toArray, List.set_cons_zero, List.set_cons_succ] at hK ⊢
                obtain rfl := hs1 rfl
                clear hn
                obtain ⟨v0, v1, _, _⟩ := hW.2.2.2.1
                have HW := Lib.hid hW
                clear hW
                go_simp
                exact hK _ _ rfl HW.out
              · intro Q0 σ s W K hs1 hW hn hK
                simp only [fill, List.filterMap, Act.put, List.setIfInBounds_toArray, List.set_cons_zero, List.set_cons_succ] at hK ⊢
                obtain rfl := hs1 rfl
                clear hn
                obtain ⟨v0, v1, _, _⟩ := hW.2.2.2.2.1
                have HW := Lib.hid hW
                clear hW
                go_simp
                exact hK _ _ rfl HW.out
              · intro Q0 σ s W K hs1 hW hn hK
                simp only [fill, List.filterMap, Act.put, List.setIfInBounds_toArray, List.set_cons_zero, List.set_cons_succ] at hK ⊢
                obtain rfl := hs1 rfl
                have h54 : σ 54 = _ := hn 54 (by decide)
                have h55 : σ 55 = _ := hn 55 (by decide)
                have h56 : σ 56 = _ := hn 56 (by decide)
                clear hn
                simp only [h54, h55, h56] at hK
                go_simp
                go_at_call 53
                refine (d1' _).mono ?_
                rintro e W1 ⟨rfl, hb1⟩
                exact hK _ _ rfl (hW.keep hb1)
              · intro Q0 σ s W K hs1 hW hn hK
                simp only [fill, List.filterMap, Act.put, List.setIfInBounds_toArray, List.set_cons_zero, List.set_cons_succ] at hK ⊢
                clear hn
                have HW := Lib.hid hW
                clear hW
                go_simp
                exact hK _ _ rfl HW.out
              · intro Q0 σ s W K hs1 hW hn hK
                simp only [fill, List.filterMap, Act.put, List.setIfInBounds_toArray, List.set_cons_zero, List.set_cons_succ] at hK ⊢
                have h58 : σ 58 = _ := hn 58 (by decide)
                clear hn
                simp only [h58] at hK
                obtain ⟨_, k1, _⟩ := hW.2.2.1
                have HW := Lib.hid hW
                clear hW
                go_simp
                exact hK _ _ rfl HW.out
              · intro Q0 σ s W K hs1 hW hn hK
                simp only [fill, List.filterMap, Act.put, List.setIfInBounds_toArray, List.set_cons_zero, List.set_cons_succ] at hK ⊢
                clear hn
                obtain ⟨v0, v1, _, _⟩ := hW.2.2.2.1
                have HW := Lib.hid hW
                clear hW
                go_simp
                exact hK _ _ rfl HW.out
              · intro Q0 σ s W K hs1 hW hn hK
                simp only [fill, List.filterMap, Act.put, List.setIfInBounds_toArray, List.set_cons_zero, List.set_cons_succ] at hK ⊢
                clear hn
                obtain ⟨v0, v1, _, _⟩ := hW.2.2.2.2.1
                have HW := Lib.hid hW
                clear hW
                go_simp
                exact hK _ _ rfl HW.out
              · intro Q0 σ s W K hs1 hW hn hK
                simp only [fill, List.filterMap, Act.put, List.setIfInBounds_toArray, List.set_cons_zero, List.set_cons_succ] at hK ⊢
                obtain rfl := hs1 rfl
                have h59 : σ 59 = _ := hn 59 (by decide)
                have h60 : σ 60 = _ := hn 60 (by decide)
                have h61 : σ 61 = _ := hn 61 (by decide)
                clear hn
                simp only [h59, h60, h61] at hK
                go_simp
                go_at_call 54
                refine (d2' _).mono ?_
                rintro e W1 ⟨rfl, hb1⟩
                exact hK _ _ rfl (hW.keep hb1)
              · intro Q0 σ s W K hs1 hW hn hK
                simp only [fill, List.filterMap, Act.put, List.setIfInBounds_toArray, List.set_cons_zero, List.set_cons_succ] at hK ⊢
                obtain rfl := hs1 rfl
                have h47 : σ 47 = _ := hn 47 (by decide)
                have h48 : σ 48 = _ := hn 48 (by decide)
                clear hn
                simp only [h47, h48] at hK
                have HW := Lib.hid hW
                clear hW
                go_simp
                exact hK _ _ rfl HW.out
              · intro Q0 σ W K hW hn hK
                simp only [fill, List.filterMap, Act.put, List.setIfInBounds_toArray, List.set_cons_zero, List.set_cons_succ] at hK ⊢
                have h57 : σ 57 = _ := hn 57 (by decide)
                have h63 : σ 63 = _ := hn 63 (by decide)
                clear hn
                simp only [h57, h63] at hK
                obtain ⟨e0, e1, e2, e3⟩ := hW.2.2.2.2.2.cells p p3
                have HW := Lib.hid hW
                clear hW
                go_simp
                exact hK undef _ (fun k hk => by cases hk) (HW.out.store p3 hne1 hgx hgy)
              · intro Q0 σ s W K hs1 hW hn hK
                simp only [fill, List.filterMap, Act.put, List.setIfInBounds_toArray, List.set_cons_zero, List.set_cons_succ] at hK ⊢
                have h49 : σ 49 = _ := hn 49 (by decide)
                have h52 : σ 52 = _ := hn 52 (by decide)
                clear hn
                simp only [h49, h52] at hK
                have HW := Lib.hid hW
                clear hW
                go_simp
                exact hK _ _ rfl HW.out
            · intro σ2 W2 hW hR'
              have h62 : σ2 62 = _ := hR' 62 (by decide)
              have h64 : σ2 64 = _ := hR' 64 (by decide)
              obtain ⟨e0, e1, e2, e3⟩ := hW.2.2.2.2.2.cells q a1
              have HW := Lib.hid hW
              clear hR' hW m1 d1' d2' h0W
              simp only [fill, List.filterMap, Act.put, List.setIfInBounds_toArray, List.set_cons_zero, List.set_cons_succ, List.length_cons, List.length_nil, List.drop_succ_cons, List.drop_zero, Nat.reduceAdd, h62, h64]
              clear h62 h64
              go_wp2_with fail
              go_roundw
              case rel =>
                obtain ⟨b1, b2, b3, b4, b5, b6⟩ := HW.out
                exact ⟨t + 1, p + wh, by omega, by rw [← HWH.out]; exact HNX.out, by go_num, (b1.setCell (Or.inl rfl) _).setCell (Or.inl rfl) _, by simp; exact b2, (b3.far hne1 _ _).far hne1 _ _, fly_setq b6 HZ.out hlt HP.out HQN.out.symm a1 HAA.out HSS.out⟩
              case measure => simp [intOf]; omega
        · obtain ⟨a1, a2⟩ := fly_out HN.out hp ht hlt2
          have m2 := mul_is (enc (fpow c j)) (enc c) (enc (fpow c (j + 1))) (enc_U _) (enc_U _) (by rw [toF_enc, toF_enc, fpow_succ])
          have a3 : (n : Int) ≤ (p : Int) := by omega
          have HA := Lib.hid hA; have HB := Lib.hid hB; have HZ := Lib.hid hz; have HK := Lib.hid hK3; have HS := Lib.hid hs
          have HT : Hid (∀ i, i < n → bfQ h c x j t i = bfQ h c x (j + 1) 0 i) := Lib.hid (fun i hi => by
            show bfp _ _ _ _ _ _ _ _ _ = _
            have : t = T := by omega
            subst this
            exact bfp_next _ _ _ h c x j t i (by rw [← HN.out]; exact hi))
          clear hA hB hz hs hK3 hp a1 a2
          go_wp2_with (go_at_call 45; ((with_reducible refine (m2 _).mono ?_); rintro e w' ⟨rfl, rfl⟩))
          go_roundw
          case rel => exact ⟨j + 1, by omega, by go_num, rfl, HB.out, HS.out, HK.out, ⟨z, HA.out, fun i hi => by rw [← HT.out i hi]; exact HZ.out i hi⟩⟩
          case measure => simp [intOf]; omega
    · have : j = h := by omega
      subst this
      obtain ⟨z, hA, hz⟩ := hA
      have HA := Lib.hid hA; have HB := Lib.hid hB; have HZ := Lib.hid hz
      clear hA hB hz
      go_wp2_with fail
      go_end0
      refine ⟨rfl, HB.out, z, HA.out, fun i hi => ?_⟩
      rw [← bfp_end _ _ _ _ _ _ _ h0]; exact HZ.out i hi

theorem fly_q (g k cap r o : Nat) (hr : r = o + 1) (hk : k ≤ 20) (ho : r ≤ k) (x : Nat → F2) (cc : Bool) (w : World) (h : ArrQ cc w g (2 ^ k) x) :
    Calls Tryd.prog 70 #[kindQ, .slice (some ⟨g, 0, none⟩) (2 ^ k) cap, .int .i64 r] w fun e w' => e = .returned (.tuple #[]) ∧ But g w w' ∧ ArrQ cc w' g (2 ^ k) (bf (· + ·) (· - ·) scale (2 ^ o) (rootOf r) x) :=
  fly_core_q g cap r (2 ^ k) (2 ^ o) (2 ^ (k - r)) (2 * 2 ^ o) (rootOf r) (by omega) (by omega)
    (by rw [show 2 * 2 ^ o = 2 ^ r by rw [hr, Nat.pow_succ, Nat.mul_comm], ← Nat.pow_add]; congr 1; omega) rfl
    (Nat.pow_le_pow_right (i := _) (j := 20) (by decide) hk) (Nat.pow_le_pow_right (i := _) (j := 20) (by decide) (by omega)) (Nat.two_pow_pos o) (Nat.two_pow_pos k)
    (by rw [wrap64_pow r (by omega), hr, Nat.pow_succ, Nat.mul_comm]) (by rw [wrap64_pow (r - 1) (by omega), show r - 1 = o by omega]) rfl x cc w h
end Go.Proofs.YtflabonifbhmnaaDoor
