/-
  The document's examples of layer 4: the call 'awake' answers true.
-/
import Derived.Test.YtflabonifbhmnaaDoorNttC
import Derived.RowKit3
namespace Go.Proofs.YtflabonifbhmnaaDoor
open Go.RowKit Go.Sort Go.BigFrame
set_option linter.unusedVariables false

theorem OneL.ok {w w' : World} {e : Ending} {res xs : List Int} {err : Int} {n : Nat} (h : OneL err res w e w') (he : err = 0) (hr : res = xs) (hn : xs.length = n) : NewOk w n xs e w' := by
  subst he hr
  obtain ⟨a, m, c, h1, h2, h3⟩ := h
  have := h3.at.1
  have : m = n := by omega
  subst this
  exact ⟨a, c, h1, h2, h3⟩
theorem AskForth.yes (hF : AskForth) (a : Option Addr) (len cap : Nat) (zs : List Int) (zi : Int) (k : Nat) (w : World) (hz : U zi) (hk : k ≤ 20) (hr : Row w (.slice a len cap) zs) (hu : ∀ n ∈ zs, U n) (hl : zs.length ≤ 2 ^ k) (ht : Tab w) :
    Calls Tryd.prog 10 #[.slice a len cap, .int .u64 zi, .int .i64 k] w (NewOk w (2 ^ k) (forthL zs (toF zi) k)) := by
  have hok : okF zs.length k := ⟨by omega, by omega, by rw [Int.toNat_natCast]; exact hl⟩
  have P2 : 2 ^ k ≤ 2 ^ 20 := Nat.pow_le_pow_right (by decide) hk
  have := hr.at.1
  refine (hF a len cap zs zi (toF zi) k w hz rfl (by unfold I64; omega) hr hu (by omega) ht).mono fun e w' h => h.ok (by unfold errF; rw [if_pos hok]) (by unfold resF; rw [if_pos hok, Int.toNat_natCast]) (forthL_len _ _ _)
theorem AskBack.yes (hB : AskBack) (a : Option Addr) (len cap : Nat) (zs : List Int) (zi : Int) (k : Nat) (w : World) (hz : U zi) (h0 : toF zi ≠ 0) (hk : k ≤ 20) (hr : Row w (.slice a len cap) zs) (hu : ∀ n ∈ zs, U n) (hl : zs.length = 2 ^ k) (ht : Tab w) :
    Calls Tryd.prog 12 #[.slice a len cap, .int .u64 zi] w (NewOk w (2 ^ k) (backL zs (toF zi) k)) := by
  have hlg : lg zs.length = k := by rw [hl]; exact lg_pow k
  have hok : okB zs.length (toF zi) := ⟨by omega, by omega, h0⟩
  have P2 : 2 ^ k ≤ 2 ^ 20 := Nat.pow_le_pow_right (by decide) hk
  have := hr.at.1
  refine (hB a len cap zs zi (toF zi) w hz rfl hr hu (by omega) ht).mono fun e w' h => h.ok (by unfold errB; rw [if_pos hok]) (by unfold resB; rw [if_pos hok, hlg, Int.toNat_natCast]) (backL_len _ _ _)

/-- Coefficients as they are kept, with noughts behind them. -/
def padL (zs : List Int) (n : Nat) : List Int := (List.range n).map fun j => enc (co zs j)
theorem padL_len (zs : List Int) (n : Nat) : (padL zs n).length = n := by simp [padL]
theorem padL_at (zs : List Int) (n j : Nat) (h : j < n) : (padL zs n).getD j 0 = enc (co zs j) := by simp [padL, List.getD, h]
theorem co_map (f : Nat → F) (n j : Nat) (h : j < n) : co ((List.range n).map fun i => enc (f i)) j = f j := by
  unfold co
  rw [show ((List.range n).map fun i => enc (f i)).getD j 0 = enc (f j) by simp [List.getD, h], toF_enc]
theorem co_forthL (zs : List Int) (s : F) (k i : Nat) (h : i < 2 ^ k) : co (forthL zs s k) i = ev zs.length (co zs) (pt s k i) := co_map _ _ _ h
theorem co_backL (zs : List Int) (s : F) (k i : Nat) (h : i < 2 ^ k) : co (backL zs s k) i = bk s k (co zs) i := co_map _ _ _ h
theorem co_padL (zs : List Int) (n i : Nat) (h : i < n) : co (padL zs n) i = co zs i := co_map _ _ _ h
theorem map_range {f g : Nat → F} {n : Nat} (h : ∀ i, i < n → f i = g i) : ((List.range n).map fun i => enc (f i)) = (List.range n).map fun i => enc (g i) := by
  apply List.map_congr_left
  intro i hi
  rw [h i (List.mem_range.1 hi)]
/-- Forth and back: the coefficients, with noughts behind them. -/
theorem back_forth (zs : List Int) (s : F) (hs : s ≠ 0) (k : Nat) (hk : k ≤ 32) (hl : zs.length ≤ 2 ^ k) : backL (forthL zs s k) s k = padL zs (2 ^ k) := by
  unfold backL padL
  refine map_range fun j hj => ?_
  rw [← bk_ev s hs k hk (co zs) j hj]
  unfold bk
  congr 1
  refine ev_congr fun i hi => ?_
  rw [co_forthL zs s k i hi, ev_more _ hl (fun j hj => co_out zs j hj)]
/-- Back and forth: the values as they are kept. -/
theorem forth_back (zs : List Int) (s : F) (hs : s ≠ 0) (k : Nat) (hk : k ≤ 32) : forthL (backL zs s k) s k = padL zs (2 ^ k) := by
  unfold padL
  rw [show forthL (backL zs s k) s k = (List.range (2 ^ k)).map fun i => enc (ev (backL zs s k).length (co (backL zs s k)) (pt s k i)) from rfl]
  refine map_range fun i hi => ?_
  rw [backL_len, ← ev_bk s hs k hk (co zs) i hi]
  exact ev_congr fun j hj => co_backL zs s k j hj

theorem ex_forth : forthL [1, 2] (toF 1) 1 = [3, 18446744069414584320] := by
  have e0 : pt (toF 1) 1 0 = 1 := by unfold pt; rw [fpow_zero]; decide +kernel
  have e1 : pt (toF 1) 1 1 = -1 := by unfold pt; rw [fpow_one, root_one]; decide +kernel
  show [enc (ev 2 (co [1, 2]) (pt (toF 1) 1 0)), enc (ev 2 (co [1, 2]) (pt (toF 1) 1 1))] = _
  rw [e0, e1]
  decide +kernel
theorem ex_pts : pts (toF 7) 1 = [7, 18446744069414584314] := by
  have e0 : pt (toF 7) 1 0 = 7 := by unfold pt; rw [fpow_zero]; decide +kernel
  have e1 : pt (toF 7) 1 1 = -7 := by unfold pt; rw [fpow_one, root_one]; decide +kernel
  show [enc (pt (toF 7) 1 0), enc (pt (toF 7) 1 1)] = _
  rw [e0, e1]
  decide +kernel

theorem row_cells2 {W : World} {a : Option Addr} {n c : Nat} {x y : Int} (h : Row W (.slice a n c) [x, y]) : n = 2 ∧ ∃ b off : Nat, a = some ⟨b, off, none⟩ ∧ W.cell? ⟨b, off, none⟩ = some (.int .u64 x) ∧ W.cell? ⟨b, off + 1, none⟩ = some (.int .u64 y) := by
  obtain ⟨h1, _, h3⟩ := h.at
  obtain ⟨b, off, e, c0⟩ := h3 0 (by rw [← h1]; simp)
  obtain ⟨b2, off2, e2, c1⟩ := h3 1 (by rw [← h1]; simp)
  rw [e] at e2
  cases e2
  exact ⟨by rw [← h1]; rfl, b, off, e, c0, c1⟩

set_option maxRecDepth 100000 in
set_option maxHeartbeats 4000000 in
theorem nawake_any (hF : AskForth) (hB : AskBack) (hP : AskPoints) (w : World) (ht : Tab w) : Calls Tryd.prog 9 #[] w fun e w' => e = .returned (.bool true) ∧ Below w.heap.size w w' := by
  have u1 : U 1 := U_lit _ rfl rfl
  have u12 : ∀ n ∈ [(1 : Int), 2], U n := by intro n hn; simp at hn; rcases hn with rfl | rfl <;> exact U_lit _ rfl rfl
  have u123 : ∀ n ∈ [(1 : Int), 2, 3], U n := by intro n hn; simp at hn; rcases hn with rfl | rfl | rfl <;> exact U_lit _ rfl rfl
  have u3 : ∀ n ∈ [(3 : Int), 18446744069414584320], U n := by intro n hn; simp at hn; rcases hn with rfl | rfl <;> exact U_lit _ rfl rfl
  have k1 := fun W a c h t => hF a 2 c [1, 2] 1 (toF 1) 1 W u1 rfl (by unfold I64; omega) h u12 (by omega) t
  rw [show errF [(1 : Int), 2].length 1 = 0 by decide +kernel, show resF [1, 2] (toF 1) 1 = [3, 18446744069414584320] by unfold resF; rw [if_pos (by decide)]; exact ex_forth] at k1
  have k2 := fun W a c h t => hB a 2 c [3, 18446744069414584320] 1 (toF 1) W u1 rfl h u3 (by omega) t
  rw [show errB [(3 : Int), 18446744069414584320].length (toF 1) = 0 by decide +kernel, show resB [3, 18446744069414584320] (toF 1) = [1, 2] by
    unfold resB
    rw [if_pos (by decide +kernel), show (lg ([3, 18446744069414584320] : List Int).length).toNat = 1 by decide +kernel, ← ex_forth, back_forth _ _ (by decide +kernel) _ (by omega) (by decide)]
    decide +kernel] at k2
  have k3 := fun W a c h t => hF a 3 c [1, 2, 3] 1 (toF 1) 1 W u1 rfl (by unfold I64; omega) h u123 (by omega) t
  rw [show errF [(1 : Int), 2, 3].length 1 = 1 by decide +kernel] at k3
  have k4 := fun W a c h t => hB a 3 c [1, 2, 3] 1 (toF 1) W u1 rfl h u123 (by omega) t
  rw [show errB [(1 : Int), 2, 3].length (toF 1) = 1 by decide +kernel] at k4
  have k5 := fun W a c h t => hB a 2 c [1, 2] 0 (toF 0) W (U_lit _ rfl rfl) rfl h u12 (by omega) t
  rw [show errB [(1 : Int), 2].length (toF 0) = 1 by decide +kernel] at k5
  have k6 := fun W t => hP 7 (toF 7) 1 W (U_lit _ rfl rfl) rfl (by omega) t
  rw [ex_pts] at k6
  unfold OneL at k1 k2 k3 k4 k5
  unfold NewRow at k6
  rw [show (((1 : Nat) : Int)) = 1 from rfl, show 2 ^ 1 = 2 from rfl] at k6
  clear hF hB hP u1 u12 u123 u3
  go_enter Tryd.func9, Tryd.ntmps9
  go_upto_region 2 with ((go_at_call 10; ((with_reducible refine (k1 _ _ _ (row_two (by simp [go_sem]) (by simp [go_sem])) (ht.keep ((Below.refl _ _).alloc (Nat.le_refl _) _))).mono ?_); rintro e w1 ⟨a1, n1, c1, rfl, hb, h1⟩; replace hb := bthen ((Below.refl _ _).alloc (Nat.le_refl _) _) hb; obtain ⟨rfl, b1, o1, rfl, p1, q1⟩ := row_cells2 h1)))
  refine wp_gen (fun W => Below w.heap.size w W ∧ Tab W ∧ Row W (.slice (some ⟨b1, o1, none⟩) 2 c1) [3, 18446744069414584320]) ⟨hb, ht.keep hb, h1⟩ ?_
  clear hb ht h1 p1 q1
  rintro W ⟨hB, ht, h1⟩
  go_upto_region 3 with ((go_at_call 12; ((with_reducible refine (k2 _ _ _ h1 ht).mono ?_); rintro e w2 ⟨a2, n2, c2, rfl, hb, h2⟩; obtain ⟨rfl, b2, o2, rfl, p2, q2⟩ := row_cells2 h2)))
  obtain ⟨_, b1', o1', e1, p1, q1⟩ := row_cells2 (h1.below hb)
  cases e1
  refine wp_gen (fun W => Below w.heap.size w W ∧ Tab W ∧ W.cell? ⟨b1, o1, none⟩ = some (.int .u64 3) ∧ W.cell? ⟨b1, o1 + 1, none⟩ = some (.int .u64 18446744069414584320) ∧ W.cell? ⟨b2, o2, none⟩ = some (.int .u64 1) ∧ W.cell? ⟨b2, o2 + 1, none⟩ = some (.int .u64 2)) ⟨bthen hB hb, ht.keep hb, p1, q1, p2, q2⟩ ?_
  clear hb hB ht h1 h2 p1 q1 p2 q2 k1 k2
  rintro W2 ⟨hB, ht, p1, q1, p2, q2⟩
  go_upto_region 4 with ((go_at_call 10; ((with_reducible refine (k3 _ _ _ (row_tri (by simp [go_sem]) (by simp [go_sem]) (by simp [go_sem])) (ht.keep ((Below.refl _ _).alloc (Nat.le_refl _) _))).mono ?_); rintro e w3 ⟨a3, n3, c3, rfl, hb, _⟩; replace hb := bthen ((Below.refl _ _).alloc (Nat.le_refl _) _) hb; replace ht := ht.keep hb; replace p1 := bkeep hb p1; replace q1 := bkeep hb q1; replace p2 := bkeep hb p2; replace q2 := bkeep hb q2; replace hB := bthen hB hb; clear hb)))
  go_upto_region 5 with ((go_at_call 12; ((with_reducible refine (k4 _ _ _ (row_tri (by simp [go_sem]) (by simp [go_sem]) (by simp [go_sem])) (ht.keep ((Below.refl _ _).alloc (Nat.le_refl _) _))).mono ?_); rintro e w4 ⟨a4, n4, c4, rfl, hb, _⟩; replace hb := bthen ((Below.refl _ _).alloc (Nat.le_refl _) _) hb; replace ht := ht.keep hb; replace p1 := bkeep hb p1; replace q1 := bkeep hb q1; replace p2 := bkeep hb p2; replace q2 := bkeep hb q2; replace hB := bthen hB hb; clear hb)))
  go_upto_region 6 with ((go_at_call 12; ((with_reducible refine (k5 _ _ _ (row_two (by simp [go_sem]) (by simp [go_sem])) (ht.keep ((Below.refl _ _).alloc (Nat.le_refl _) _))).mono ?_); rintro e w5 ⟨a5, n5, c5, rfl, hb, _⟩; replace hb := bthen ((Below.refl _ _).alloc (Nat.le_refl _) _) hb; replace ht := ht.keep hb; replace p1 := bkeep hb p1; replace q1 := bkeep hb q1; replace p2 := bkeep hb p2; replace q2 := bkeep hb q2; replace hB := bthen hB hb; clear hb)))
  go_wp2_with ((go_at_call 15; ((with_reducible refine (k6 _ ht).mono ?_); rintro e w6 ⟨a6, c6, rfl, hb, h6⟩; replace p1 := bkeep hb p1; replace q1 := bkeep hb q1; replace p2 := bkeep hb p2; replace q2 := bkeep hb q2; replace hB := bthen hB hb; clear hb; obtain ⟨_, b6, o6, rfl, p6, q6⟩ := row_cells2 h6)))
  go_ret
  exact ⟨rfl, hB⟩
end Go.Proofs.YtflabonifbhmnaaDoor
