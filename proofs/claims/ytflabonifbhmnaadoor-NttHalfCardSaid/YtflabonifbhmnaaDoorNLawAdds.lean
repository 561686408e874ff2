/-
  The walk of NttAdds: it answers true, where the program's calls do what is asked of them. (Written by gen_nadds.py.)
-/
import Derived.Test.YtflabonifbhmnaaDoorNAwake
import Derived.Deep.QuietTactic
import Derived.BigQuiet
namespace Go.Proofs.YtflabonifbhmnaaDoor
open Go.RowKit Go.Sort Go.BigFrame
set_option linter.unusedVariables false

/-- So many times one row, and another. -/
def sumL (xs ys : List Int) (b : F) : List Int := (List.range xs.length).map fun j => enc (b * co xs j + co ys j)
theorem sumL_len (xs ys : List Int) (b : F) : (sumL xs ys b).length = xs.length := by simp [sumL]
theorem sumL_at (xs ys : List Int) (b : F) (j : Nat) (h : j < xs.length) : (sumL xs ys b).getD j 0 = enc (b * co xs j + co ys j) := by simp [sumL, List.getD, h]
theorem sumL_U (xs ys : List Int) (b : F) : ∀ n ∈ sumL xs ys b, U n := by
  intro n hn
  simp only [sumL, List.mem_map] at hn
  obtain ⟨z, _, rfl⟩ := hn
  exact enc_U _
/-- What the sum comes to. -/
theorem forth_sum (xs ys : List Int) (b s : F) (k i : Nat) (hl : xs.length = ys.length) (h : i < 2 ^ k) :
    (forthL (sumL xs ys b) s k).getD i 0 = enc (b * toF ((forthL xs s k).getD i 0) + toF ((forthL ys s k).getD i 0)) := by
  rw [forthL_at _ _ _ _ h, forthL_at _ _ _ _ h, forthL_at _ _ _ _ h, toF_enc, toF_enc, sumL_len, ← hl, ← ev_mul, ← ev_add]
  congr 1
  exact ev_congr fun j hj => co_map _ _ _ hj
theorem row_take {w : World} {a : Option Addr} {len cap n : Nat} {zs : List Int} (h : Row w (.slice a len cap) zs) (hn : n ≤ len) : Row w (.slice a n cap) (zs.take n) := by
  rcases h with ⟨h, rfl⟩ | ⟨x, c, h, rfl⟩ | ⟨b, off, c, h, hc, hm, hcell⟩
  · cases h
    obtain rfl : n = 0 := by omega
    exact Or.inl ⟨rfl, by simp⟩
  · cases h
    obtain rfl : n = 0 := by omega
    exact Or.inr (Or.inl ⟨x, cap, rfl, by simp⟩)
  · cases h
    by_cases h0 : n = 0
    · subst h0
      exact Or.inr (Or.inl ⟨_, cap, rfl, by simp⟩)
    · have hlen : (zs.take n).length = n := by rw [List.length_take]; omega
      refine Or.inr (Or.inr ⟨b, off, cap, by rw [hlen], by omega, hm, fun i hi => ?_⟩)
      rw [hlen] at hi
      rw [hcell i (by omega)]
      simp [List.getD, hi]
theorem row_cap {w : World} {a : Option Addr} {len cap : Nat} {zs : List Int} (h : Row w (.slice a len cap) zs) : len ≤ cap := by
  rcases h with ⟨h, rfl⟩ | ⟨x, c, h, rfl⟩ | ⟨b, off, c, h, hc, hm, hcell⟩
  · cases h; omega
  · cases h; omega
  · cases h; omega
theorem take_at (zs : List Int) (n j : Nat) (h : j < n) : (zs.take n).getD j 0 = zs.getD j 0 := by simp [List.getD, h]
theorem take_U {zs : List Int} (h : ∀ n ∈ zs, U n) (n : Nat) : ∀ m ∈ zs.take n, U m := fun m hm => h m (List.mem_of_mem_take hm)
theorem adds_fin {xs ys : List Int} {b : F} {k : Nat} {x : Int} (n : Nat) (hx : (sumL xs ys b).getD k 0 = x) : ∀ j, j < n → (if j = k then Value.int .u64 x else .int .u64 (if j < k then (sumL xs ys b).getD j 0 else 0)) = .int .u64 (if j < k + 1 then (sumL xs ys b).getD j 0 else 0) := by
  intro j hj
  by_cases h : j = k
  · subst h; rw [if_pos rfl, if_pos (by omega), hx]
  · rw [if_neg h]
    by_cases h2 : j < k
    · rw [if_pos h2, if_pos (by omega)]
    · rw [if_neg h2, if_neg (by omega)]
theorem same_quiet {f : FuncId} {args : Array Value} {v : Value} {w : World} (h : Calls Tryd.prog f args w fun e w' => e = .returned v ∧ w = w') : Calls Tryd.prog f args w fun e w' => e = .returned v ∧ ∃ n, w' = w.drewN n :=
  h.mono fun _ _ ⟨he, hn⟩ => ⟨he, 0, hn ▸ rfl⟩
def AddsHead (w : World) (xs ys : List Int) (b : F) (n g : Nat) (i : Value) (W : World) : Prop :=
  ∃ k : Nat, k ≤ n ∧ i = .int .i64 k ∧ Below w.heap.size w W ∧ Arr W g n (fun j => .int .u64 (if j < k then (sumL xs ys b).getD j 0 else 0))
def AddsR (g n k b1 o1 l1 c1 b2 o2 l2 c2 : Nat) (y x t z q : Int) (sl : Nat) (v : Value) (W : World) : Prop :=
  match sl with
  | 32 => v = .slice (some ⟨g, 0, none⟩) n n
  | 33 => v = .int .i64 k
  | 34 => v = .int .u64 y
  | 35 => v = .slice (some ⟨b1, o1, none⟩) l1 c1
  | 36 => v = .int .i64 k
  | 37 => v = .pointer (some ⟨b1, o1 + k, none⟩)
  | 38 => v = .int .u64 x
  | 39 => v = .int .u64 t
  | 40 => v = .slice (some ⟨b2, o2, none⟩) l2 c2
  | 41 => v = .int .i64 k
  | 42 => v = .pointer (some ⟨b2, o2 + k, none⟩)
  | 43 => v = .int .u64 z
  | 44 => v = .int .u64 q
  | _ => v = .pointer (some ⟨g, k, none⟩)
theorem AddsR.keep {g n k b1 o1 l1 c1 b2 o2 l2 c2 : Nat} {y x t z q : Int} {sl : Nat} {v : Value} {W W' : World} (h : AddsR g n k b1 o1 l1 c1 b2 o2 l2 c2 y x t z q sl v W) (hb : Below W.heap.size W W') : AddsR g n k b1 o1 l1 c1 b2 o2 l2 c2 y x t z q sl v W' := h

set_option maxHeartbeats 8000000 in
theorem nadds_le (hF : AskForth) (hBk : AskBack) (hP : AskPoints) (n : Nat) (a : Option Addr) (cap : Nat) (zs : List Int) (a2 : Option Addr) (len2 cap2 : Nat) (ys : List Int) (bi : Int) (hbi : U bi) (hmin : n ≤ len2) (w : World) (ht : Tab w)
    (hr : Row w (.slice a n cap) zs) (hu : ∀ n ∈ zs, U n) (hr2 : Row w (.slice a2 len2 cap2) ys) (hu2 : ∀ n ∈ ys, U n) :
    Calls Tryd.prog 6 #[.slice a n cap, .slice a2 len2 cap2, .int .u64 bi] w fun e w' => e = .returned (.bool true) ∧ Below w.heap.size w w' := by
  have hlm := hr.at.2.1
  have hlm2 := hr2.at.2.1
  have hz1 := hr.at.1
  have hz2 := hr2.at.1
  unfold maxLen at hlm hlm2
  have aw := fun W t => nawake_any hF hBk hP W t
  have hn1 : n ≤ n := by omega
  have hn2 : n ≤ len2 := by omega
  have hmi : (n : Int) ≤ (len2 : Int) := by omega
  by_cases hc : n ≤ 64
  · have hmk := fun W => run_make_row' (P := Tryd.prog) 22 23 (.int .u64 0) 8 Tryd.underlying22 info64' rfl .i64 .i64 n (by omega) (by omega) W
    have l1 : (zs.take n).length = n := by rw [List.length_take]; omega
    have l2 : (ys.take n).length = n := by rw [List.length_take]; omega
    have f1 := fun a' c' W h t => hF.yes a' n c' (zs.take n) 7 6 W (U_lit _ rfl rfl) (by omega) h (take_U hu n) (by omega) t
    have f2 := fun a' c' W h t => hF.yes a' n c' (ys.take n) 7 6 W (U_lit _ rfl rfl) (by omega) h (take_U hu2 n) (by omega) t
    have f3 := fun a' c' W h t => hF.yes a' n c' (sumL (zs.take n) (ys.take n) (toF bi)) 7 6 W (U_lit _ rfl rfl) (by omega) h (sumL_U _ _ _) (by rw [sumL_len]; omega) t
    rw [show (((6 : Nat) : Int)) = 6 from rfl, show 2 ^ 6 = 64 from rfl] at f1 f2 f3
    unfold NewOk at f1 f2 f3
    have HSUM := Lib.hid (fun i h => forth_sum (zs.take n) (ys.take n) (toF bi) (toF 7) 6 i (by omega) h)
    have HX := Lib.hid (sumL_at (zs.take n) (ys.take n) (toF bi))
    have HT1 := Lib.hid (take_at zs n); have HT2 := Lib.hid (take_at ys n)
    have HL := Lib.hid ((sumL_len (zs.take n) (ys.take n) (toF bi)).trans l1)
    have HU1 := Lib.hid (U_getD hu); have HU2 := Lib.hid (U_getD hu2)
    have HR := Lib.hid hr; have HR2 := Lib.hid hr2
    have HF1 := Lib.hid (forthL_U (zs.take n) (toF 7) 6); have HF2 := Lib.hid (forthL_U (ys.take n) (toF 7) 6)
    have HFL1 := Lib.hid (forthL_len (zs.take n) (toF 7) 6); have HFL2 := Lib.hid (forthL_len (ys.take n) (toF 7) 6)
    have HB := Lib.hid hbi
    have L1 := Lib.hid l1; have HZ1 := Lib.hid hz1; have HZ2 := Lib.hid hz2
    clear hu hu2 hF hBk hP hbi hr hr2 l1 l2 hz1 hz2
    go_enter Tryd.func6, Tryd.ntmps6
    go_upto_region 6 with fail
    go_loopw [9] (AddsHead w (zs.take n) (ys.take n) (toF bi) n w.heap.size) (fun i _ => n - (intOf i).toNat)
    case atStart => exact ⟨0, Nat.zero_le _, rfl, (Below.refl _ _).alloc (Nat.le_refl _) _, (Arr.new w _ _ _).same (fun j hj => by simp [Nat.mod_one])⟩
    case round =>
      obtain ⟨k, hk, rfl, hW, hA⟩ := hrel
      by_cases hlt : k < n
      · obtain ⟨b1, o1, rfl, g0⟩ := HR.out.at.2.2 k (by omega)
        obtain ⟨b2, o2, rfl, g1⟩ := HR2.out.at.2.2 k (by omega)
        replace g0 := bkeep hW g0
        replace g1 := bkeep hW g1
        have gx := HU1.out k (by rw [HZ1.out]; omega)
        have gz := HU2.out k (by rw [HZ2.out]; omega)
        have m1 := fun W => ref_below (refmul_any bi (zs.getD k 0) HB.out gx W)
        have a1 := fun W => same_below (refadd_any (enc (toF bi * toF (zs.getD k 0))) (ys.getD k 0) (enc_U _) gz W)
        rw [toF_enc] at a1
        have hx := HX.out k (by rw [L1.out]; exact hlt)
        unfold co at hx
        rw [HT1.out k hlt, HT2.out k hlt] at hx
        rw [← hx] at a1
        obtain ⟨q, hq⟩ : ∃ q, (sumL (zs.take n) (ys.take n) (toF bi)).getD k 0 = q := ⟨_, rfl⟩
        rw [hq] at a1
        have HS := Lib.hid (adds_fin n hq)
        have c0 := (hA k hlt).1
        have f0 := (hA k hlt).2
        have HA := Lib.hid hA; have HW := Lib.hid hW
        clear hA hW gx gz hx hq
        generalize enc (toF bi * toF (zs.getD k 0)) = t at *
        generalize zs.getD k 0 = x at *
        generalize ys.getD k 0 = z at *
        have hlt' : (k : Int) < (n : Int) := by omega
        have hlt1 : (k : Int) < (n : Int) := by omega
        have hlt2 : (k : Int) < (len2 : Int) := by omega
        have hk0 : (0 : Int) ≤ (k : Int) := by omega
        clear f1 f2 f3
        go_upto_region 8 with fail
        refine wp_loose [(32, []), (33, []), (34, []), (35, []), (36, []), (37, [35, 36]), (38, [37]), (39, [34, 38]), (40, []), (41, []), (42, [40, 41]), (43, [42]), (44, [39, 43]), (45, [32, 33])]
          (AddsR w.heap.size n k b1 o1 n cap b2 o2 len2 cap2 bi x t z q) (fun d => false) (by kernel_rfl) (by kernel_rfl) (fun _ _ _ _ h hb => h.keep hb) ?_ ?_
        · refine opsrun_cons ?_ (opsrun_cons ?_ (opsrun_cons ?_ (opsrun_cons ?_ (opsrun_cons ?_ (opsrun_cons ?_ (opsrun_cons ?_ (opsrun_cons ?_ (opsrun_cons ?_ (opsrun_cons ?_ (opsrun_cons ?_ (opsrun_cons ?_ (opsrun_cons ?_ (opsrun_cons ?_ opsrun_nil)))))))))))))
          all_goals
            refine OpRuns.any ?_
            intro Q0 σ W' K hb hn hK
            simp only [fill, List.map, Act.put, List.setIfInBounds_toArray, List.set_cons_zero, List.set_cons_succ] at hK ⊢
          · clear hn
            go_simp
            exact hK _ _ rfl (Below.refl _ _) (fun h => absurd h (by decide))
          · clear hn
            go_simp
            exact hK _ _ rfl (Below.refl _ _) (fun h => absurd h (by decide))
          · clear hn
            go_simp
            exact hK _ _ rfl (Below.refl _ _) (fun h => absurd h (by decide))
          · clear hn
            go_simp
            exact hK _ _ rfl (Below.refl _ _) (fun h => absurd h (by decide))
          · clear hn
            go_simp
            exact hK _ _ rfl (Below.refl _ _) (fun h => absurd h (by decide))
          · have h35 : σ 35 = _ := hn 35 (by decide)
            have h36 : σ 36 = _ := hn 36 (by decide)
            clear hn
            simp only [h35, h36] at hK
            go_simp
            exact hK _ _ rfl (Below.refl _ _) (fun h => absurd h (by decide))
          · have h37 : σ 37 = _ := hn 37 (by decide)
            clear hn
            simp only [h37] at hK
            have g0' := bkeep hb g0
            clear g0
            go_simp
            exact hK _ _ rfl (Below.refl _ _) (fun h => absurd h (by decide))
          · have h34 : σ 34 = _ := hn 34 (by decide)
            have h38 : σ 38 = _ := hn 38 (by decide)
            clear hn
            simp only [h34, h38] at hK
            go_simp
            go_at_call 23
            refine (m1 _).mono ?_
            rintro e w1 ⟨rfl, hb1⟩
            exact hK _ _ rfl hb1 (fun h => absurd h (by decide))
          · clear hn
            go_simp
            exact hK _ _ rfl (Below.refl _ _) (fun h => absurd h (by decide))
          · clear hn
            go_simp
            exact hK _ _ rfl (Below.refl _ _) (fun h => absurd h (by decide))
          · have h40 : σ 40 = _ := hn 40 (by decide)
            have h41 : σ 41 = _ := hn 41 (by decide)
            clear hn
            simp only [h40, h41] at hK
            go_simp
            exact hK _ _ rfl (Below.refl _ _) (fun h => absurd h (by decide))
          · have h42 : σ 42 = _ := hn 42 (by decide)
            clear hn
            simp only [h42] at hK
            have g1' := bkeep hb g1
            clear g1
            go_simp
            exact hK _ _ rfl (Below.refl _ _) (fun h => absurd h (by decide))
          · have h39 : σ 39 = _ := hn 39 (by decide)
            have h43 : σ 43 = _ := hn 43 (by decide)
            clear hn
            simp only [h39, h43] at hK
            go_simp
            go_at_call 22
            refine (a1 _).mono ?_
            rintro e w1 ⟨rfl, hb1⟩
            exact hK _ _ rfl hb1 (fun h => absurd h (by decide))
          · have h32 : σ 32 = _ := hn 32 (by decide)
            have h33 : σ 33 = _ := hn 33 (by decide)
            clear hn
            simp only [h32, h33] at hK
            go_simp
            exact hK _ _ rfl (Below.refl _ _) (fun h => absurd h (by decide))
        · intro σ W' hb hR' hF'
          have h44 : σ 44 = _ := hR' 44 (by decide)
          have h45 : σ 45 = _ := hR' 45 (by decide)
          have c0' := bkeep hb c0
          have f0' := bfree hb c0 f0
          have HB2 := Lib.hid (bthen HW.out hb)
          have HA2 := Lib.hid hb
          clear hR' hF' c0 f0 g0 g1 m1 a1 hb
          simp only [fill, List.map, Act.put, List.setIfInBounds_toArray, List.set_cons_zero, List.set_cons_succ, List.length_cons, List.length_nil, List.drop_succ_cons, List.drop_zero, Nat.reduceAdd, h44, h45]
          clear h44 h45
          go_wp2
          go_roundw
          case rel => exact ⟨k + 1, by omega, by go_num, HB2.out.setCell (by simp) _, ((HA.out.keep HA2.out).set k _ hlt).same HS.out⟩
          case measure => simp [intOf]; omega
      · obtain rfl : k = n := by omega
        have h3 := Arr.row (hA.same (fun j hj => by rw [if_pos hj])) HL.out (by unfold maxLen; omega)
        have h1 := row_take (HR.out.below hW) hn1
        have h2 := row_take (HR2.out.below hW) hn2
        replace ht := ht.keep hW
        have q1 := row_cap HR.out
        have q2 := row_cap HR2.out
        clear hA hlt
        go_upto_region 10 with ((go_at_call 10; ((with_reducible refine (f1 _ _ _ h1 ht).mono ?_); rintro e w1 ⟨a3, c3, rfl, hb, k1⟩; replace h2 := h2.below hb; replace h3 := h3.below hb; replace ht := ht.keep hb; replace hW := bthen hW hb; clear hb h1)))
        go_upto_region 11 with ((go_at_call 10; ((with_reducible refine (f2 _ _ _ h2 ht).mono ?_); rintro e w2 ⟨a4, c4, rfl, hb, k2⟩; replace k1 := k1.below hb; replace h3 := h3.below hb; replace ht := ht.keep hb; replace hW := bthen hW hb; clear hb h2)))
        go_upto_region 12 with ((go_at_call 10; ((with_reducible refine (f3 _ _ _ h3 ht).mono ?_); rintro e w3 ⟨a5, c5, rfl, hb, k3⟩; replace k1 := k1.below hb; replace k2 := k2.below hb; replace ht := ht.keep hb; replace hW := bthen hW hb; clear hb h3)))
        have K1 := Lib.hid k1.at; have K2 := Lib.hid k2.at; have K3 := Lib.hid k3.at
        clear k1 k2 k3 f1 f2 f3 q1 q2
        go_upto_region 15 with fail
        go_loopw [16] (fun i W' => ∃ j : Nat, j ≤ 64 ∧ i = .int .i64 j ∧ Below w3.heap.size w3 W') (fun i _ => 64 - (intOf i).toNat)
        case atStart => exact ⟨0, Nat.zero_le _, rfl, Below.refl _ _⟩
        case round =>
          obtain ⟨j, hj, rfl, hV⟩ := hrel
          by_cases hlt : j < 64
          · obtain ⟨b3, o3, e3, g3⟩ := (K1.out.keep hV).2.2 j hlt
            obtain ⟨b4, o4, e4, g4⟩ := (K2.out.keep hV).2.2 j hlt
            obtain ⟨b5, o5, e5, g5⟩ := (K3.out.keep hV).2.2 j hlt
            subst e3 e4 e5
            have gx := U_getD HF1.out j (by rw [HFL1.out]; exact hlt)
            have gz := U_getD HF2.out j (by rw [HFL2.out]; exact hlt)
            rw [HSUM.out j hlt] at g5
            have m1 := fun W => refmul_any bi ((forthL (zs.take k) (toF 7) 6).getD j 0) HB.out gx W
            have a1 := fun W => refadd_any (enc (toF bi * toF ((forthL (zs.take k) (toF 7) 6).getD j 0))) ((forthL (ys.take k) (toF 7) 6).getD j 0) (enc_U _) gz W
            rw [toF_enc] at a1
            have HV := Lib.hid hV
            clear hV gx gz
            generalize enc (toF bi * toF ((forthL (zs.take k) (toF 7) 6).getD j 0) + toF ((forthL (ys.take k) (toF 7) 6).getD j 0)) = y at *
            generalize enc (toF bi * toF ((forthL (zs.take k) (toF 7) 6).getD j 0)) = t at *
            generalize (forthL (zs.take k) (toF 7) 6).getD j 0 = x at *
            generalize (forthL (ys.take k) (toF 7) 6).getD j 0 = z at *
            have hlt' : (j : Int) < 64 := by omega
            have hj0 : (0 : Int) ≤ (j : Int) := by omega
            go_upto_region 17 with fail
            go_quiet (first | (go_at_call 23; exact Calls.quiet_of (m1 _)) | (go_at_call 22; exact Calls.quiet_of (same_quiet (a1 _))))
            go_wp2
            go_roundw
            case rel => exact ⟨j + 1, by omega, by go_num, below_drewN HV.out _⟩
            case measure => simp [intOf]; omega
          · replace ht := ht.keep hV
            replace hW := bthen hW hV
            go_wp2_with (go_at_call 9; ((with_reducible refine (aw _ ht).mono ?_); rintro e w4 ⟨rfl, hb⟩; replace hW := bthen hW hb))
            go_ret
            exact ⟨rfl, hW⟩
  · have c2 : 64 < (n : Int) := by omega
    clear hr hu hr2 hu2 hF hBk hP hc
    go_enter Tryd.func6, Tryd.ntmps6
    go_wp2_with (go_at_call 9; ((with_reducible refine (aw _ ht).mono ?_); rintro e w1 ⟨rfl, hb⟩))
    go_ret
    exact ⟨rfl, hb⟩
set_option maxHeartbeats 8000000 in
theorem nadds_gt (hF : AskForth) (hBk : AskBack) (hP : AskPoints) (n : Nat) (a : Option Addr) (len cap : Nat) (zs : List Int) (a2 : Option Addr) (cap2 : Nat) (ys : List Int) (bi : Int) (hbi : U bi) (hmin : n < len) (w : World) (ht : Tab w)
    (hr : Row w (.slice a len cap) zs) (hu : ∀ n ∈ zs, U n) (hr2 : Row w (.slice a2 n cap2) ys) (hu2 : ∀ n ∈ ys, U n) :
    Calls Tryd.prog 6 #[.slice a len cap, .slice a2 n cap2, .int .u64 bi] w fun e w' => e = .returned (.bool true) ∧ Below w.heap.size w w' := by
  have hlm := hr.at.2.1
  have hlm2 := hr2.at.2.1
  have hz1 := hr.at.1
  have hz2 := hr2.at.1
  unfold maxLen at hlm hlm2
  have aw := fun W t => nawake_any hF hBk hP W t
  have hn1 : n ≤ len := by omega
  have hn2 : n ≤ n := by omega
  have hmi : ¬ (len : Int) ≤ (n : Int) := by omega
  by_cases hc : n ≤ 64
  · have hmk := fun W => run_make_row' (P := Tryd.prog) 22 23 (.int .u64 0) 8 Tryd.underlying22 info64' rfl .i64 .i64 n (by omega) (by omega) W
    have l1 : (zs.take n).length = n := by rw [List.length_take]; omega
    have l2 : (ys.take n).length = n := by rw [List.length_take]; omega
    have f1 := fun a' c' W h t => hF.yes a' n c' (zs.take n) 7 6 W (U_lit _ rfl rfl) (by omega) h (take_U hu n) (by omega) t
    have f2 := fun a' c' W h t => hF.yes a' n c' (ys.take n) 7 6 W (U_lit _ rfl rfl) (by omega) h (take_U hu2 n) (by omega) t
    have f3 := fun a' c' W h t => hF.yes a' n c' (sumL (zs.take n) (ys.take n) (toF bi)) 7 6 W (U_lit _ rfl rfl) (by omega) h (sumL_U _ _ _) (by rw [sumL_len]; omega) t
    rw [show (((6 : Nat) : Int)) = 6 from rfl, show 2 ^ 6 = 64 from rfl] at f1 f2 f3
    unfold NewOk at f1 f2 f3
    have HSUM := Lib.hid (fun i h => forth_sum (zs.take n) (ys.take n) (toF bi) (toF 7) 6 i (by omega) h)
    have HX := Lib.hid (sumL_at (zs.take n) (ys.take n) (toF bi))
    have HT1 := Lib.hid (take_at zs n); have HT2 := Lib.hid (take_at ys n)
    have HL := Lib.hid ((sumL_len (zs.take n) (ys.take n) (toF bi)).trans l1)
    have HU1 := Lib.hid (U_getD hu); have HU2 := Lib.hid (U_getD hu2)
    have HR := Lib.hid hr; have HR2 := Lib.hid hr2
    have HF1 := Lib.hid (forthL_U (zs.take n) (toF 7) 6); have HF2 := Lib.hid (forthL_U (ys.take n) (toF 7) 6)
    have HFL1 := Lib.hid (forthL_len (zs.take n) (toF 7) 6); have HFL2 := Lib.hid (forthL_len (ys.take n) (toF 7) 6)
    have HB := Lib.hid hbi
    have L1 := Lib.hid l1; have HZ1 := Lib.hid hz1; have HZ2 := Lib.hid hz2
    clear hu hu2 hF hBk hP hbi hr hr2 l1 l2 hz1 hz2
    go_enter Tryd.func6, Tryd.ntmps6
    go_upto_region 6 with fail
    go_loopw [9] (AddsHead w (zs.take n) (ys.take n) (toF bi) n w.heap.size) (fun i _ => n - (intOf i).toNat)
    case atStart => exact ⟨0, Nat.zero_le _, rfl, (Below.refl _ _).alloc (Nat.le_refl _) _, (Arr.new w _ _ _).same (fun j hj => by simp [Nat.mod_one])⟩
    case round =>
      obtain ⟨k, hk, rfl, hW, hA⟩ := hrel
      by_cases hlt : k < n
      · obtain ⟨b1, o1, rfl, g0⟩ := HR.out.at.2.2 k (by omega)
        obtain ⟨b2, o2, rfl, g1⟩ := HR2.out.at.2.2 k (by omega)
        replace g0 := bkeep hW g0
        replace g1 := bkeep hW g1
        have gx := HU1.out k (by rw [HZ1.out]; omega)
        have gz := HU2.out k (by rw [HZ2.out]; omega)
        have m1 := fun W => ref_below (refmul_any bi (zs.getD k 0) HB.out gx W)
        have a1 := fun W => same_below (refadd_any (enc (toF bi * toF (zs.getD k 0))) (ys.getD k 0) (enc_U _) gz W)
        rw [toF_enc] at a1
        have hx := HX.out k (by rw [L1.out]; exact hlt)
        unfold co at hx
        rw [HT1.out k hlt, HT2.out k hlt] at hx
        rw [← hx] at a1
        obtain ⟨q, hq⟩ : ∃ q, (sumL (zs.take n) (ys.take n) (toF bi)).getD k 0 = q := ⟨_, rfl⟩
        rw [hq] at a1
        have HS := Lib.hid (adds_fin n hq)
        have c0 := (hA k hlt).1
        have f0 := (hA k hlt).2
        have HA := Lib.hid hA; have HW := Lib.hid hW
        clear hA hW gx gz hx hq
        generalize enc (toF bi * toF (zs.getD k 0)) = t at *
        generalize zs.getD k 0 = x at *
        generalize ys.getD k 0 = z at *
        have hlt' : (k : Int) < (n : Int) := by omega
        have hlt1 : (k : Int) < (len : Int) := by omega
        have hlt2 : (k : Int) < (n : Int) := by omega
        have hk0 : (0 : Int) ≤ (k : Int) := by omega
        clear f1 f2 f3
        go_upto_region 8 with fail
        refine wp_loose [(32, []), (33, []), (34, []), (35, []), (36, []), (37, [35, 36]), (38, [37]), (39, [34, 38]), (40, []), (41, []), (42, [40, 41]), (43, [42]), (44, [39, 43]), (45, [32, 33])]
          (AddsR w.heap.size n k b1 o1 len cap b2 o2 n cap2 bi x t z q) (fun d => false) (by kernel_rfl) (by kernel_rfl) (fun _ _ _ _ h hb => h.keep hb) ?_ ?_
        · refine opsrun_cons ?_ (opsrun_cons ?_ (opsrun_cons ?_ (opsrun_cons ?_ (opsrun_cons ?_ (opsrun_cons ?_ (opsrun_cons ?_ (opsrun_cons ?_ (opsrun_cons ?_ (opsrun_cons ?_ (opsrun_cons ?_ (opsrun_cons ?_ (opsrun_cons ?_ (opsrun_cons ?_ opsrun_nil)))))))))))))
          all_goals
            refine OpRuns.any ?_
            intro Q0 σ W' K hb hn hK
            simp only [fill, List.map, Act.put, List.setIfInBounds_toArray, List.set_cons_zero, List.set_cons_succ] at hK ⊢
          · clear hn
            go_simp
            exact hK _ _ rfl (Below.refl _ _) (fun h => absurd h (by decide))
          · clear hn
            go_simp
            exact hK _ _ rfl (Below.refl _ _) (fun h => absurd h (by decide))
          · clear hn
            go_simp
            exact hK _ _ rfl (Below.refl _ _) (fun h => absurd h (by decide))
          · clear hn
            go_simp
            exact hK _ _ rfl (Below.refl _ _) (fun h => absurd h (by decide))
          · clear hn
            go_simp
            exact hK _ _ rfl (Below.refl _ _) (fun h => absurd h (by decide))
          · have h35 : σ 35 = _ := hn 35 (by decide)
            have h36 : σ 36 = _ := hn 36 (by decide)
            clear hn
            simp only [h35, h36] at hK
            go_simp
            exact hK _ _ rfl (Below.refl _ _) (fun h => absurd h (by decide))
          · have h37 : σ 37 = _ := hn 37 (by decide)
            clear hn
            simp only [h37] at hK
            have g0' := bkeep hb g0
            clear g0
            go_simp
            exact hK _ _ rfl (Below.refl _ _) (fun h => absurd h (by decide))
          · have h34 : σ 34 = _ := hn 34 (by decide)
            have h38 : σ 38 = _ := hn 38 (by decide)
            clear hn
            simp only [h34, h38] at hK
            go_simp
            go_at_call 23
            refine (m1 _).mono ?_
            rintro e w1 ⟨rfl, hb1⟩
            exact hK _ _ rfl hb1 (fun h => absurd h (by decide))
          · clear hn
            go_simp
            exact hK _ _ rfl (Below.refl _ _) (fun h => absurd h (by decide))
          · clear hn
            go_simp
            exact hK _ _ rfl (Below.refl _ _) (fun h => absurd h (by decide))
          · have h40 : σ 40 = _ := hn 40 (by decide)
            have h41 : σ 41 = _ := hn 41 (by decide)
            clear hn
            simp only [h40, h41] at hK
            go_simp
            exact hK _ _ rfl (Below.refl _ _) (fun h => absurd h (by decide))
          · have h42 : σ 42 = _ := hn 42 (by decide)
            clear hn
            simp only [h42] at hK
            have g1' := bkeep hb g1
            clear g1
            go_simp
            exact hK _ _ rfl (Below.refl _ _) (fun h => absurd h (by decide))
          · have h39 : σ 39 = _ := hn 39 (by decide)
            have h43 : σ 43 = _ := hn 43 (by decide)
            clear hn
            simp only [h39, h43] at hK
            go_simp
            go_at_call 22
            refine (a1 _).mono ?_
            rintro e w1 ⟨rfl, hb1⟩
            exact hK _ _ rfl hb1 (fun h => absurd h (by decide))
          · have h32 : σ 32 = _ := hn 32 (by decide)
            have h33 : σ 33 = _ := hn 33 (by decide)
            clear hn
            simp only [h32, h33] at hK
            go_simp
            exact hK _ _ rfl (Below.refl _ _) (fun h => absurd h (by decide))
        · intro σ W' hb hR' hF'
          have h44 : σ 44 = _ := hR' 44 (by decide)
          have h45 : σ 45 = _ := hR' 45 (by decide)
          have c0' := bkeep hb c0
          have f0' := bfree hb c0 f0
          have HB2 := Lib.hid (bthen HW.out hb)
          have HA2 := Lib.hid hb
          clear hR' hF' c0 f0 g0 g1 m1 a1 hb
          simp only [fill, List.map, Act.put, List.setIfInBounds_toArray, List.set_cons_zero, List.set_cons_succ, List.length_cons, List.length_nil, List.drop_succ_cons, List.drop_zero, Nat.reduceAdd, h44, h45]
          clear h44 h45
          go_wp2
          go_roundw
          case rel => exact ⟨k + 1, by omega, by go_num, HB2.out.setCell (by simp) _, ((HA.out.keep HA2.out).set k _ hlt).same HS.out⟩
          case measure => simp [intOf]; omega
      · obtain rfl : k = n := by omega
        have h3 := Arr.row (hA.same (fun j hj => by rw [if_pos hj])) HL.out (by unfold maxLen; omega)
        have h1 := row_take (HR.out.below hW) hn1
        have h2 := row_take (HR2.out.below hW) hn2
        replace ht := ht.keep hW
        have q1 := row_cap HR.out
        have q2 := row_cap HR2.out
        clear hA hlt
        go_upto_region 10 with ((go_at_call 10; ((with_reducible refine (f1 _ _ _ h1 ht).mono ?_); rintro e w1 ⟨a3, c3, rfl, hb, k1⟩; replace h2 := h2.below hb; replace h3 := h3.below hb; replace ht := ht.keep hb; replace hW := bthen hW hb; clear hb h1)))
        go_upto_region 11 with ((go_at_call 10; ((with_reducible refine (f2 _ _ _ h2 ht).mono ?_); rintro e w2 ⟨a4, c4, rfl, hb, k2⟩; replace k1 := k1.below hb; replace h3 := h3.below hb; replace ht := ht.keep hb; replace hW := bthen hW hb; clear hb h2)))
        go_upto_region 12 with ((go_at_call 10; ((with_reducible refine (f3 _ _ _ h3 ht).mono ?_); rintro e w3 ⟨a5, c5, rfl, hb, k3⟩; replace k1 := k1.below hb; replace k2 := k2.below hb; replace ht := ht.keep hb; replace hW := bthen hW hb; clear hb h3)))
        have K1 := Lib.hid k1.at; have K2 := Lib.hid k2.at; have K3 := Lib.hid k3.at
        clear k1 k2 k3 f1 f2 f3 q1 q2
        go_upto_region 15 with fail
        go_loopw [16] (fun i W' => ∃ j : Nat, j ≤ 64 ∧ i = .int .i64 j ∧ Below w3.heap.size w3 W') (fun i _ => 64 - (intOf i).toNat)
        case atStart => exact ⟨0, Nat.zero_le _, rfl, Below.refl _ _⟩
        case round =>
          obtain ⟨j, hj, rfl, hV⟩ := hrel
          by_cases hlt : j < 64
          · obtain ⟨b3, o3, e3, g3⟩ := (K1.out.keep hV).2.2 j hlt
            obtain ⟨b4, o4, e4, g4⟩ := (K2.out.keep hV).2.2 j hlt
            obtain ⟨b5, o5, e5, g5⟩ := (K3.out.keep hV).2.2 j hlt
            subst e3 e4 e5
            have gx := U_getD HF1.out j (by rw [HFL1.out]; exact hlt)
            have gz := U_getD HF2.out j (by rw [HFL2.out]; exact hlt)
            rw [HSUM.out j hlt] at g5
            have m1 := fun W => refmul_any bi ((forthL (zs.take k) (toF 7) 6).getD j 0) HB.out gx W
            have a1 := fun W => refadd_any (enc (toF bi * toF ((forthL (zs.take k) (toF 7) 6).getD j 0))) ((forthL (ys.take k) (toF 7) 6).getD j 0) (enc_U _) gz W
            rw [toF_enc] at a1
            have HV := Lib.hid hV
            clear hV gx gz
            generalize enc (toF bi * toF ((forthL (zs.take k) (toF 7) 6).getD j 0) + toF ((forthL (ys.take k) (toF 7) 6).getD j 0)) = y at *
            generalize enc (toF bi * toF ((forthL (zs.take k) (toF 7) 6).getD j 0)) = t at *
            generalize (forthL (zs.take k) (toF 7) 6).getD j 0 = x at *
            generalize (forthL (ys.take k) (toF 7) 6).getD j 0 = z at *
            have hlt' : (j : Int) < 64 := by omega
            have hj0 : (0 : Int) ≤ (j : Int) := by omega
            go_upto_region 17 with fail
            go_quiet (first | (go_at_call 23; exact Calls.quiet_of (m1 _)) | (go_at_call 22; exact Calls.quiet_of (same_quiet (a1 _))))
            go_wp2
            go_roundw
            case rel => exact ⟨j + 1, by omega, by go_num, below_drewN HV.out _⟩
            case measure => simp [intOf]; omega
          · replace ht := ht.keep hV
            replace hW := bthen hW hV
            go_wp2_with (go_at_call 9; ((with_reducible refine (aw _ ht).mono ?_); rintro e w4 ⟨rfl, hb⟩; replace hW := bthen hW hb))
            go_ret
            exact ⟨rfl, hW⟩
  · have c2 : 64 < (n : Int) := by omega
    clear hr hu hr2 hu2 hF hBk hP hc
    go_enter Tryd.func6, Tryd.ntmps6
    go_wp2_with (go_at_call 9; ((with_reducible refine (aw _ ht).mono ?_); rintro e w1 ⟨rfl, hb⟩))
    go_ret
    exact ⟨rfl, hb⟩
theorem nadds_body (hF : AskForth) (hBk : AskBack) (hP : AskPoints) (a : Option Addr) (len cap : Nat) (zs : List Int) (a2 : Option Addr) (len2 cap2 : Nat) (ys : List Int) (bi : Int) (hbi : U bi) (w : World) (ht : Tab w)
    (hr : Row w (.slice a len cap) zs) (hu : ∀ n ∈ zs, U n) (hr2 : Row w (.slice a2 len2 cap2) ys) (hu2 : ∀ n ∈ ys, U n) :
    Calls Tryd.prog 6 #[.slice a len cap, .slice a2 len2 cap2, .int .u64 bi] w fun e w' => e = .returned (.bool true) ∧ Below w.heap.size w w' := by
  by_cases h : len ≤ len2
  · exact nadds_le hF hBk hP len a cap zs a2 len2 cap2 ys bi hbi h w ht hr hu hr2 hu2
  · exact nadds_gt hF hBk hP len2 a len cap zs a2 cap2 ys bi hbi (by omega) w ht hr hu hr2 hu2
end Go.Proofs.YtflabonifbhmnaaDoor
