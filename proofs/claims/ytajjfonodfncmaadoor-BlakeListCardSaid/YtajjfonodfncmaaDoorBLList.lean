/-
  The walk of BlakeList: it answers true, where the program's calls do what is asked of them.
-/
import Derived.Test.YtajjfonodfncmaaDoorBAsk
import Derived.Test.YtajjfonodfncmaaDoorStrs
import Derived.Laws.OwnMore
import Derived.OwnWalk
namespace Go.Proofs.YtajjfonodfncmaaDoor
open Go Go.RowKit
set_option linter.unusedVariables false

theorem cat_shift (f : Nat → ByteArray) : ∀ n, cat (fun j => if j = 0 then ⟨#[]⟩ else f (j - 1)) (n + 1) = cat f n
  | 0 => by rw [cat_one]; rfl
  | n + 1 => by
    rw [cat, cat_shift f n, cat]
    congr 1
theorem lens_shift (f : Nat → ByteArray) : ∀ n, lens (fun j => if j = 0 then ⟨#[]⟩ else f (j - 1)) (n + 1) = lens f n
  | 0 => rfl
  | n + 1 => by
    rw [lens, lens_shift f n, lens]
    rfl
theorem strV_shift (f : Nat → ByteArray) (n : Nat) : [Value.string ⟨#[]⟩] ++ strV f n = strV (fun j => if j = 0 then ⟨#[]⟩ else f (j - 1)) (1 + n) := by
  unfold strV
  rw [Nat.add_comm, List.range_succ_eq_map, List.map_cons, List.map_map]
  rfl
theorem lens_le (f : Nat → ByteArray) (b : Nat) : ∀ n, (∀ i, i < n → (f i).size ≤ b) → lens f n ≤ n * b
  | 0, _ => Nat.zero_le _
  | n + 1, h => by
    have h1 := lens_le f b n (fun i hi => h i (by omega))
    have h2 := h n (by omega)
    rw [lens, Nat.succ_mul]; omega
theorem below_own {B : Nat} {a w w' : World} {v : Value} (h : Below B a w) (hg : w.grownBy w' v.ownBlock) (hv : ∀ k, v.ownBlock = some k → B ≤ k) (hB : B ≤ w.heap.size) : Below B a w' :=
  ⟨hg.os.trans h.os, hg.tape.trans h.tape, hg.output.trans h.output, Nat.le_trans h.size hg.size, fun k hk => by
    rw [hg.block k (by omega) (fun e => by have := hv k e.symm; omega)]
    exact h.block k hk⟩
set_option maxRecDepth 100000 in
set_option maxHeartbeats 8000000 in
theorem blist_body (G : World → Prop) (hA : AskBlake G) (a : Option Addr) (len cap : Nat) (f : Nat → ByteArray) (w : World) (hs : StrA w a len f) (hnil : a = none → len = 0 ∧ cap = 0) (hG : G w) :
    Calls Tryd.prog 5 #[.slice a len cap] w fun e w' => e = .returned (.bool true) ∧ Below w.heap.size w w' := by
  have aw := bawake G hA w hG
  have HC := Lib.hid hs.2
  have hml := hs.1
  unfold maxLen at hml
  by_cases hl : len ≤ 30
  · have hl' : (len : Int) ≤ 30 := by omega
    have HS := Lib.hid hs; have HG := Lib.hid hG; have HNIL := Lib.hid hnil; have HA := Lib.hid hA
    clear hs hG hnil hA
    go_enter Tryd.func5, Tryd.ntmps5
    go_upto_region 5 with fail
    go_loop [3, 4] (fun s i => ∃ j : Nat, j ≤ len ∧ s = .string (cat f j) ∧ i = .int .i64 j ∧ ∀ k, k < j → (f k).size ≤ 300) (fun _ i => len - (intOf i).toNat)
    case atStart => exact ⟨0, Nat.zero_le _, rfl, rfl, fun k hk => by omega⟩
    case round =>
      obtain ⟨j, hj, rfl, rfl, hall⟩ := hrel
      have HALL := Lib.hid hall
      clear hall
      by_cases hlt : j < len
      · obtain ⟨b, off, rfl, c⟩ := HC.out j hlt
        have hlt' : (j : Int) < (len : Int) := by omega
        by_cases hbig : (f j).size ≤ 300
        · have hbig' : ((f j).size : Int) ≤ 300 := by omega
          have hsz : (cat f j).size + (f j).size ≤ 1000000 := by
            have := lens_le f 300 j HALL.out
            rw [cat_size]
            omega
          go_wp2
          go_round
          case rel => exact ⟨j + 1, by omega, rfl, by go_num, fun k hk => by
            by_cases e : k = j
            · rw [e]; exact hbig
            · exact HALL.out k (by omega)⟩
          case measure => simp [intOf]; omega
        · have hbig' : 300 < ((f j).size : Int) := by omega
          go_wp2_with (go_at_call 6; ((with_reducible refine aw.mono ?_); rintro e w1 ⟨rfl, hb⟩))
          go_ret
          exact ⟨rfl, hb⟩
      · obtain rfl : j = len := by omega
        have htot : lens f j ≤ 9000 := by
          have := lens_le f 300 j HALL.out
          omega
        obtain ⟨s, hss⟩ : ∃ s, cat f j = s := ⟨_, rfl⟩
        obtain ⟨z, hz⟩ : ∃ z, sumB s = z := ⟨_, rfl⟩
        have hsl : s.size ≤ 9000 := by rw [← hss, cat_size]; exact htot
        have HB := Lib.hid (Below.refl w.heap.size w)
        have HK := Lib.hid (fun (W : World) (h : Below w.heap.size w W) => HA.out.keep HG.out h)
        have k0 := fun W (h : Below w.heap.size w W) => HA.out.sum a j cap f W (HS.out.keep h) (by omega) (HK.out W h)
        rw [hss, hz] at k0
        have k1 := fun W t (h : Below w.heap.size w W) => bsum_one HA.out.keep HA.out.sum s z hz (by omega) W t (HK.out W h)
        have k2 := fun (g c : Nat) W (h : Below w.heap.size w W) (hr : StrA W (some ⟨g, 0, none⟩) (1 + j) (fun k => if k = 0 then ⟨#[]⟩ else f (k - 1))) => HA.out.sum (some ⟨g, 0, none⟩) (1 + j) c _ W hr (by rw [Nat.add_comm, lens_shift]; omega) (HK.out W h)
        have hc2 : cat (fun k => if k = 0 then (⟨#[]⟩ : ByteArray) else f (k - 1)) (1 + j) = s := by rw [Nat.add_comm, cat_shift]; exact hss
        rw [hc2, hz] at k2
        have HH := Lib.hid hsl
        have hj30 : j ≤ 30 := hl
        clear hsl htot hz hc2 HC
        rw [hss]
        go_wp2_with (first
          | (go_at_call 6; ((with_reducible refine aw.mono ?_); rintro e w1 ⟨rfl, hb⟩; replace HB := Lib.hid (bthen HB.out hb); clear hb))
          | (go_at_call 7; (first
              | (with_reducible refine (k0 _ HB.out).mono ?_; rintro e w1 ⟨rfl, hb⟩; replace HB := Lib.hid (bthen HB.out hb); clear hb)
              | (with_reducible refine (k1 _ _ HB.out).mono ?_; rintro e w1 ⟨rfl, hb⟩; replace HB := Lib.hid (bthen HB.out hb); clear hb)
              | (with_reducible refine (k2 _ _ _ HB.out hV.out).mono ?_; rintro e w1 ⟨rfl, hb⟩; replace HB := Lib.hid (bthen HB.out hb); clear hb)))
          | (at_builtin; refine wpList_append_str rfl _ _ 34 rfl w.heap.size 9 _ _ 16 rfl rfl rfl rfl rfl rfl _ 1 [.string ⟨#[]⟩] rfl (own_new _ _ _ _ HB.out.size) a j cap f rfl HNIL.out (HS.out.keep (HB.out.alloc HB.out.size _)) (by unfold maxLen; omega) (by omega) (by have := HB.out.size; simp; omega) ?_; rintro v' w' h1 h2; rw [strV_shift] at h1; obtain ⟨g, c, rfl, hV'⟩ := own_str h1 (by omega) (by unfold maxLen; omega); have hV := Lib.hid hV'; have hsz0 := HB.out.size; replace HB := Lib.hid (below_own (HB.out.alloc HB.out.size _) h2 (fun k hk => by have hk' := Option.some.inj (show some _ = some k from hk); rw [← hk']; exact hsz0) (by simp; omega)); clear h1 h2 hV'))
        go_ret
        exact ⟨rfl, HB.out⟩
  · have hl' : 30 < (len : Int) := by omega
    clear hA hs HC
    go_enter Tryd.func5, Tryd.ntmps5
    go_wp2_with (go_at_call 6; ((with_reducible refine aw.mono ?_); rintro e w1 ⟨rfl, hb⟩))
    go_ret
    exact ⟨rfl, hb⟩
end Go.Proofs.YtajjfonodfncmaaDoor
