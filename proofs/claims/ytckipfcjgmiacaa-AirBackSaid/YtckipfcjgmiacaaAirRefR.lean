/-
  What the document's reader of layer 18 reads: num, text.
-/
import Derived.Test.YtckipfcjgmiacaaAirRefP
import Derived.Test.YtckipfcjgmiacaaGOct
namespace Go.Proofs.Ytckipfcjgmiacaa
open Go Go.RowKit
set_option linter.unusedVariables false

theorem grown_trans {W W1 W2 : World} {r : Option Nat} (h : W.grownBy W1 r) (h' : W1.grownBy W2 r) : W.grownBy W2 r :=
  ⟨h'.os.trans h.os, h'.tape.trans h.tape, h'.output.trans h.output, Nat.le_trans h.size h'.size, fun k hk hne => (h'.block k (Nat.lt_of_lt_of_le hk h.size) hne).trans (h.block k hk hne)⟩
/-- Other blocks' cells are kept. -/
theorem cell_grownG {W W' : World} {g b o : Nat} {v : Value} (h : W.grownBy W' (some g)) (hc : W.cell? ⟨b, o, none⟩ = some v) (hne : b ≠ g) : W'.cell? ⟨b, o, none⟩ = some v :=
  (World.cell?_of_block (a := ⟨b, o, none⟩) (h.block b (World.block_lt_of_cell? W _ hc) (by intro e; exact hne (Option.some.inj e)))).trans hc
theorem free_grownG {W W' : World} {g b o : Nat} {v : Value} (h : W.grownBy W' (some g)) (hc : W.cell? ⟨b, o, none⟩ = some v) (hf : W.frozen? ⟨b, o, none⟩ = false) (hne : b ≠ g) : W'.frozen? ⟨b, o, none⟩ = false :=
  (World.frozen?_of_block (a := ⟨b, o, none⟩) (h.block b (World.block_lt_of_cell? W _ hc) (by intro e; exact hne (Option.some.inj e)))).trans hf
def ReadPost18 (g : Nat) (w : World) (v : Value) (s : ByteArray) (bad : Bool) (e : Ending) (w' : World) : Prop := e = .returned v ∧ Duo w' g (.string s) (.bool bad) ∧ w.grownBy w' (some g)
set_option maxHeartbeats 4000000 in
theorem ranum_is (g : Nat) (s : ByteArray) (bad : Bool) (m n : Int) (s' : ByteArray) (bad' : Bool) (w : World) (hD : Duo w g (.string s) (.bool bad)) (hm : 0 ≤ m ∧ m ≤ 100000) (hr : numR m (s, bad) = (n, (s', bad'))) :
    Calls Try.prog 32 #[.pointer (some ⟨g, 0, none⟩), .int .u64 m] w (ReadPost18 g w (.int .i64 n) s' bad') := by
  have HD := Lib.hid hD
  obtain ⟨c0, c1, f0, f1⟩ := hD
  unfold numR at hr
  by_cases c : bad = true ∨ s.size < 8 ∨ m < numB s 0
  · rw [if_pos (show (s, bad).2 = true ∨ (s, bad).1.size < 8 ∨ m < numB (s, bad).1 0 from c)] at hr
    simp only [Prod.mk.injEq] at hr
    obtain ⟨rfl, rfl, rfl⟩ := hr
    have fin : ∀ W, W = w.setCell ⟨g, 1, none⟩ (.bool true) → Duo W g (.string s) (.bool true) ∧ w.grownBy W (some g) := fun W e => by
      subst e
      refine ⟨?_, grown_set _ g 1 _⟩
      obtain ⟨c0, c1, f0, f1⟩ := HD.out
      simp [Duo, go_sem, c0, c1, f0, f1]
    by_cases h8 : s.size < 8
    · have kn := fun W => rnum_no s h8 W
      clear c
      cases bad
      all_goals
        go_enter Try.func32, Try.ntmps32
        go_wp2_with (go_at_call 40; (with_reducible refine (kn _).mono ?_); rintro e w2 ⟨rfl, rfl⟩)
        go_ret
        exact ⟨rfl, fin _ rfl⟩
    · have kn := fun W => rnum_yes s (by omega) W
      cases bad
      · have hgt : m < numB s 0 := by
          rcases c with c | c | c
          · cases c
          · exact absurd c h8
          · exact c
        clear c
        generalize numB s 0 = x at *
        go_enter Try.func32, Try.ntmps32
        go_wp2_with (go_at_call 40; (with_reducible refine (kn _).mono ?_); rintro e w2 ⟨rfl, rfl⟩)
        go_ret
        exact ⟨rfl, fin _ rfl⟩
      · clear c
        generalize numB s 0 = x at *
        go_enter Try.func32, Try.ntmps32
        go_wp2_with (go_at_call 40; (with_reducible refine (kn _).mono ?_); rintro e w2 ⟨rfl, rfl⟩)
        go_ret
        exact ⟨rfl, fin _ rfl⟩
  · rw [if_neg (show ¬ ((s, bad).2 = true ∨ (s, bad).1.size < 8 ∨ m < numB (s, bad).1 0) from c)] at hr
    simp only [Prod.mk.injEq] at hr
    obtain ⟨rfl, rfl, rfl⟩ := hr
    simp only [not_or] at c
    obtain ⟨hb, h8, hle⟩ := c
    obtain rfl : bad = false := by simpa using hb
    have kn := fun W => rnum_yes s (by omega) W
    have hx := numB_U s 0
    have hle2 : ¬ m < numB s 0 := hle
    have hw : IntKind.i64.wrap (numB s 0) = numB s 0 := IntWalk.i64_in _ (by have := hx.1; omega)
    have h8I : (8 : Int) ≤ (s.size : Int) := by omega
    have h8J : ¬ (s.size : Int) < 8 := by omega
    have fin : ∀ W s', W = w.setCell ⟨g, 0, none⟩ (.string s') → Duo W g (.string s') (.bool false) ∧ w.grownBy W (some g) := fun W s' e => by
      subst e
      refine ⟨?_, grown_set _ g 0 _⟩
      obtain ⟨c0, c1, f0, f1⟩ := HD.out
      simp [Duo, go_sem, c0, c1, f0, f1]
    clear hb hx hle
    generalize numB s 0 = x at *
    go_enter Try.func32, Try.ntmps32
    go_wp2_with (go_at_call 40; (with_reducible refine (kn _).mono ?_); rintro e w2 ⟨rfl, rfl⟩)
    go_ret
    exact ⟨rfl, fin _ _ rfl⟩
set_option maxHeartbeats 4000000 in
theorem ratx_is (g : Nat) (s : ByteArray) (bad : Bool) (m : Int) (t s' : ByteArray) (bad' : Bool) (w : World) (hs : s.size ≤ 1000000) (hD : Duo w g (.string s) (.bool bad)) (hm : 0 ≤ m ∧ m ≤ 100000) (hr : textR m (s, bad) = (t, (s', bad'))) :
    Calls Try.prog 33 #[.pointer (some ⟨g, 0, none⟩), .int .u64 m] w (ReadPost18 g w (.string t) s' bad') := by
  obtain ⟨n, s1, b1, hn⟩ : ∃ n s1 b1, numR m (s, bad) = (n, (s1, b1)) := ⟨_, _, _, rfl⟩
  have hsz : s1.size ≤ 1000000 ∧ 0 ≤ n ∧ n ≤ 100000 := by
    unfold numR at hn
    split at hn
    · simp only [Prod.mk.injEq] at hn
      obtain ⟨rfl, rfl, rfl⟩ := hn
      exact ⟨hs, by decide, by decide⟩
    · next c =>
      simp only [Prod.mk.injEq] at hn
      obtain ⟨rfl, rfl, rfl⟩ := hn
      simp only [not_or] at c
      have := (numB_U s 0).1
      exact ⟨by rw [ByteArray.size_extract]; omega, this, by have := c.2.2; omega⟩
  have kn := fun W (h : Duo W g (.string s) (.bool bad)) => ranum_is g s bad m n s1 b1 W h hm hn
  unfold textR at hr
  rw [hn] at hr
  dsimp only at hr
  obtain ⟨hs1, hn0, hn1⟩ := hsz
  have HD := Lib.hid hD
  clear hD hn
  obtain ⟨k, rfl⟩ := Int.eq_ofNat_of_zero_le hn0
  rw [Int.toNat_natCast] at hr
  by_cases c : b1 = true ∨ (s1.size : Int) < (k : Int)
  · rw [if_pos c] at hr
    simp only [Prod.mk.injEq] at hr
    obtain ⟨rfl, rfl, rfl⟩ := hr
    cases b1
    · have hlt : (s1.size : Int) < (k : Int) := c.resolve_left (by simp)
      clear c
      go_enter Try.func33, Try.ntmps33
      go_upto_region 2 with (go_at_call 32; (with_reducible refine (kn _ HD.out).mono ?_); rintro e w2 ⟨rfl, hD2, hg2⟩)
      have HD2 := Lib.hid hD2
      obtain ⟨c0, c1, f0, f1⟩ := hD2
      go_wp2_with fail
      go_ret
      exact ⟨rfl, by obtain ⟨c0, c1, f0, f1⟩ := HD2.out; simp [Duo, go_sem, c0, c1, f0, f1], grown_trans hg2 (grown_set _ g 1 _)⟩
    · clear c
      go_enter Try.func33, Try.ntmps33
      go_upto_region 2 with (go_at_call 32; (with_reducible refine (kn _ HD.out).mono ?_); rintro e w2 ⟨rfl, hD2, hg2⟩)
      have HD2 := Lib.hid hD2
      obtain ⟨c0, c1, f0, f1⟩ := hD2
      go_wp2_with fail
      go_ret
      exact ⟨rfl, by obtain ⟨c0, c1, f0, f1⟩ := HD2.out; simp [Duo, go_sem, c0, c1, f0, f1], grown_trans hg2 (grown_set _ g 1 _)⟩
  · rw [if_neg c] at hr
    simp only [Prod.mk.injEq] at hr
    obtain ⟨rfl, rfl, rfl⟩ := hr
    simp only [not_or] at c
    obtain ⟨hb, hle⟩ := c
    obtain rfl : b1 = false := by simpa using hb
    have hle2 : ¬ (s1.size : Int) < (k : Int) := hle
    have hle3 : (k : Int) ≤ (s1.size : Int) := by omega
    have hk0 : (0 : Int) ≤ (k : Int) := by omega
    clear hb hle
    go_enter Try.func33, Try.ntmps33
    go_upto_region 2 with (go_at_call 32; (with_reducible refine (kn _ HD.out).mono ?_); rintro e w2 ⟨rfl, hD2, hg2⟩)
    have HD2 := Lib.hid hD2
    obtain ⟨c0, c1, f0, f1⟩ := hD2
    go_wp2_with fail
    go_ret
    exact ⟨rfl, by obtain ⟨c0, c1, f0, f1⟩ := HD2.out; simp [Duo, go_sem, c0, c1, f0, f1], grown_trans hg2 (grown_set _ g 0 _)⟩
end Go.Proofs.Ytckipfcjgmiacaa
