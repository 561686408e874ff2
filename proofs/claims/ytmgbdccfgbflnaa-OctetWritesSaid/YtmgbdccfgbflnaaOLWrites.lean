/-
  The walks of OctetWrites and OctetReads: they answer true, where the program's calls do what is asked of them.
-/
import Derived.Test.YtmgbdccfgbflnaaOAsk
import Derived.Test.YtmgbdccfgbflnaaSame
namespace Go.Proofs.Ytmgbdccfgbflnaa
open Go Go.RowKit
set_option linter.unusedVariables false

set_option maxRecDepth 100000 in
set_option maxHeartbeats 4000000 in
theorem owrites_body (hA : AskOct) (n : Int) (hn : U n) (a1 : Option Addr) (len1 cap1 : Nat) (zs : List Int) (a2 : Option Addr) (len2 cap2 : Nat) (qs : List (Int × Int)) (w : World) (h1 : RowA w a1 len1 zs) (hu1 : ∀ x ∈ zs, U x) (h2 : QRowA w a2 len2 qs) (hu2 : ∀ x ∈ qs, U x.1 ∧ U x.2) :
    Calls Try.prog 3 #[.int .u64 n, .slice a1 len1 cap1, .slice a2 len2 cap2] w fun e w' => e = .returned (.bool true) ∧ Below w.heap.size w w' := by
  have aw := fun W => oawake hA W
  by_cases hbig : 100 < len1 ∨ 100 < len2
  · clear hA h1 h2
    rcases Decidable.em (100 < len1) with hb | hb
    · have hbI : (100 : Int) < (len1 : Int) := by omega
      go_enter Try.func3, Try.ntmps3
      go_wp2_with (go_at_call 7; ((with_reducible refine (aw _).mono ?_); rintro e w1 ⟨rfl, hb1⟩))
      go_ret
      exact ⟨rfl, hb1⟩
    · have hbI : ¬ (100 : Int) < (len1 : Int) := by omega
      have hcI : (100 : Int) < (len2 : Int) := by omega
      go_enter Try.func3, Try.ntmps3
      go_wp2_with (go_at_call 7; ((with_reducible refine (aw _).mono ?_); rintro e w1 ⟨rfl, hb1⟩))
      go_ret
      exact ⟨rfl, hb1⟩
  · have hbI : ¬ (100 : Int) < (len1 : Int) := by omega
    have hcI : ¬ (100 : Int) < (len2 : Int) := by omega
    have k1 := hA.eight n hn
    have r1 := fun W => reight_is n hn W
    have k2 := fun W h => hA.row a1 len1 cap1 zs W h hu1 (by omega)
    have r2 := fun W h => rrow_is a1 len1 cap1 zs W h hu1 (by omega)
    have k3 := fun W h => hA.pairs a2 len2 cap2 qs W h hu2 (by omega)
    have r3 := fun W h => rpairs_is a2 len2 cap2 qs W h hu2 (by omega)
    have HB := Lib.hid (Below.refl w.heap.size w); have H1 := Lib.hid h1; have H2 := Lib.hid h2
    clear hA h1 h2 hu1 hu2
    generalize eightB n = E at *
    generalize rowB zs = R at *
    generalize pairB qs = Q at *
    go_enter Try.func3, Try.ntmps3
    go_wp2_with ((first
      | (go_at_call 7; with_reducible refine (aw _).mono ?_)
      | (go_at_call 8; with_reducible refine (k1 _).mono ?_)
      | (go_at_call 9; with_reducible refine (r1 _).mono ?_)
      | (go_at_call 10; with_reducible refine (k2 _ H1.out).mono ?_)
      | (go_at_call 11; with_reducible refine (r2 _ H1.out).mono ?_)
      | (go_at_call 12; with_reducible refine (k3 _ H2.out).mono ?_)
      | (go_at_call 13; with_reducible refine (r3 _ H2.out).mono ?_)); rintro e w1 ⟨rfl, hb⟩; replace HB := Lib.hid (bthen HB.out hb); replace H1 := Lib.hid (H1.out.keep hb); replace H2 := Lib.hid (H2.out.keep hb); clear hb)
    go_ret
    exact ⟨rfl, HB.out⟩
end Go.Proofs.Ytmgbdccfgbflnaa
