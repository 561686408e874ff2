/-
  The walks of layer 12's statements: they answer true.
-/
import Derived.Test.YtbfbfpanhonieaaDoorSProg
import Derived.Test.YtbfbfpanhonieaaDoorSLPlays
import Derived.Test.YtbfbfpanhonieaaDoorSLList
import Derived.Test.YtbfbfpanhonieaaDoorSLSqueezes
import Derived.Test.YtbfbfpanhonieaaDoorArgs
namespace Go.Proofs.YtbfbfpanhonieaaDoor
open Go Go.RowKit Go.Deep
set_option linter.unusedVariables false

theorem SliceOf.acts {W : World} {a : Option Addr} {len cap : Nat} (h : SliceOf W (.both .bool (.both .string .unit)) a len cap) : ∃ (o : Nat → Bool) (t : Nat → ByteArray), ActA W a len o t ∧ (∀ k, k < len → (t k).size ≤ maxLen) := by
  obtain ⟨h1, h2, h3, h4⟩ := h
  obtain ⟨f, hf⟩ := choose_lt (n := len) (α := Bool × ByteArray) (p := fun i s => (∃ b off : Nat, a = some ⟨b, off, none⟩ ∧ W.cell? ⟨b, off + i * 2, none⟩ = some (.bool s.1) ∧ W.cell? ⟨b, off + i * 2 + 1, none⟩ = some (.string s.2)) ∧ s.2.size ≤ maxLen) (fun i hi => by
    obtain ⟨b, off, l, e, hl, hc, l1, m1, rfl, ⟨o, rfl⟩, l2, m2, rfl, ⟨s, rfl, hs⟩, hm⟩ := h4 i hi
    obtain rfl := hm
    have c0 := hc 0 (by decide)
    have c1 := hc 1 (by decide)
    exact ⟨(o, s), ⟨b, off, e, by simpa [Sh.width] using c0, by simpa [Sh.width, Nat.add_assoc] using c1⟩, hs⟩)
  exact ⟨fun k => (f k).1, fun k => (f k).2, ⟨by omega, fun k hk => (hf k hk).1⟩, fun k hk => (hf k hk).2⟩
theorem spawake7 (W : World) (hT : TabB W) : Calls Tryd.prog 6 #[] W fun e w' => e = .returned (.bool true) ∧ Below W.heap.size W w' := spawake _ ask12 W hT
theorem splays_walk (v0 v1 v2 : Value) (w : World) (h0 : (Sh.both .string (.both (.int .i64) .unit)).Arg w v0) (h1 : Sh.string.Arg w v1) (h2 : (Sh.slice (.both .bool (.both .string .unit))).Arg w v2) (hT : Laid7 w) :
    Calls Tryd.prog 3 #[v0, v1, v2] w fun e w' => e = .returned (.bool true) ∧ Below w.heap.size w w' := by
  obtain ⟨s, c, rfl, hs, hc⟩ := arg_spong h0
  obtain ⟨lab, rfl, hl⟩ := h1.string
  obtain ⟨a, n, cap, rfl, ha⟩ := h2.slice
  obtain ⟨o, t, hact, ht⟩ := ha.acts
  exact splays_body _ ask12 spawake7 s c lab a n cap o t w (tabB_of hT) hs hl hc hact ht
theorem slist_walk (v0 v1 : Value) (w : World) (h0 : (Sh.both .string (.both (.int .i64) .unit)).Arg w v0) (h1 : (Sh.slice .string).Arg w v1) (hT : Laid7 w) :
    Calls Tryd.prog 4 #[v0, v1] w fun e w' => e = .returned (.bool true) ∧ Below w.heap.size w w' := by
  obtain ⟨s, c, rfl, hs, hc⟩ := arg_spong h0
  obtain ⟨a, n, cap, rfl, ha⟩ := h1.slice
  obtain ⟨f, hf, _⟩ := ha.strs
  exact slist_body _ ask12 spawake7 s c a n cap f w (tabB_of hT) hs hc hf ha.1 ha.2.1 ha.2.2.1
theorem ssqz_walk (v0 v1 : Value) (w : World) (h0 : (Sh.both .string (.both (.int .i64) .unit)).Arg w v0) (h1 : (Sh.int .u8).Arg w v1) (hT : Laid7 w) :
    Calls Tryd.prog 5 #[v0, v1] w fun e w' => e = .returned (.bool true) ∧ Below w.heap.size w w' := by
  obtain ⟨s, c, rfl, hs, hc⟩ := arg_spong h0
  obtain ⟨n, rfl, hn⟩ := h1.int
  exact ssqz_body _ ask12 spawake7 s c n w (tabB_of hT) hs hc (by have := bounds_u8 hn; omega)
end Go.Proofs.YtbfbfpanhonieaaDoor
