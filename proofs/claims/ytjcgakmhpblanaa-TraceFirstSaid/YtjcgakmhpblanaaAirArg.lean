/-
  What rows must keep, as an argument.
-/
import Derived.Test.YtjcgakmhpblanaaGAirM
import Derived.Test.YtjcgakmhpblanaaOpsArg
import Derived.Test.YtjcgakmhpblanaaGArgs
namespace Go.Proofs.Ytjcgakmhpblanaa
open Go Go.RowKit Go.Deep
set_option linter.unusedVariables false

abbrev shBound : Sh := .both (.int .i64) (.both (.int .i64) .unit)
abbrev shAir : Sh := .both (.int .i64) (.both (.int .i64) (.both (.slice .string) (.both (.slice .string) (.both (.slice shBound) .unit))))
theorem range_getA {α : Type} (f : Nat → α) (d : α) (n k : Nat) (h : k < n) : ((List.range n).map f).getD k d = f k := by simp [List.getD, h]
theorem SliceOf.bounds {W : World} {a : Option Addr} {len cap : Nat} (h : SliceOf W shBound a len cap) : ∃ zs : List (Int × Int), BoundA W a len zs ∧ (∀ b ∈ zs, (-9223372036854775808 ≤ b.1 ∧ b.1 ≤ 9223372036854775807) ∧ (-9223372036854775808 ≤ b.2 ∧ b.2 ≤ 9223372036854775807)) := by
  obtain ⟨h1, h2, h3, h4⟩ := h
  obtain ⟨f, hf⟩ := choose_lt (n := len) (α := Int × Int) (p := fun i s => (∃ b off : Nat, a = some ⟨b, off, none⟩ ∧ W.cell? ⟨b, off + i * 2, none⟩ = some (.int .i64 s.1) ∧ W.cell? ⟨b, off + i * 2 + 1, none⟩ = some (.int .i64 s.2)) ∧ (-9223372036854775808 ≤ s.1 ∧ s.1 ≤ 9223372036854775807) ∧ (-9223372036854775808 ≤ s.2 ∧ s.2 ≤ 9223372036854775807)) (fun i hi => by
    obtain ⟨b, off, l, e, hl, hc, l1, m1, rfl, ⟨k, rfl, hk⟩, l2, m2, rfl, ⟨n, rfl, hn⟩, hm⟩ := h4 i hi
    obtain rfl := hm
    have c0 := hc 0 (by decide)
    have c1 := hc 1 (by decide)
    exact ⟨(k, n), ⟨b, off, e, by simpa [Sh.width] using c0, by simpa [Sh.width, Nat.add_assoc] using c1⟩, bounds_i64 hk, bounds_i64 hn⟩)
  refine ⟨(List.range len).map f, ⟨by simp, by omega, fun k hk => ?_⟩, fun o ho => ?_⟩
  · rw [range_getA _ _ _ _ hk]
    exact (hf k hk).1
  · obtain ⟨i, hi, rfl⟩ := List.mem_map.1 ho
    exact (hf i (List.mem_range.1 hi)).2
theorem SliceOf.texts {W : World} {a : Option Addr} {len cap : Nat} (h : SliceOf W .string a len cap) : ∃ l : List ByteArray, l.length = len ∧ StrA W a l.length (tx l) ∧ ∀ t ∈ l, t.size ≤ 9223372036854775807 := by
  obtain ⟨f, hf, hs⟩ := h.strs
  refine ⟨(List.range len).map f, by simp, ?_, fun t ht => ?_⟩
  · rw [show ((List.range len).map f).length = len by simp]
    refine ⟨hf.1, fun k hk => ?_⟩
    obtain ⟨b, o, e, c⟩ := hf.2 k hk
    refine ⟨b, o, e, ?_⟩
    rw [c]
    unfold tx
    rw [range_getA _ _ _ _ hk]
  · obtain ⟨i, hi, rfl⟩ := List.mem_map.1 ht
    exact hs i (List.mem_range.1 hi)
theorem arg_air {W : World} {v : Value} (h : shAir.Arg W v) : ∃ (A : AirP) (p : AirAt), v = A.val p ∧ AirA W A p ∧ OkAir A ∧ (p.ra = none → p.rc = 0) := by
  obtain ⟨cs, rfl, l1, m1, rfl, ⟨c0, rfl, hc0⟩, l2, m2, rfl, ⟨c1, rfl, hc1⟩, l3, m3, rfl, h3, l4, m4, rfl, h4, l5, m5, rfl, h5, h6⟩ := h.agg
  obtain ⟨a3, n3, k3, rfl, s3⟩ := Sh.Holds.slice h3
  obtain ⟨a4, n4, k4, rfl, s4⟩ := Sh.Holds.slice h4
  obtain ⟨a5, n5, k5, rfl, s5⟩ := Sh.Holds.slice h5
  obtain rfl := h6
  obtain ⟨xs, rfl, hx, hx2⟩ := s3.texts
  obtain ⟨ys, rfl, hy, hy2⟩ := s4.texts
  obtain ⟨zs, hz, hz2⟩ := s5.bounds
  obtain rfl := hz.1
  exact ⟨⟨c0, c1, xs, ys, zs⟩, ⟨a3, k3, a4, k4, a5, k5⟩, rfl, ⟨hx, hy, hz, s5.1⟩, ⟨bounds_i64 hc0, bounds_i64 hc1, hx2, hy2, hz2⟩, s4.nil⟩
end Go.Proofs.Ytjcgakmhpblanaa
