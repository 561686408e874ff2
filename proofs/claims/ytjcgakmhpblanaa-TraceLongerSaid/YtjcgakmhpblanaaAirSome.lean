/-
  An example of what rows must keep: two columns, each row's second number and the sum of both.
-/
import Derived.Test.YtjcgakmhpblanaaGAirM
import Derived.Test.YtjcgakmhpblanaaGCode
import Derived.Test.YtjcgakmhpblanaaFive
namespace Go.Proofs.Ytjcgakmhpblanaa
open Go Go.RowKit
set_option linter.unusedVariables false

abbrev opsS0 : List Opn := [(1, 1)]
abbrev opsS1 : List Opn := [(1, 0), (1, 1), (4, 0)]
def txtS0 : ByteArray := ⟨#[1, 1]⟩
def txtS1 : ByteArray := ⟨#[1, 0, 1, 1, 4]⟩
theorem txtS0_is : codeB opsS0 = txtS0 := by decide +kernel
theorem txtS1_is : codeB opsS1 = txtS1 := by decide +kernel
def airS : AirP := ⟨2, 2, [txtS0, txtS1], [], [(0, 0), (1, 3)]⟩
def airSC : AirP := ⟨2, 2, [txtS0, txtS1], [], [(0, 4)]⟩
def airSD : AirP := ⟨2, 2, [txtS0], [], [(0, 0), (1, 3)]⟩
theorem airS_check : airS.check = 0 := by decide +kernel
theorem airS_all : airS.all = ([[(2, 0), (1, 1), (5, 0)], [(2, 1), (1, 0), (1, 1), (4, 0), (5, 0)]], 0) := by decide +kernel
theorem airS_size : airS.size = 4 := by decide +kernel
theorem airS_degree : airS.degree = 1 := by decide +kernel
theorem airS_parts : airS.parts = 1 := by decide +kernel
theorem airSC_check : airSC.check = 1 := by decide +kernel
theorem airSD_check : airSD.check = 1 := by decide +kernel
theorem okS : ∀ b ∈ [((0 : Int), (0 : Int)), (1, 3), (0, 4)], (-9223372036854775808 ≤ b.1 ∧ b.1 ≤ 9223372036854775807) ∧ (-9223372036854775808 ≤ b.2 ∧ b.2 ≤ 9223372036854775807) := by decide
theorem okS_two : ∀ b ∈ [((0 : Int), (0 : Int)), (1, 3)], b ∈ [((0 : Int), (0 : Int)), (1, 3), (0, 4)] := by decide
theorem okS_one : ∀ b ∈ [((0 : Int), (4 : Int))], b ∈ [((0 : Int), (0 : Int)), (1, 3), (0, 4)] := by decide
theorem airS_ok : OkAir airS := ⟨by decide, by decide, by decide, by decide, fun b hb => okS b (okS_two b hb)⟩
theorem airSC_ok : OkAir airSC := ⟨by decide, by decide, by decide, by decide, fun b hb => okS b (okS_one b hb)⟩
theorem airSD_ok : OkAir airSD := ⟨by decide, by decide, by decide, by decide, fun b hb => okS b (okS_two b hb)⟩
theorem airS_few : FewAir airS := ⟨by decide, by decide, by decide⟩
theorem airSC_few : FewAir airSC := ⟨by decide, by decide, by decide⟩
theorem airSD_few : FewAir airSD := ⟨by decide, by decide, by decide⟩
theorem okO_S0 : ∀ o ∈ opsS0, rightO o = true ∧ U o.2 := by unfold U; decide
theorem okO_S1 : ∀ o ∈ opsS1, rightO o = true ∧ U o.2 := by unfold U; decide
theorem strA_far {W : World} {a : Option Addr} {n g o : Nat} {v : Value} {f : Nat → ByteArray} (h : StrA W a n f) (ha : ∀ x, a = some x → g ≠ x.block) : StrA (W.setCell ⟨g, o, none⟩ v) a n f :=
  ⟨h.1, fun k hk => by
    obtain ⟨b, off, e, c⟩ := h.2 k hk
    exact ⟨b, off, e, (World.cell?_setCell_far _ _ _ _ (ha _ e)).trans c⟩⟩
theorem AirA.far {W : World} {A : AirP} {p : AirAt} {g o : Nat} {v : Value} (h : AirA W A p) (h0 : ∀ x, p.sa = some x → g ≠ x.block) (h1 : ∀ x, p.ra = some x → g ≠ x.block) (h2 : ∀ x, p.ba = some x → g ≠ x.block) : AirA (W.setCell ⟨g, o, none⟩ v) A p :=
  ⟨strA_far h.1 h0, strA_far h.2.1 h1, h.2.2.1.far h2, h.2.2.2⟩
theorem some_below {w W : World} {g : Nat} (h : Below w.heap.size w W) (hg : w.heap.size ≤ g) (v0 v1 v2 v3 v4 : Value) (o o' : Obj) : Below w.heap.size w (((((((W.setCell ⟨g, 0, none⟩ v0).setCell ⟨g, 1, none⟩ v1).setCell ⟨g, 2, none⟩ v2).setCell ⟨g, 3, none⟩ v3).setCell ⟨g, 4, none⟩ v4).alloc o).alloc o') :=
  bthen (bthen (((((h.setCell hg _).setCell hg _).setCell hg _).setCell hg _).setCell hg _) ((Below.refl _ _).alloc (Nat.le_refl _) o)) ((Below.refl _ _).alloc (Nat.le_refl _) o')
theorem some_air (W : World) (t t' : TypeId) (sz : Nat) (hs : W.heap.size = sz) : AirA ((W.alloc (.cells #[.string txtS0, .string txtS1] t)).alloc (.cells #[.int .i64 0, .int .i64 0, .int .i64 1, .int .i64 3] t')) airS ⟨some ⟨sz, 0, none⟩, 2, none, 0, some ⟨sz + 1, 0, none⟩, 2⟩ := by
  subst hs
  refine ⟨⟨by decide, fun k hk => ⟨W.heap.size, 0, rfl, ?_⟩⟩, ⟨by decide, fun k hk => absurd hk (by simp [airS])⟩, ⟨rfl, by decide, fun k hk => ⟨W.heap.size + 1, 0, rfl, ?_⟩⟩, Nat.le_refl _⟩
  · have hk : k < 2 := hk
    have : k = 0 ∨ k = 1 := by omega
    rcases this with rfl | rfl <;> simp [go_sem, tx, airS]
  · have hk : k < 2 := hk
    have : k = 0 ∨ k = 1 := by omega
    rcases this with rfl | rfl <;> simp [go_sem, airS]
end Go.Proofs.Ytjcgakmhpblanaa
