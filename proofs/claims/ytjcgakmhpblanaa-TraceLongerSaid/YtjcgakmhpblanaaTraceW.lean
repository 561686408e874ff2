/-
  Rows of numbers in memory; what is asked of the program's calls of layer 19.
-/
import Derived.Test.YtjcgakmhpblanaaTraceM
import Derived.Test.YtjcgakmhpblanaaRowsUp
import Derived.Test.YtjcgakmhpblanaaGAirM
import Derived.Test.YtjcgakmhpblanaaGShape
namespace Go.Proofs.Ytjcgakmhpblanaa
open Go Go.RowKit
set_option linter.unusedVariables false

abbrev RowsA (W : World) (a : Option Addr) (n : Nat) (rows : List (List Int)) : Prop := RowsP RowA W a n rows
abbrev TabA (W : World) (B : Nat) (a : Option Addr) (n : Nat) (rows : List (List Int)) : Prop := TabG RowA W B a n rows
theorem rowsA_keep {W W' : World} {a : Option Addr} {n : Nat} {rows : List (List Int)} (h : RowsA W a n rows) (hb : Below W.heap.size W W') : RowsA W' a n rows := RowsP.keep (rowP := RowA) (fun {W W' a n l} (h : RowA W a n l) hb => h.keep hb) h hb
theorem tabA_keep {W W' : World} {B : Nat} {a : Option Addr} {n : Nat} {rows : List (List Int)} (h : TabA W B a n rows) (hb : Below W.heap.size W W') : TabA W' B a n rows := TabG.keep (rowP := RowA) (fun {W W' a n l} (h : RowA W a n l) hb => h.keep hb) h hb
theorem tabA_mono {W : World} {B B' : Nat} {a : Option Addr} {n : Nat} {rows : List (List Int)} (h : TabA W B a n rows) (hb : B' ≤ B) : TabA W B' a n rows := TabG.mono h hb
theorem RowA.off {W : World} {a : Option Addr} {n g o : Nat} {v : Value} {l : List Int} (h : RowA W a n l) (hx : ∀ x, a = some x → x.block ≠ g) : RowA (W.setCell ⟨g, o, none⟩ v) a n l :=
  ⟨h.1, h.2.1, fun k hk => by
    obtain ⟨b, off, e, c⟩ := h.2.2 k hk
    exact ⟨b, off, e, (World.cell?_setCell_far _ _ _ _ (fun c => hx _ e c.symm)).trans c⟩⟩
theorem tabA_set {W : World} {B g off i n : Nat} {rows : List (List Int)} {ai : Option Addr} {ci : Nat} {l : List Int} (h : TabA W B (some ⟨g, off, none⟩) n rows) (hi : i < n) (hr : RowA W ai l.length l) (hc : l.length ≤ ci) (hx : ∀ x, ai = some x → x.block ≠ g) : TabA (W.setCell ⟨g, off + i, none⟩ (.slice ai l.length ci)) B (some ⟨g, off, none⟩) n (rows.set i l) :=
  TabG.set (rowP := RowA) (fun {W a n g o v l} (h : RowA W a n l) hx => h.off hx) h hi hr hc hx
/-- A row of numbers of its own, as it is read. -/
theorem own_numrow {W : World} {B : Nat} {v : Value} {l : List Int} (h : W.ownsRow B 46 1 v l.length (l.map (Value.int .u64))) : ∃ a c, v = .slice a l.length c ∧ RowA W a l.length l ∧ l.length ≤ c := by
  obtain ⟨a, c, rfl⟩ := own_form h
  refine ⟨a, c, rfl, Row.at (cap := c) (Row.own h), ?_⟩
  rcases h.2 with ⟨hv, h0⟩ | ⟨g, cap, cur, hv, _, _, hn, _⟩
  · omega
  · simp only [Value.slice.injEq] at hv
    omega
abbrev NumRows (w W : World) (v : Value) (ks : List (List Int)) : Prop := RowsG 26 46 1 (List.map (Value.int .u64)) w W v ks
theorem numRows_told {w W : World} {v : Value} {ks : List (List Int)} (h : NumRows w W v ks) : ∃ a c, v = .slice a ks.length c ∧ TabA W w.heap.size a ks.length ks ∧ ks.length ≤ c ∧ (a = none → c = 0) := RowsG.told (rowP := RowA) (by decide) (fun {W B v l} h => own_numrow h) h
def MakePost (W : World) (rows : List (List Int)) (r : Int) (e : Ending) (w' : World) : Prop :=
  Below W.heap.size W w' ∧ ∃ (a : Option Addr) (cap : Nat), e = .returned (.tuple #[.slice a rows.length cap, .int .i64 r]) ∧ TabA w' W.heap.size a rows.length rows ∧ rows.length ≤ cap
def RowPost (W : World) (l : List Int) (e : Ending) (w' : World) : Prop :=
  Below W.heap.size W w' ∧ ∃ (a : Option Addr) (cap : Nat), e = .returned (.slice a l.length cap) ∧ RowA w' a l.length l ∧ ∀ x, a = some x → W.heap.size ≤ x.block
abbrev failV (f : Int × Int) : Value := .agg #[.int .i64 f.1, .int .i64 f.2]
def UsR (l : List Int) : Prop := ∀ n ∈ l, U n
def UsRows (rows : List (List Int)) : Prop := ∀ r ∈ rows, UsR r
/-- Rows as many, and as wide, as there must be. -/
def AirP.holds (A : AirP) (rows : List (List Int)) : Prop := (rows.length : Int) = A.size ∧ ∀ r ∈ rows, (r.length : Int) = A.cols
structure AskTrace (G : World → Prop) : Prop where
  keep : ∀ {W W' : World}, G W → Below W.heap.size W W' → G W'
  make : ∀ (A : AirP) (p : AirAt) (a : Option Addr) (cap : Nat) (first : List Int) (rows : List (List Int)) (r : Int) (W : World), AirA W A p → OkAir A → FewAir A → RowA W a first.length first → UsR first → A.make first = (rows, r) → G W →
    Calls Try.prog 10 #[A.val p, .slice a first.length cap] W (MakePost W rows r)
  shown : ∀ (A : AirP) (p : AirAt) (a : Option Addr) (n cap : Nat) (rows : List (List Int)) (l : List Int) (W : World), AirA W A p → OkAir A → FewAir A → A.check = 0 → RowsA W a n rows → UsRows rows → A.holds rows → (∀ r ∈ rows, KeptR r) → A.shown rows = l → G W →
    Calls Try.prog 14 #[A.val p, .slice a n cap] W (RowPost W l)
  whole : ∀ (A : AirP) (p : AirAt) (pa : Option Addr) (pn pc : Nat) (pub : List Int) (a : Option Addr) (n cap : Nat) (rows : List (List Int)) (r : Bool) (W : World), AirA W A p → OkAir A → FewAir A → RowA W pa pn pub → UsR pub → RowsA W a n rows → UsRows rows → decide (A.whole pub rows) = r → G W →
    Calls Try.prog 18 #[A.val p, .slice pa pn pc, .slice a n cap] W fun e w' => e = .returned (.bool r) ∧ Below W.heap.size W w'
  check : ∀ (A : AirP) (p : AirAt) (pa : Option Addr) (pn pc : Nat) (pub : List Int) (a : Option Addr) (n cap : Nat) (rows : List (List Int)) (f : Int × Int) (r : Int) (W : World), AirA W A p → OkAir A → FewAir A → RowA W pa pn pub → UsR pub → RowsA W a n rows → UsRows rows → A.told pub rows = (f, r) → G W →
    Calls Try.prog 16 #[A.val p, .slice pa pn pc, .slice a n cap] W fun e w' => e = .returned (.tuple #[failV f, .int .i64 r]) ∧ Below W.heap.size W w'
end Go.Proofs.Ytjcgakmhpblanaa
