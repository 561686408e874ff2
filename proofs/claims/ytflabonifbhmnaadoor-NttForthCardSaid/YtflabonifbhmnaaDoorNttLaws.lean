/-
  The walks of layer 4's statements: they answer true. (NttAny: that the program's calls do what is asked of them.)
-/
import Derived.Test.YtflabonifbhmnaaDoorNttAny
import Derived.Test.YtflabonifbhmnaaDoorNLawForth
import Derived.Test.YtflabonifbhmnaaDoorNLawPairs
import Derived.Test.YtflabonifbhmnaaDoorNLawBack
import Derived.Test.YtflabonifbhmnaaDoorNLawAdds
import Derived.Test.YtflabonifbhmnaaDoorNLawShifts
import Derived.Test.YtflabonifbhmnaaDoorNLawHalf
namespace Go.Proofs.YtflabonifbhmnaaDoor
open Go.RowKit
set_option linter.unusedVariables false

/-- What is known of an argument that is a slice of numbers. -/
def Came (w : World) (a : Option Addr) (len cap : Nat) (z0 : List Int) : Prop :=
  (a = none ∧ len = 0 ∧ cap = 0 ∧ z0 = []) ∨ ∃ x, a = some x ∧ len ≤ cap ∧ cap ≤ maxLen ∧ z0.length = cap ∧ (∀ i, i < z0.length → w.cell? (x.add i) = some (.int .u64 (z0.getD i 0))) ∧ ∀ n ∈ z0, (Lit.int .u64 n).wf = true
theorem Came.row {w : World} {a : Option Addr} {len cap : Nat} {z0 : List Int} (h : Came w a len cap z0) : Row w (.slice a len cap) (z0.take len) ∧ ∀ n ∈ z0.take len, U n := by
  obtain ⟨hr, _, hwf⟩ := Row.came h
  exact ⟨hr, fun n hn => U_wf (hwf n hn)⟩

theorem nforth_walk (a : Option Addr) (len cap : Nat) (z0 : List Int) (zi k : Int) (hz : U zi) (hk : I64 k) (w : World) (h : Came w a len cap z0) (ht : Tab w) :
    Calls Tryd.prog 3 #[.slice a len cap, .int .u64 zi, .int .i64 k] w fun e w' => e = .returned (.bool true) ∧ Below w.heap.size w w' :=
  nforth_body ask_forth ask_back ask_points a len cap _ zi k hz hk w ht h.row.1 h.row.2
theorem npairs_walk (a : Option Addr) (len cap : Nat) (zs : List (Int × Int)) (zi k : Int) (hz : U zi) (hk : I64 k) (w : World) (h : IsPairs w a len cap zs) (ht : Tab w) :
    Calls Tryd.prog 4 #[.slice a len cap, .int .u64 zi, .int .i64 k] w fun e w' => e = .returned (.bool true) ∧ Below w.heap.size w w' :=
  npairs_body ask_forth ask_back ask_points ask_forthq ask_backq a len cap zs zi k hz hk w ht h.row.1 h.row.2.2
theorem nback_walk (a : Option Addr) (len cap : Nat) (z0 : List Int) (zi more : Int) (hz : U zi) (hm : 0 ≤ more ∧ more ≤ 255) (w : World) (h : Came w a len cap z0) (ht : Tab w) :
    Calls Tryd.prog 5 #[.slice a len cap, .int .u64 zi, .int .u8 more] w fun e w' => e = .returned (.bool true) ∧ Below w.heap.size w w' :=
  nback_body ask_forth ask_back ask_points a len cap _ zi more hz hm w ht h.row.1 h.row.2
theorem nadds_walk (a : Option Addr) (len cap : Nat) (z0 : List Int) (a2 : Option Addr) (len2 cap2 : Nat) (z2 : List Int) (bi : Int) (hb : U bi) (w : World) (h : Came w a len cap z0) (h2 : Came w a2 len2 cap2 z2) (ht : Tab w) :
    Calls Tryd.prog 6 #[.slice a len cap, .slice a2 len2 cap2, .int .u64 bi] w fun e w' => e = .returned (.bool true) ∧ Below w.heap.size w w' :=
  nadds_body ask_forth ask_back ask_points a len cap _ a2 len2 cap2 _ bi hb w ht h.row.1 h.row.2 h2.row.1 h2.row.2
theorem nshifts_walk (a : Option Addr) (len cap : Nat) (z0 : List Int) (zi : Int) (hz : U zi) (w : World) (h : Came w a len cap z0) (ht : Tab w) :
    Calls Tryd.prog 7 #[.slice a len cap, .int .u64 zi] w fun e w' => e = .returned (.bool true) ∧ Below w.heap.size w w' :=
  nshifts_body ask_forth ask_back ask_points a len cap _ zi hz w ht h.row.1 h.row.2
theorem nhalf_walk (a : Option Addr) (len cap : Nat) (z0 : List Int) (zi k : Int) (hz : U zi) (hk : 0 ≤ k ∧ k ≤ 255) (w : World) (h : Came w a len cap z0) (ht : Tab w) :
    Calls Tryd.prog 8 #[.slice a len cap, .int .u64 zi, .int .u8 k] w fun e w' => e = .returned (.bool true) ∧ Below w.heap.size w w' :=
  nhalf_body ask_forth ask_back ask_points a len cap _ zi k hz hk w ht h.row.1 h.row.2
end Go.Proofs.YtflabonifbhmnaaDoor
