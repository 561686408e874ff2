/-
  What the document's Pairs of layer 17 comes to. (Written by gen_evref.py.)
-/
import Derived.Test.YtjcgakmhpblanaaEvalRef
namespace Go.Proofs.Ytjcgakmhpblanaa
open Go Go.RowKit
set_option linter.unusedVariables false

def EvVal66 (gs m M1 M2 cs' pm pM : Nat) (vx vy vz : Value) (k : Nat) : Value :=
  match k with
  | 66 => .slice (some ⟨gs, 0, none⟩) M2 cs'
  | 67 => .int .i64 (M2 : Int)
  | 68 => .int .i64 (m : Int)
  | 69 => .slice (some ⟨gs, 0, none⟩) m cs'
  | 70 => .slice (some ⟨gs, 0, none⟩) M2 cs'
  | 71 => .int .i64 (M2 : Int)
  | 72 => .int .i64 (m : Int)
  | 73 => .pointer (some ⟨gs, pm, none⟩)
  | 74 => vx
  | 75 => .slice (some ⟨gs, 0, none⟩) M2 cs'
  | 76 => .int .i64 (M2 : Int)
  | 77 => .int .i64 (M1 : Int)
  | 78 => .pointer (some ⟨gs, pM, none⟩)
  | 79 => vy
  | _ => vz
def EvVal85 (gs m M1 M2 cs' pm pM : Nat) (vx vy vz : Value) (k : Nat) : Value :=
  match k with
  | 85 => .slice (some ⟨gs, 0, none⟩) M2 cs'
  | 86 => .int .i64 (M2 : Int)
  | 87 => .int .i64 (m : Int)
  | 88 => .slice (some ⟨gs, 0, none⟩) m cs'
  | 89 => .slice (some ⟨gs, 0, none⟩) M2 cs'
  | 90 => .int .i64 (M2 : Int)
  | 91 => .int .i64 (m : Int)
  | 92 => .pointer (some ⟨gs, pm, none⟩)
  | 93 => vx
  | 94 => .slice (some ⟨gs, 0, none⟩) M2 cs'
  | 95 => .int .i64 (M2 : Int)
  | 96 => .int .i64 (M1 : Int)
  | 97 => .pointer (some ⟨gs, pM, none⟩)
  | 98 => vy
  | _ => vz
def EvVal104 (gs m M1 M2 cs' pm pM : Nat) (vx vy vz : Value) (k : Nat) : Value :=
  match k with
  | 104 => .slice (some ⟨gs, 0, none⟩) M2 cs'
  | 105 => .int .i64 (M2 : Int)
  | 106 => .int .i64 (m : Int)
  | 107 => .slice (some ⟨gs, 0, none⟩) m cs'
  | 108 => .slice (some ⟨gs, 0, none⟩) M2 cs'
  | 109 => .int .i64 (M2 : Int)
  | 110 => .int .i64 (m : Int)
  | 111 => .pointer (some ⟨gs, pm, none⟩)
  | 112 => vx
  | 113 => .slice (some ⟨gs, 0, none⟩) M2 cs'
  | 114 => .int .i64 (M2 : Int)
  | 115 => .int .i64 (M1 : Int)
  | 116 => .pointer (some ⟨gs, pM, none⟩)
  | 117 => vy
  | _ => vz
end Go.Proofs.Ytjcgakmhpblanaa
