/-
  As XStkOp, where the call also waits for one more load (of a variable that the call made ahead of the region). No function of the program is named.
-/
import Derived.Test.YtckipfcjgmiacaaStkOp
namespace Go.Proofs.Ytckipfcjgmiacaa
open Go Go.RowKit
set_option linter.unusedVariables false

structure StkX (w W0 : World) (e : TypeId) (s sx la lb sc sb sa sf n : Nat) (xs z : List Value) (simple : List Nat) (val : Nat → Value) (D : Nat → Bool) (σ : Nat → Value) (W : World) : Prop where
  o : StkOp w W0 e s la lb sc sb sa sf n xs z simple val D σ W
  x : D sc = true → D sx = true
section
variable {w W0 : World} {e : TypeId} {s sx la lb sc sb sa sf n : Nat} {xs z : List Value} {simple : List Nat} {val : Nat → Value} {D : Nat → Bool} {σ : Nat → Value} {W : World}
theorem StkX.start (hb : Below W0.heap.size W0 W) (σ : Nat → Value) : StkX w W0 e s sx la lb sc sb sa sf n xs z simple val (fun _ => false) σ W := ⟨StkOp.start hb σ, fun h => absurd h Bool.false_ne_true⟩
theorem StkX.openx (h : StkX w W0 e s sx la lb sc sb sa sf n xs z simple val D σ W) (hd : D sx = false) : D sa = false := by
  refine h.o.openb (h.o.openc ?_)
  cases c : D sc with
  | false => rfl
  | true => exact absurd (h.x c) (by simp [hd])
theorem StkX.next (h : StkX w W0 e s sx la lb sc sb sa sf n xs z simple val D σ W) {d : Nat} {v : Value} {W' : World} (hb : Below W.heap.size W W') (h0 : d ≠ sc ∧ d ≠ sb ∧ d ≠ sa ∧ d ≠ sf) (hv : v = val d) :
    StkX w W0 e s sx la lb sc sb sa sf n xs z simple val (fun k => if k = d then true else D k) (fun k => if k = d then v else σ k) W' :=
  ⟨h.o.next hb h0 hv, by simp only [if_neg (Ne.symm h0.1)]; intro c; simp [h.x c]⟩
theorem StkX.call (h : StkX w W0 e s sx la lb sc sb sa sf n xs z simple val D σ W) {v : Value} {W' : World} (hd : D sc = false) (hx : D sx = true) (ha : D la = true) (hl : D lb = true) (hb : Below W.heap.size W W') (h0 : sc ≠ la ∧ sc ≠ lb ∧ sc ≠ sb ∧ sc ≠ sa ∧ sc ≠ sf) (hv : v = val sc) :
    StkX w W0 e s sx la lb sc sb sa sf n xs z simple val (fun k => if k = sc then true else D k) (fun k => if k = sc then v else σ k) W' :=
  ⟨h.o.call hd ha hl hb h0 hv, fun _ => by simp [hx]⟩
theorem StkX.build (h : StkX w W0 e s sx la lb sc sb sa sf n xs z simple val D σ W) {W' : World} {g : Nat} (hd : D sb = false) (hc : D sc = true) (hb : Below W.heap.size W W') (h0 : sb ≠ la ∧ sb ≠ lb ∧ sb ≠ sc ∧ sb ≠ sa ∧ sb ≠ sf) (hs : sb ∉ simple)
    (hz : ∀ j u, z[j]? = some u → W'.cell? ((⟨g, 0, none⟩ : Addr).add j) = some u) :
    StkX w W0 e s sx la lb sc sb sa sf n xs z simple val (fun k => if k = sb then true else D k) (fun k => if k = sb then .slice (some ⟨g, 0, none⟩) 1 1 else σ k) W' :=
  ⟨h.o.build hd hc hb h0 hs hz, fun _ => by simp [h.x hc]⟩
theorem StkX.app (h : StkX w W0 e s sx la lb sc sb sa sf n xs z simple val D σ W) {v' : Value} {W' : World} (hd : D sa = false) (hb : D sb = true) (h0 : sa ≠ la ∧ sa ≠ lb ∧ sa ≠ sc ∧ sa ≠ sb ∧ sa ≠ sf) (hs : sa ∉ simple)
    (hown : W'.ownsRow w.heap.size e s v' (n + 1) (xs ++ z)) (hB : Below w.heap.size w W') :
    StkX w W0 e s sx la lb sc sb sa sf n xs z simple val (fun k => if k = sa then true else D k) (fun k => if k = sa then v' else σ k) W' :=
  ⟨h.o.app hd hb h0 hs hown hB, fun _ => by simp [h.x (h.o.c2 hb)]⟩
end
end Go.Proofs.Ytckipfcjgmiacaa
