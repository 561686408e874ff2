/-
  What the method around comes to: all stages.
-/
import Derived.Test.YtflabonifbhmnaaDoorNttTurn
import Derived.Test.YtflabonifbhmnaaDoorNttFly
namespace Go.Proofs.YtflabonifbhmnaaDoor
open Go.RowKit
set_option linter.unusedVariables false

def ArRel (cc : Bool) (w : World) (g n k : Nat) (x : Nat → F) (i : Value) (W : World) : Prop :=
  ∃ r : Nat, 1 ≤ r ∧ r ≤ k + 1 ∧ i = .int .i64 r ∧ But g w W ∧ w.heap.size < W.heap.size ∧ K3 W w.heap.size addU subU mulU' ∧ ArrF cc W g n (ar (· + ·) (· - ·) (· * ·) k x (r - 1))
set_option maxHeartbeats 4000000 in
theorem around_u (g cap k : Nat) (hk : k ≤ 20) (x : Nat → F) (cc : Bool) (w : World) (h : ArrF cc w g (2 ^ k) x) :
    Calls Tryd.prog 46 #[kindU, .slice (some ⟨g, 0, none⟩) (2 ^ k) cap, .int .i64 k] w fun e w' => e = .returned (.tuple #[]) ∧ But g w w' ∧ ArrF cc w' g (2 ^ k) (ar (· + ·) (· - ·) (· * ·) k x k) := by
  have hp := Nat.two_pow_pos k
  have hL := rv_lt k
  obtain ⟨z, hA, hz⟩ := h
  have T := fun W => turn_u g cap k hk z W
  have FL : ∀ (r : Nat), 1 ≤ r → r ≤ k → ∀ (x : Nat → F) (W : World), ArrF cc W g (2 ^ k) x → Calls Tryd.prog 66 #[kindU, .slice (some ⟨g, 0, none⟩) (2 ^ k) cap, .int .i64 r] W fun e w' => e = .returned (.tuple #[]) ∧ But g W w' ∧ ArrF cc w' g (2 ^ k) (bf (· + ·) (· - ·) (· * ·) (2 ^ (r - 1)) (rootOf r) x) :=
    fun r h1 h2 x W hx => fly_u g k cap r (r - 1) (by omega) hk h2 x cc W hx
  obtain ⟨n, hn⟩ : ∃ n, 2 ^ k = n := ⟨_, rfl⟩
  rw [hn] at hp hA T hL hz FL ⊢
  have hg : g < w.heap.size := hA.lt (by omega)
  have HZ := Lib.hid hz; have HFL := Lib.hid FL; have HL := Lib.hid hL
  have T1 := T _ (hA.alloc (.cells #[addU, subU, mulU'] 44))
  have H0 := Lib.hid hA
  have hk1 : (k : Int) ≤ 20 := by omega
  clear hn hA hz T FL hL
  go_enter Tryd.func46, Tryd.ntmps46
  go_upto_region 2 with ((go_at_call 65; ((with_reducible refine T1.mono ?_); rintro e W1 ⟨rfl, hb, hA⟩)))
  have HB := Lib.hid hb
  have HA := Lib.hid hA
  clear T1 hb hA
  go_wp2_with fail
  go_loopw [6] (ArRel cc w g n k x) (fun i _ => k + 1 - (intOf i).toNat)
  case atStart =>
    refine ⟨1, Nat.le_refl _, by omega, rfl, ((But.refl _ _).alloc _).trans HB.out, ?_, (K3.new _ _ _ _ _).but HB.out (by omega), z ∘ rv k, HA.out, fun j hj => ?_⟩
    · have := HB.out.size
      simp at this; omega
    · exact HZ.out (rv k j) (HL.out j)
  case round =>
    clear HB HA
    obtain ⟨r, h1, h2, rfl, hB, hs, hK, hA⟩ := hrel
    by_cases hlt : r ≤ k
    · have F1 := HFL.out r h1 hlt _ _ hA
      have hlt' : (r : Int) ≤ (k : Int) := by omega
      obtain ⟨k0, k1, k2⟩ := hK
      have HB := Lib.hid hB; have HK : Hid (K3 wr w.heap.size addU subU mulU') := Lib.hid ⟨k0, k1, k2⟩
      have HS := Lib.hid hs
      clear hA hB
      go_upto_region 4 with ((go_at_call 66; ((with_reducible refine F1.mono ?_); rintro e W1 ⟨rfl, hb, hA⟩)))
      replace HK := Lib.hid (HK.out.but hb (by omega))
      replace HB := Lib.hid (HB.out.trans hb)
      replace HS := Lib.hid (Nat.lt_of_lt_of_le HS.out hb.size)
      have HA := Lib.hid hA
      clear hb hA k0 k1 k2 F1 hs
      go_wp2_with fail
      go_roundw
      case rel => exact ⟨r + 1, by omega, by omega, by go_num, HB.out, HS.out, HK.out, by
        have := HA.out
        obtain ⟨o, rfl⟩ : ∃ o, r = o + 1 := ⟨r - 1, by omega⟩
        exact this⟩
      case measure => simp [intOf]; omega
    · have hlt' : ¬ (r : Int) ≤ (k : Int) := by omega
      have e : r - 1 = k := by omega
      rw [e] at hA
      have HA := Lib.hid hA; have HB := Lib.hid hB
      clear hA hB hK e
      go_wp2_with fail
      go_end0
      exact ⟨rfl, HB.out, HA.out⟩

def ArRelQ (cc : Bool) (w : World) (g n k : Nat) (x : Nat → F2) (i : Value) (W : World) : Prop :=
  ∃ r : Nat, 1 ≤ r ∧ r ≤ k + 1 ∧ i = .int .i64 r ∧ But g w W ∧ w.heap.size < W.heap.size ∧ K3 W w.heap.size addQ subQ scaleQ ∧ ArrQ cc W g n (ar (· + ·) (· - ·) scale k x (r - 1))
set_option maxHeartbeats 4000000 in
theorem around_q (g cap k : Nat) (hk : k ≤ 20) (x : Nat → F2) (cc : Bool) (w : World) (h : ArrQ cc w g (2 ^ k) x) :
    Calls Tryd.prog 57 #[kindQ, .slice (some ⟨g, 0, none⟩) (2 ^ k) cap, .int .i64 k] w fun e w' => e = .returned (.tuple #[]) ∧ But g w w' ∧ ArrQ cc w' g (2 ^ k) (ar (· + ·) (· - ·) scale k x k) := by
  have hp := Nat.two_pow_pos k
  have hL := rv_lt k
  obtain ⟨z, hA, hz⟩ := h
  have T := fun W => turn_q g cap k hk z W
  have FL : ∀ (r : Nat), 1 ≤ r → r ≤ k → ∀ (x : Nat → F2) (W : World), ArrQ cc W g (2 ^ k) x → Calls Tryd.prog 70 #[kindQ, .slice (some ⟨g, 0, none⟩) (2 ^ k) cap, .int .i64 r] W fun e w' => e = .returned (.tuple #[]) ∧ But g W w' ∧ ArrQ cc w' g (2 ^ k) (bf (· + ·) (· - ·) scale (2 ^ (r - 1)) (rootOf r) x) :=
    fun r h1 h2 x W hx => fly_q g k cap r (r - 1) (by omega) hk h2 x cc W hx
  obtain ⟨n, hn⟩ : ∃ n, 2 ^ k = n := ⟨_, rfl⟩
  rw [hn] at hp hA T hL hz FL ⊢
  have hg : g < w.heap.size := hA.lt (by omega)
  have HZ := Lib.hid hz; have HFL := Lib.hid FL; have HL := Lib.hid hL
  have T1 := T _ (hA.alloc (.cells #[addQ, subQ, scaleQ] 57))
  have H0 := Lib.hid hA
  have hk1 : (k : Int) ≤ 20 := by omega
  clear hn hA hz T FL hL
  go_enter Tryd.func57, Tryd.ntmps57
  go_upto_region 2 with ((go_at_call 69; ((with_reducible refine T1.mono ?_); rintro e W1 ⟨rfl, hb, hA⟩)))
  have HB := Lib.hid hb
  have HA := Lib.hid hA
  clear T1 hb hA
  go_wp2_with fail
  go_loopw [6] (ArRelQ cc w g n k x) (fun i _ => k + 1 - (intOf i).toNat)
  case atStart =>
    refine ⟨1, Nat.le_refl _, by omega, rfl, ((But.refl _ _).alloc _).trans HB.out, ?_, (K3.new _ _ _ _ _).but HB.out (by omega), z ∘ rv k, HA.out, fun j hj => ?_⟩
    · have := HB.out.size
      simp at this; omega
    · exact HZ.out (rv k j) (HL.out j)
  case round =>
    clear HB HA
    obtain ⟨r, h1, h2, rfl, hB, hs, hK, hA⟩ := hrel
    by_cases hlt : r ≤ k
    · have F1 := HFL.out r h1 hlt _ _ hA
      have hlt' : (r : Int) ≤ (k : Int) := by omega
      obtain ⟨k0, k1, k2⟩ := hK
      have HB := Lib.hid hB; have HK : Hid (K3 wr w.heap.size addQ subQ scaleQ) := Lib.hid ⟨k0, k1, k2⟩
      have HS := Lib.hid hs
      clear hA hB
      go_upto_region 4 with ((go_at_call 70; ((with_reducible refine F1.mono ?_); rintro e W1 ⟨rfl, hb, hA⟩)))
      replace HK := Lib.hid (HK.out.but hb (by omega))
      replace HB := Lib.hid (HB.out.trans hb)
      replace HS := Lib.hid (Nat.lt_of_lt_of_le HS.out hb.size)
      have HA := Lib.hid hA
      clear hb hA k0 k1 k2 F1 hs
      go_wp2_with fail
      go_roundw
      case rel => exact ⟨r + 1, by omega, by omega, by go_num, HB.out, HS.out, HK.out, by
        have := HA.out
        obtain ⟨o, rfl⟩ : ∃ o, r = o + 1 := ⟨r - 1, by omega⟩
        exact this⟩
      case measure => simp [intOf]; omega
    · have hlt' : ¬ (r : Int) ≤ (k : Int) := by omega
      have e : r - 1 = k := by omega
      rw [e] at hA
      have HA := Lib.hid hA; have HB := Lib.hid hB
      clear hA hB hK e
      go_wp2_with fail
      go_end0
      exact ⟨rfl, HB.out, HA.out⟩
end Go.Proofs.YtflabonifbhmnaaDoor
