/-
  Div: math/bits.Div64 and Rem64 at the divisor P: what is left of a number of two words, by P.
  Ref: What the calls of the document's answer for layer 1 come to, as the field's: contracts for the walk.
  RefList: What the document's Sum and Prod of layer 1 come to: contracts for the walk.
  PairRef: What the calls of the document's answer for layer 2 come to: contracts for the walk.
  PairRefB: What the calls of the document's answer for layer 2 come to, the rest: contracts for the walk.
-/
import Derived.Test.YthfkfgjhgicfeaaGreatDoorGNum
import Derived.LoopTactic
import Derived.BigQuiet
import Derived.Deep.QuietTactic
import Derived.RegionTactic
import Derived.Lib.QuietBelow
namespace Go.Proofs.YthfkfgjhgicfeaaGreatDoor
open Go.RowKit
set_option linter.unusedVariables false
set_option maxRecDepth 10000 in
theorem len64P (w : World) : Calls Tryz.prog 124 #[.int .u64 18446744069414584321] w fun e w' => e = .returned (.int .i64 64) ∧ w = w' := by
  go_enter Tryz.func124, Tryz.ntmps124
  go_wp2
  go_ret
  refine ⟨?_, rfl⟩
  kernel_rfl
theorem lz64P (w : World) : Calls Tryz.prog 123 #[.int .u64 18446744069414584321] w fun e w' => e = .returned (.int .i64 0) ∧ w = w' := by
  go_enter Tryz.func123, Tryz.ntmps123
  go_wp2_with (go_at_call 124; ((with_reducible refine (len64P _).mono ?_); rintro e w' ⟨rfl, rfl⟩))
  go_ret
  exact ⟨rfl, rfl⟩

def DivPost (rm : Int) (w : World) (e : Ending) (w' : World) : Prop := ∃ q' : Int, e = .returned (.tuple #[.int .u64 q', .int .u64 rm]) ∧ ∃ n, w' = w.drewN n

theorem div_zero (lo : Int) (hl : U lo) (w : World) :
    Calls Tryz.prog 122 #[.int .u64 0, .int .u64 lo, .int .u64 18446744069414584321] w (DivPost (lo % 18446744069414584321) w) := by
  have h0 := hl.1
  go_enter Tryz.func122, Tryz.ntmps122
  go_wp2
  go_quiet (fail)
  go_wp2
  go_ret2
  exact ⟨_, rfl, _, rfl⟩

/-- A digit of the quotient by P: tried as q with rest r, in truth Q. -/
def Digit (q r t Q : Int) : Prop :=
  (0 ≤ q ∧ q < 4294967296 ∧ 0 ≤ r ∧ r < 4294967295 ∧ 0 ≤ t ∧ t < 4294967296 ∧ q ≤ 4294967296 * r + t ∧ Q = q) ∨ (r = 0 ∧ 0 ≤ t ∧ t < 4294967296 ∧ t < q ∧ 0 ≤ Q ∧ q = Q + 1 ∧ q ≤ 4294967296)

theorem Digit.facts {q r t Q : Int} (d : Digit q r t Q) : 0 ≤ Q ∧ Q < 4294967296 ∧ 0 ≤ t ∧ t < 4294967296 := by
  rcases d with ⟨a1, a2, a3, a4, a5, a6, a7, a8⟩ | ⟨a1, a2, a3, a4, a5, a6, a7⟩ <;> omega

set_option maxHeartbeats 8000000 in
theorem div_core (hi lo t u q qb r Q h2 q0 qb0 r0 Q0 rm : Int) (h0 : 0 < hi) (h1 : hi < 18446744069414584321) (hl : U lo)
    (d1 : Digit q r t Q) (d2 : Digit q0 r0 u Q0)
    (f1 : bits BinOp.and IntKind.u64 18446744069414584321 4294967295 = 1)
    (f2 : lo / 18446744073709551616 = 0)
    (f3 : bits .or .u64 hi 0 = hi)
    (f4 : IntKind.u64.wrap lo = lo)
    (f5 : lo / 4294967296 = t)
    (f6 : bits .and .u64 lo 4294967295 = u)
    (f7 : IntKind.u64.wrap (hi.tdiv 4294967295) = q)
    (f8 : IntKind.u64.wrap (q * 4294967295) = qb)
    (f9 : IntKind.u64.wrap (hi - qb) = r)
    (g1 : IntKind.u64.wrap (IntKind.u64.wrap (IntKind.u64.wrap (hi * 4294967296) + t) - IntKind.u64.wrap (Q * 18446744069414584321)) = h2)
    (g2 : IntKind.u64.wrap (h2.tdiv 4294967295) = q0)
    (g3 : IntKind.u64.wrap (q0 * 4294967295) = qb0)
    (g4 : IntKind.u64.wrap (h2 - qb0) = r0)
    (g5 : IntKind.u64.wrap (IntKind.u64.wrap (IntKind.u64.wrap (h2 * 4294967296) + u) - IntKind.u64.wrap (Q0 * 18446744069414584321)) = rm)
    (w : World) :
    Calls Tryz.prog 122 #[.int .u64 hi, .int .u64 lo, .int .u64 18446744069414584321] w (DivPost rm w) := by
  have hl0 := hl.1
  have z : (hi == 0) = false := by have : ¬ hi = 0 := by omega
                                   simpa using this
  have D1 := Lib.hid d1
  have D2 := Lib.hid d2
  have G5 := Lib.hid g5
  clear d1 d2 g5
  go_enter Tryz.func122, Tryz.ntmps122
  go_wp2_with (go_at_call 123; ((with_reducible refine (lz64P _).mono ?_); rintro e w' ⟨rfl, rfl⟩))
  clear f1 f2 f3 f4 f5 f6 f7 f8 f9
  go_loop [15, 16] (fun v x => (v = .int .u64 q ∧ x = .int .u64 r) ∨ (v = .int .u64 Q ∧ x = .int .u64 4294967295)) (fun _ x => (4294967295 - intOf x).toNat)
  case atStart => exact Or.inl ⟨rfl, rfl⟩
  case round =>
    rcases hrel with ⟨rfl, rfl⟩ | ⟨rfl, rfl⟩
    · rcases D1.out with ⟨a1, a2, a3, a4, a5, a6, a7, a8⟩ | ⟨a1, a2, a3, a4, a5, a6, a7⟩
      · have e1 : IntKind.u64.wrap (4294967296 * r) = 4294967296 * r := by rw [IntKind.wrap_u64]; omega
        have e2 : IntKind.u64.wrap (4294967296 * r + t) = 4294967296 * r + t := by rw [IntKind.wrap_u64]; omega
        have e3 : IntKind.u64.wrap q = q := by rw [IntKind.wrap_u64]; omega
        rw [a8] at g1
        clear a8
        go_wp2
        clear a1 a2 a3 a4 a5 a6 a7 e1 e2 e3 g1 g2 g3 g4
        go_loop [18, 16] (fun v x => (v = .int .u64 q0 ∧ x = .int .u64 r0) ∨ (v = .int .u64 Q0 ∧ x = .int .u64 4294967295)) (fun _ x => (4294967295 - intOf x).toNat)
        case atStart => exact Or.inl ⟨rfl, rfl⟩
        case round =>
          rcases hrel with ⟨rfl, rfl⟩ | ⟨rfl, rfl⟩
          · rcases D2.out with ⟨b1, b2, b3, b4, b5, b6, b7, b8⟩ | ⟨b1, b2, b3, b4, b5, b6, b7⟩
            · have e1 : IntKind.u64.wrap (4294967296 * r0) = 4294967296 * r0 := by rw [IntKind.wrap_u64]; omega
              have e2 : IntKind.u64.wrap (4294967296 * r0 + u) = 4294967296 * r0 + u := by rw [IntKind.wrap_u64]; omega
              have e3 : IntKind.u64.wrap q0 = q0 := by rw [IntKind.wrap_u64]; omega
              have G6 := G5.out
              rw [b8] at G6
              clear b8
              go_wp2
              go_ret2
              exact ⟨_, rfl, 0, rfl⟩
            · by_cases c : q0 < 4294967296
              · have e1 : IntKind.u64.wrap q0 = q0 := by rw [IntKind.wrap_u64]; omega
                have e2 : IntKind.u64.wrap u = u := by rw [IntKind.wrap_u64]; omega
                have e3 : IntKind.u64.wrap (q0 - 1) = Q0 := by rw [IntKind.wrap_u64]; omega
                clear b5 b6 b7
                rw [b1]
                go_wp2
                go_round
                case rel => exact Or.inr ⟨rfl, rfl⟩
                case measure => simp [intOf]
              · have e3 : IntKind.u64.wrap (q0 - 1) = Q0 := by rw [IntKind.wrap_u64]; omega
                clear b5 b6 b7
                rw [b1]
                go_wp2
                go_round
                case rel => exact Or.inr ⟨rfl, rfl⟩
                case measure => simp [intOf]
          · obtain ⟨b1, e4, b3, b4⟩ := D2.out.facts
            have e1 : IntKind.u64.wrap Q0 = Q0 := by rw [IntKind.wrap_u64]; omega
            have e2 : IntKind.u64.wrap (18446744069414584320 + u) = 18446744069414584320 + u := by rw [IntKind.wrap_u64]; omega
            have e5 : Q0 ≤ 18446744069414584320 + u := by omega
            have G6 := G5.out
            clear b1 b3 b4
            go_wp2
            go_ret2
            exact ⟨_, rfl, 0, rfl⟩
      · by_cases c : q < 4294967296
        · have e1 : IntKind.u64.wrap q = q := by rw [IntKind.wrap_u64]; omega
          have e2 : IntKind.u64.wrap t = t := by rw [IntKind.wrap_u64]; omega
          have e3 : IntKind.u64.wrap (q - 1) = Q := by rw [IntKind.wrap_u64]; omega
          clear a5 a6 a7
          rw [a1]
          go_wp2
          go_round
          case rel => exact Or.inr ⟨rfl, rfl⟩
          case measure => simp [intOf]
        · have e3 : IntKind.u64.wrap (q - 1) = Q := by rw [IntKind.wrap_u64]; omega
          clear a5 a6 a7
          rw [a1]
          go_wp2
          go_round
          case rel => exact Or.inr ⟨rfl, rfl⟩
          case measure => simp [intOf]
    · obtain ⟨a1, e4, a3, a4⟩ := D1.out.facts
      have e1 : IntKind.u64.wrap Q = Q := by rw [IntKind.wrap_u64]; omega
      have e2 : IntKind.u64.wrap (18446744069414584320 + t) = 18446744069414584320 + t := by rw [IntKind.wrap_u64]; omega
      have e5 : Q ≤ 18446744069414584320 + t := by omega
      clear a1 a3 a4
      go_wp2
      clear e1 e2 e4 e5 g1 g2 g3 g4
      go_loop [18, 16] (fun v x => (v = .int .u64 q0 ∧ x = .int .u64 r0) ∨ (v = .int .u64 Q0 ∧ x = .int .u64 4294967295)) (fun _ x => (4294967295 - intOf x).toNat)
      case atStart => exact Or.inl ⟨rfl, rfl⟩
      case round =>
        rcases hrel with ⟨rfl, rfl⟩ | ⟨rfl, rfl⟩
        · rcases D2.out with ⟨b1, b2, b3, b4, b5, b6, b7, b8⟩ | ⟨b1, b2, b3, b4, b5, b6, b7⟩
          · have e1 : IntKind.u64.wrap (4294967296 * r0) = 4294967296 * r0 := by rw [IntKind.wrap_u64]; omega
            have e2 : IntKind.u64.wrap (4294967296 * r0 + u) = 4294967296 * r0 + u := by rw [IntKind.wrap_u64]; omega
            have e3 : IntKind.u64.wrap q0 = q0 := by rw [IntKind.wrap_u64]; omega
            have G6 := G5.out
            rw [b8] at G6
            clear b8
            go_wp2
            go_ret2
            exact ⟨_, rfl, 0, rfl⟩
          · by_cases c : q0 < 4294967296
            · have e1 : IntKind.u64.wrap q0 = q0 := by rw [IntKind.wrap_u64]; omega
              have e2 : IntKind.u64.wrap u = u := by rw [IntKind.wrap_u64]; omega
              have e3 : IntKind.u64.wrap (q0 - 1) = Q0 := by rw [IntKind.wrap_u64]; omega
              clear b5 b6 b7
              rw [b1]
              go_wp2
              go_round
              case rel => exact Or.inr ⟨rfl, rfl⟩
              case measure => simp [intOf]
            · have e3 : IntKind.u64.wrap (q0 - 1) = Q0 := by rw [IntKind.wrap_u64]; omega
              clear b5 b6 b7
              rw [b1]
              go_wp2
              go_round
              case rel => exact Or.inr ⟨rfl, rfl⟩
              case measure => simp [intOf]
        · obtain ⟨b1, e4, b3, b4⟩ := D2.out.facts
          have e1 : IntKind.u64.wrap Q0 = Q0 := by rw [IntKind.wrap_u64]; omega
          have e2 : IntKind.u64.wrap (18446744069414584320 + u) = 18446744069414584320 + u := by rw [IntKind.wrap_u64]; omega
          have e5 : Q0 ≤ 18446744069414584320 + u := by omega
          have G6 := G5.out
          clear b1 b3 b4
          go_wp2
          go_ret2
          exact ⟨_, rfl, 0, rfl⟩

theorem digit_of (h t q r : Int) (h0 : 0 ≤ h) (h1 : h < 18446744069414584321) (t0 : 0 ≤ t) (t1 : t < 4294967296) (e : h = q * 4294967295 + r) (r0 : 0 ≤ r) (r1 : r < 4294967295) :
    ∃ Q, Digit q r t Q ∧ 0 ≤ h * 4294967296 + t - Q * 18446744069414584321 ∧ h * 4294967296 + t - Q * 18446744069414584321 < 18446744069414584321 := by
  by_cases c : q < 4294967296 ∧ q ≤ 4294967296 * r + t
  · exact ⟨q, Or.inl (by omega), by omega, by omega⟩
  · exact ⟨q - 1, Or.inr (by omega), by omega, by omega⟩

theorem div_any (hi lo : Int) (h0 : 0 ≤ hi) (h1 : hi < 18446744069414584321) (hl : U lo) (w : World) :
    Calls Tryz.prog 122 #[.int .u64 hi, .int .u64 lo, .int .u64 18446744069414584321] w (DivPost ((hi * 18446744073709551616 + lo) % 18446744069414584321) w) := by
  by_cases hz : hi = 0
  · subst hz
    rw [show (0 * 18446744073709551616 + lo) = lo by omega]
    exact div_zero lo hl w
  · have l0 := hl.1
    have l1 := hl.2
    obtain ⟨q, hq⟩ : ∃ q, hi / 4294967295 = q := ⟨_, rfl⟩
    obtain ⟨r, hr⟩ : ∃ r, hi % 4294967295 = r := ⟨_, rfl⟩
    obtain ⟨t, ht⟩ : ∃ t, lo / 4294967296 = t := ⟨_, rfl⟩
    obtain ⟨u, hu⟩ : ∃ u, lo % 4294967296 = u := ⟨_, rfl⟩
    obtain ⟨Q, d1, a1, a2⟩ := digit_of hi t q r h0 h1 (by omega) (by omega) (by omega) (by omega) (by omega)
    obtain ⟨h2, hh2⟩ : ∃ x, hi * 4294967296 + t - Q * 18446744069414584321 = x := ⟨_, rfl⟩
    obtain ⟨q0, hq0⟩ : ∃ q, h2 / 4294967295 = q := ⟨_, rfl⟩
    obtain ⟨r0, hr0⟩ : ∃ r, h2 % 4294967295 = r := ⟨_, rfl⟩
    obtain ⟨Q0, d2, b1, b2⟩ := digit_of h2 u q0 r0 (by omega) (by omega) (by omega) (by omega) (by omega) (by omega) (by omega)
    obtain ⟨rm, hrm⟩ : ∃ x, h2 * 4294967296 + u - Q0 * 18446744069414584321 = x := ⟨_, rfl⟩
    have hfin : (hi * 18446744073709551616 + lo) % 18446744069414584321 = rm := by omega
    rw [hfin]
    refine div_core hi lo t u q (q * 4294967295) r Q h2 q0 (q0 * 4294967295) r0 Q0 rm (by omega) h1 hl d1 d2 (by kernel_rfl) (by omega) ?_ ?_ ht ?_ ?_ ?_ ?_ ?_ ?_ ?_ ?_ ?_ w
    · obtain ⟨n, rfl⟩ := Int.eq_ofNat_of_zero_le h0
      have h := bits_or_u64_nat n 0 (by omega) (by omega)
      rw [Nat.or_zero] at h
      exact h
    · rw [IntKind.wrap_u64]; omega
    · rw [mask32 lo hl]; exact hu
    · rw [IntKind.wrap_u64, Int.tdiv_eq_ediv_of_nonneg h0]; omega
    · rw [IntKind.wrap_u64]; omega
    · rw [IntKind.wrap_u64]; omega
    · simp only [IntKind.wrap_u64]; omega
    · rw [IntKind.wrap_u64, Int.tdiv_eq_ediv_of_nonneg (by omega)]; omega
    · rw [IntKind.wrap_u64]; omega
    · rw [IntKind.wrap_u64]; omega
    · simp only [IntKind.wrap_u64]; omega

theorem rem_any (hi lo : Int) (h0 : U hi) (hl : U lo) (hp : hi < 18446744069414584321) (w : World) :
    Calls Tryz.prog 117 #[.int .u64 hi, .int .u64 lo, .int .u64 18446744069414584321] w fun e w' => e = .returned (.int .u64 ((hi * 18446744073709551616 + lo) % 18446744069414584321)) ∧ ∃ n, w' = w.drewN n := by
  have e1 : hi.tmod 18446744069414584321 = hi := by rw [Int.tmod_eq_emod_of_nonneg h0.1]; have := h0.1; omega
  have e2 : hi % 18446744069414584321 = hi := by have := h0.1; omega
  have k := fun w => div_any hi lo h0.1 hp hl w
  generalize (hi * 18446744073709551616 + lo) % 18446744069414584321 = rm at *
  have hh := h0.1
  go_enter Tryz.func117, Tryz.ntmps117
  go_wp2_with (go_at_call 122; ((with_reducible refine (k _).mono ?_); rintro e w' ⟨q', rfl, n, rfl⟩))
  go_ret
  exact ⟨rfl, _, rfl⟩

end Go.Proofs.YthfkfgjhgicfeaaGreatDoor
namespace Go.Proofs.YthfkfgjhgicfeaaGreatDoor
open Go.RowKit
set_option linter.unusedVariables false

theorem refadd_any (a b : Int) (ha : U a) (hb : U b) (w : World) : Calls Tryz.prog 69 #[.int .u64 a, .int .u64 b] w fun e w' => e = .returned (.int .u64 (enc (toF a + toF b))) ∧ w = w' := by
  have e := enc_add (toF a) (toF b)
  have r1 := rem_toF a ha; have r2 := mod_toF a ha
  have r3 := rem_toF b hb; have r4 := mod_toF b hb
  have x0 := enc_nonneg (toF a); have x1 := enc_lt (toF a)
  have y0 := enc_nonneg (toF b); have y1 := enc_lt (toF b)
  have ha0 := ha.1; have hb0 := hb.1
  generalize enc (toF a + toF b) = z at *
  generalize enc (toF a) = x at *
  generalize enc (toF b) = y at *
  have e0 : IntKind.u64.wrap (18446744069414584321 - y) = 18446744069414584321 - y := by rw [IntKind.wrap_u64]; omega
  by_cases c1 : 18446744069414584321 - y ≤ x
  · have e1 : IntKind.u64.wrap (x - (18446744069414584321 - y)) = z := by rw [IntKind.wrap_u64, e]; omega
    clear e x0 x1 y0 y1 ha hb
    go_enter Tryz.func69, Tryz.ntmps69
    go_wp2
    go_ret
    exact ⟨rfl, rfl⟩
  · have e1 : IntKind.u64.wrap (x + y) = z := by rw [IntKind.wrap_u64, e]; omega
    clear e x0 x1 y0 y1 ha hb
    go_enter Tryz.func69, Tryz.ntmps69
    go_wp2
    go_ret
    exact ⟨rfl, rfl⟩

theorem refneg_any (a : Int) (ha : U a) (w : World) : Calls Tryz.prog 115 #[.int .u64 a] w fun e w' => e = .returned (.int .u64 (enc (-toF a))) ∧ w = w' := by
  have e := enc_neg (toF a)
  have r1 := rem_toF a ha; have r2 := mod_toF a ha
  have x0 := enc_nonneg (toF a); have x1 := enc_lt (toF a)
  have ha0 := ha.1
  generalize enc (-toF a) = z at *
  generalize enc (toF a) = x at *
  by_cases c1 : x = 0
  · have e2 : z = 0 := by omega
    subst c1 e2
    clear e x0 x1
    go_enter Tryz.func115, Tryz.ntmps115
    go_wp2
    go_ret
    exact ⟨rfl, rfl⟩
  · have e2 : IntKind.u64.wrap (18446744069414584321 - x) = z := by rw [IntKind.wrap_u64, e]; omega
    have c2 : (x == 0) = false := by simpa using c1
    clear e x0 x1 c1
    go_enter Tryz.func115, Tryz.ntmps115
    go_wp2
    go_ret
    exact ⟨rfl, rfl⟩

theorem refsub_any (a b : Int) (ha : U a) (hb : U b) (w : World) : Calls Tryz.prog 83 #[.int .u64 a, .int .u64 b] w fun e w' => e = .returned (.int .u64 (enc (toF a - toF b))) ∧ w = w' := by
  have k : toF a + -toF b = toF a - toF b := by grind
  have H := Lib.hid k; clear k
  go_enter Tryz.func83, Tryz.ntmps83
  go_wp2_with (first | (go_at_call 115; ((with_reducible refine (refneg_any b hb _).mono ?_); rintro e w' ⟨rfl, rfl⟩)) | (go_at_call 69; ((with_reducible refine (refadd_any a _ ha (enc_U _) _).mono ?_); rintro e w' ⟨rfl, rfl⟩)))
  go_ret
  exact ⟨by rw [← H.out]; rfl, rfl⟩

theorem hiOf_lt (a b : Int) (ha : 0 ≤ a ∧ a < 18446744069414584321) (hb : 0 ≤ b ∧ b < 18446744069414584321) : hiOf a b < 18446744069414584321 := by
  obtain ⟨a0, a1⟩ := ha
  obtain ⟨b0, b1⟩ := hb
  obtain ⟨n, rfl⟩ := Int.eq_ofNat_of_zero_le a0
  obtain ⟨m, rfl⟩ := Int.eq_ofNat_of_zero_le b0
  have h : n * m ≤ 18446744069414584320 * 18446744069414584320 := Nat.mul_le_mul (by omega) (by omega)
  have e : (n : Int) * (m : Int) = ((n * m : Nat) : Int) := (Int.natCast_mul n m).symm
  unfold hiOf
  rw [e]
  omega

theorem refmul_any (a b : Int) (ha : U a) (hb : U b) (w : World) : Calls Tryz.prog 88 #[.int .u64 a, .int .u64 b] w fun e w' => e = .returned (.int .u64 (enc (toF a * toF b))) ∧ ∃ n, w' = w.drewN n := by
  have e := enc_mul (toF a) (toF b)
  have r1 := rem_toF a ha; have r2 := mod_toF a ha
  have r3 := rem_toF b hb; have r4 := mod_toF b hb
  have xU := enc_U (toF a); have yU := enc_U (toF b)
  have hl := hiOf_lt _ _ ⟨enc_nonneg (toF a), enc_lt _⟩ ⟨enc_nonneg (toF b), enc_lt _⟩
  have hh := hilo (enc (toF a)) (enc (toF b))
  have lU := loOf_U (enc (toF a)) (enc (toF b))
  have hU := hiOf_U _ _ xU yU
  have ha0 := ha.1; have hb0 := hb.1
  generalize enc (toF a * toF b) = z at *
  generalize enc (toF a) = x at *
  generalize enc (toF b) = y at *
  have k1 := fun w => mul64_any x y xU yU w
  generalize hiOf x y = hi at *
  generalize loOf x y = lo at *
  have k2 := fun w => rem_any hi lo hU lU hl w
  rw [← hh, ← e] at k2
  clear e hh hl hU lU ha hb xU yU
  go_enter Tryz.func88, Tryz.ntmps88
  go_wp2_with (first | (go_at_call 116; ((with_reducible refine (k1 _).mono ?_); rintro e w' ⟨rfl, rfl⟩)) | (go_at_call 117; ((with_reducible refine (k2 _).mono ?_); rintro e w' ⟨rfl, n, rfl⟩)))
  go_ret
  exact ⟨rfl, _, rfl⟩

theorem refmul_is (a b z : Int) (ha : U a) (hb : U b) (h : enc (toF a * toF b) = z) (w : World) : Calls Tryz.prog 88 #[.int .u64 a, .int .u64 b] w fun e w' => e = .returned (.int .u64 z) ∧ ∃ n, w' = w.drewN n := h ▸ refmul_any a b ha hb w

set_option maxHeartbeats 1000000 in
theorem refpow_any (a n : Int) (ha : U a) (hn : U n) (w : World) : Calls Tryz.prog 97 #[.int .u64 a, .int .u64 n] w fun e w' => e = .returned (.int .u64 (enc (fpow (toF a) n.toNat))) ∧ ∃ n, w' = w.drewN n := by
  have hs := powInv_start (toF a) n
  have r1 := rem_toF a ha; have r2 := mod_toF a ha
  have ha0 := ha.1
  go_enter Tryz.func97, Tryz.ntmps97
  go_wp2
  clear r1 r2
  go_loopw [1, 5, 6] (fun k o b w' => ∃ (k' : Int) (o' b' : F), U k' ∧ PowInv (toF a) n k' o' b' ∧ k = .int .u64 k' ∧ o = .int .u64 (enc o') ∧ b = .int .u64 (enc b') ∧ ∃ m, w' = w.drewN m) (fun k _ _ _ => (intOf k).toNat)
  case atStart => exact ⟨n, 1, toF a, hn, hs, rfl, rfl, rfl, 0, rfl⟩
  case round =>
    obtain ⟨k, o, b, hk, hp, rfl, rfl, rfl, m, rfl⟩ := hrel
    have m1 := fun w => refmul_any (enc o) (enc b) (enc_U _) (enc_U _) w
    have m2 := fun w => refmul_any (enc b) (enc b) (enc_U _) (enc_U _) w
    simp only [toF_enc] at m1 m2
    have hk0 := hk.1
    have hq1 : IntKind.u64.wrap (k.tdiv 2) = k / 2 := by rw [IntKind.wrap_u64, Int.tdiv_eq_ediv_of_nonneg hk0]; unfold U at hk; omega
    have hb1 : k.tmod 2 = k % 2 := Int.tmod_eq_emod_of_nonneg hk0
    by_cases h0 : 0 < k
    · have hk2 : U (k / 2) := by unfold U at *; omega
      by_cases h1 : k % 2 = 1
      · have HP := Lib.hid (powInv_odd h0 h1 hp)
        rw [h1] at hb1
        clear hp hs
        go_wp2_with (first | (go_at_call 88; ((with_reducible refine (m1 _).mono ?_); rintro e w' ⟨rfl, _, rfl⟩)) | (go_at_call 88; ((with_reducible refine (m2 _).mono ?_); rintro e w' ⟨rfl, _, rfl⟩)))
        go_roundw
        case rel => exact ⟨k / 2, o * b, b * b, hk2, HP.out, rfl, rfl, rfl, _, rfl⟩
        case measure => simp [intOf]; omega
      · have HP := Lib.hid (powInv_even h0 h1 hp)
        have hb2 : k % 2 = 0 := by omega
        have hb3 : k.tmod 2 = 0 := by omega
        clear h1 hp hs hb1
        go_wp2_with (first | (go_at_call 88; ((with_reducible refine (m1 _).mono ?_); rintro e w' ⟨rfl, _, rfl⟩)) | (go_at_call 88; ((with_reducible refine (m2 _).mono ?_); rintro e w' ⟨rfl, _, rfl⟩)))
        go_roundw
        case rel => exact ⟨k / 2, o, b * b, hk2, HP.out, rfl, rfl, rfl, _, rfl⟩
        case measure => simp [intOf]; omega
    · obtain rfl : k = 0 := by omega
      have HP := Lib.hid (powInv_end hp)
      clear hp hs hb1 hq1
      go_wp2
      go_ret
      exact ⟨by rw [← HP.out]; rfl, _, rfl⟩

theorem refinv_no (a : Int) (ha : U a) (h : toF a = 0) (w : World) : Calls Tryz.prog 84 #[.int .u64 a] w fun e w' => e = .returned (.tuple #[.int .u64 0, .bool false]) ∧ ∃ n, w' = w.drewN n := by
  have r1 := rem_toF a ha; have r2 := mod_toF a ha
  have ha0 := ha.1
  rw [h, enc_zero] at r1 r2
  clear h
  go_enter Tryz.func84, Tryz.ntmps84
  go_wp2
  go_ret2
  exact ⟨rfl, 0, rfl⟩

theorem refinv_yes (a : Int) (ha : U a) (h : toF a ≠ 0) (w : World) : Calls Tryz.prog 84 #[.int .u64 a] w fun e w' => e = .returned (.tuple #[.int .u64 (enc (fpow (toF a) 18446744069414584319)), .bool true]) ∧ ∃ n, w' = w.drewN n := by
  have r1 := rem_toF a ha; have r2 := mod_toF a ha
  have ha0 := ha.1
  have h' : (enc (toF a) == 0) = false := by
    have : ¬ enc (toF a) = 0 := fun hh => h (enc_inj.mp (hh.trans enc_zero.symm))
    simpa using this
  have k := fun w => refpow_any a 18446744069414584319 ha ⟨by decide, by decide⟩ w
  rw [show (18446744069414584319 : Int).toNat = 18446744069414584319 from rfl] at k
  generalize fpow (toF a) 18446744069414584319 = z at *
  clear h
  generalize enc (toF a) = x at *
  go_enter Tryz.func84, Tryz.ntmps84
  go_wp2_with ((go_at_call 97; ((with_reducible refine (k _).mono ?_); rintro e w' ⟨rfl, _, rfl⟩)))
  go_ret2
  exact ⟨rfl, _, rfl⟩
end Go.Proofs.YthfkfgjhgicfeaaGreatDoor
namespace Go.Proofs.YthfkfgjhgicfeaaGreatDoor
open Go.RowKit
set_option linter.unusedVariables false

set_option maxHeartbeats 1000000 in
theorem refprod_any (v : Value) (zs : List Int) (w : World) (hr : Row w v zs) (hu : ∀ n ∈ zs, U n) : Calls Tryz.prog 89 #[v] w fun e w' => e = .returned (.int .u64 (enc (fprod (zs.map toF)))) ∧ ∃ n, w' = w.drewN n := by
  rcases hr with ⟨rfl, rfl⟩ | ⟨ad, cap, rfl, rfl⟩ | ⟨b, off, cap, rfl, hc, hm, hcell⟩
  · clear hu
    go_enter Tryz.func89, Tryz.ntmps89
    go_wp2
    go_loop [4, 3] (fun i o => i = .int .i64 0 ∧ o = .int .u64 1) (fun _ _ => 0)
    case atStart => exact ⟨rfl, rfl⟩
    case round =>
      obtain ⟨rfl, rfl⟩ := hrel
      go_wp2
      go_ret
      exact ⟨rfl, 0, rfl⟩
  · clear hu
    go_enter Tryz.func89, Tryz.ntmps89
    go_wp2
    go_loop [4, 3] (fun i o => i = .int .i64 0 ∧ o = .int .u64 1) (fun _ _ => 0)
    case atStart => exact ⟨rfl, rfl⟩
    case round =>
      obtain ⟨rfl, rfl⟩ := hrel
      go_wp2
      go_ret
      exact ⟨rfl, 0, rfl⟩
  · unfold maxLen at hm
    have hu' := fun k => U_getD hu k
    have hs := fun k => heads_succ zs k
    have ha := fun k => heads_all zs k
    have h00 : fprod (heads zs 0) = 1 := by rw [heads_zero]; rfl
    have HS := Lib.hid hs; have HA := Lib.hid ha; have HC := Lib.hid hcell; have HU := Lib.hid hu'; have H0 := Lib.hid h00
    clear hs ha hcell hu hu' h00
    generalize hzl : zs.length = len at *
    have HZ := Lib.hid hzl; clear hzl
    go_enter Tryz.func89, Tryz.ntmps89
    go_wp2
    go_loopw [4, 3] (fun i o w' => ∃ k : Nat, k ≤ len ∧ i = .int .i64 k ∧ o = .int .u64 (enc (fprod (heads zs k))) ∧ ∃ m, w' = w.drewN m) (fun i _ _ => len - (intOf i).toNat)
    case atStart => exact ⟨0, Nat.zero_le _, rfl, by rw [H0.out]; rfl, 0, rfl⟩
    case round =>
      obtain ⟨k, hk, rfl, rfl, m, rfl⟩ := hrel
      by_cases hlt : k < len
      · have g := HC.out k hlt
        have gU := HU.out k hlt
        have m1 := fun w => refmul_any (enc (fprod (heads zs k))) (zs.getD k 0) (enc_U _) gU w
        have e2 := HS.out k hlt
        have E2 : Hid (fprod (heads zs (k + 1)) = fprod (heads zs k) * toF (zs.getD k 0)) := Lib.hid (by rw [e2, fprod_append]; simp only [fprod]; grind)
        clear e2
        simp only [toF_enc] at m1
        generalize zs.getD k 0 = z at *
        go_wp2_with (go_at_call 88; ((with_reducible refine (m1 _).mono ?_); rintro e w' ⟨rfl, _, rfl⟩))
        go_roundw
        case rel => exact ⟨k + 1, by omega, by go_num, by rw [E2.out], _, rfl⟩
        case measure => simp [intOf]; omega
      · go_wp2
        go_ret
        exact ⟨ret_int (by rw [HA.out k (by omega)]), _, rfl⟩
end Go.Proofs.YthfkfgjhgicfeaaGreatDoor
namespace Go.Proofs.YthfkfgjhgicfeaaGreatDoor
open Go.RowKit Go.Sort Go.BigFrame
set_option linter.unusedVariables false

theorem below_drewN {B : Nat} {a : World} : ∀ {w : World}, Below B a w → ∀ n, Below B a (w.drewN n)
  | w, h, n => ⟨h.os, h.tape, h.output, h.size, h.block⟩
theorem exit_gen {K : Act → World → Prop} {Q : Exit → Act → World → Prop} {e : Exit} {a : Act} {w : World} (S : World → Prop) (h : S w) (k : ∀ W, S W → Exit.then K Q e a W) : Exit.then K Q e a w := k w h
theorem ref_below {f : FuncId} {args : Array Value} {v : Value} {w : World} (h : Calls Tryz.prog f args w fun e w' => e = .returned v ∧ ∃ n, w' = w.drewN n) : Calls Tryz.prog f args w fun e w' => e = .returned v ∧ Below w.heap.size w w' :=
  h.mono fun _ _ ⟨he, n, hn⟩ => ⟨he, hn ▸ below_drewN (Below.refl _ _) n⟩
theorem refadd_is (a b z : Int) (ha : U a) (hb : U b) (h : enc (toF a + toF b) = z) (w : World) : Calls Tryz.prog 69 #[.int .u64 a, .int .u64 b] w fun e w' => e = .returned (.int .u64 z) ∧ w = w' := h ▸ refadd_any a b ha hb w
theorem refsub_is (a b z : Int) (ha : U a) (hb : U b) (h : enc (toF a - toF b) = z) (w : World) : Calls Tryz.prog 83 #[.int .u64 a, .int .u64 b] w fun e w' => e = .returned (.int .u64 z) ∧ w = w' := h ▸ refsub_any a b ha hb w
theorem refneg_is (a z : Int) (ha : U a) (h : enc (-toF a) = z) (w : World) : Calls Tryz.prog 115 #[.int .u64 a] w fun e w' => e = .returned (.int .u64 z) ∧ w = w' := h ▸ refneg_any a ha w
theorem refprod_tri (x y z : Int) (p : F) (v : Value) (w : World) (hx : U x) (hy : U y) (hz : U z) (hr : Row w v [x, y, z]) (hp : toF x * (toF y * toF z) = p) : Calls Tryz.prog 89 #[v] w fun e w' => e = .returned (.int .u64 (enc p)) ∧ ∃ n, w' = w.drewN n := by
  have h := refprod_any v [x, y, z] w hr (by intro n hn; simp at hn; rcases hn with rfl | rfl | rfl <;> assumption)
  rw [show fprod ([x, y, z].map toF) = p by rw [← hp]; simp only [List.map, fprod]; grind] at h
  exact h

theorem rlift_q (a : Int) (z : F2) (ha : U a) (hz : lift (toF a) = z) (w : World) : Calls Tryz.prog 59 #[.int .u64 a] w fun e w' => e = .returned (.agg #[.int .u64 (enc z.a), .int .u64 (enc z.b)]) ∧ Below w.heap.size w w' := by
  have q1 := rem_toF a ha; have q2 := mod_toF a ha
  rw [show enc (toF a) = enc z.a by rw [← hz]; rfl] at q1 q2
  have e2 : (0 : Int) = enc z.b := by rw [← hz]; rfl
  have ha0 := ha.1
  generalize enc z.a = x at *
  generalize enc z.b = y at *
  clear hz ha
  subst e2
  go_enter Tryz.func59, Tryz.ntmps59
  go_wp2
  exact bodyPost_ret (v := .agg #[.int .u64 x, .int .u64 0]) (by simp [results, Tryz.results59, go_sem]) rfl ⟨rfl, (Below.refl _ _).alloc (Nat.le_refl _) _⟩

theorem radd_q (a b c d : Int) (x y z : F2) (hx : Rep a b x) (hy : Rep c d y) (hz : x + y = z) (w : World) : Calls Tryz.prog 33 #[.agg #[.int .u64 a, .int .u64 b], .agg #[.int .u64 c, .int .u64 d]] w fun e w' => e = .returned (.agg #[.int .u64 (enc z.a), .int .u64 (enc z.b)]) ∧ Below w.heap.size w w' := by
  have k1 := refadd_is a c (enc z.a) hx.1 hy.1 (by rw [hx.2.2.1, hy.2.2.1, ← hz]; rfl)
  have k2 := refadd_is b d (enc z.b) hx.2.1 hy.2.1 (by rw [hx.2.2.2, hy.2.2.2, ← hz]; rfl)
  generalize enc z.a = s at *
  generalize enc z.b = t at *
  clear hx hy hz
  go_enter Tryz.func33, Tryz.ntmps33
  go_wp2_with fail
  go_region_held3 (fun w' => w'.cell? ⟨w.heap.size, 0, none⟩ = some (.int .u64 a) ∧ w'.cell? ⟨w.heap.size, 1, none⟩ = some (.int .u64 b) ∧ w'.cell? ⟨w.heap.size + 1, 0, none⟩ = some (.int .u64 c) ∧ w'.cell? ⟨w.heap.size + 1, 1, none⟩ = some (.int .u64 d)) (go_keep)
    (first | (go_at_call 69; ((with_reducible refine (k1 _).mono ?_); rintro e w' ⟨rfl, rfl⟩)) | (go_at_call 69; ((with_reducible refine (k2 _).mono ?_); rintro e w' ⟨rfl, rfl⟩)))
  go_wp2
  exact bodyPost_ret (v := .agg #[.int .u64 s, .int .u64 t]) (by simp [results, Tryz.results33, go_sem]) rfl ⟨rfl, ((((Below.refl _ _).alloc (Nat.le_refl _) _).alloc (by simp) _).alloc (by simp; omega) _).drew⟩

theorem rsub_q (a b c d : Int) (x y z : F2) (hx : Rep a b x) (hy : Rep c d y) (hz : x - y = z) (w : World) : Calls Tryz.prog 44 #[.agg #[.int .u64 a, .int .u64 b], .agg #[.int .u64 c, .int .u64 d]] w fun e w' => e = .returned (.agg #[.int .u64 (enc z.a), .int .u64 (enc z.b)]) ∧ Below w.heap.size w w' := by
  have k1 := refsub_is a c (enc z.a) hx.1 hy.1 (by rw [hx.2.2.1, hy.2.2.1, ← hz]; rfl)
  have k2 := refsub_is b d (enc z.b) hx.2.1 hy.2.1 (by rw [hx.2.2.2, hy.2.2.2, ← hz]; rfl)
  generalize enc z.a = s at *
  generalize enc z.b = t at *
  clear hx hy hz
  go_enter Tryz.func44, Tryz.ntmps44
  go_wp2_with fail
  go_region_held3 (fun w' => w'.cell? ⟨w.heap.size, 0, none⟩ = some (.int .u64 a) ∧ w'.cell? ⟨w.heap.size, 1, none⟩ = some (.int .u64 b) ∧ w'.cell? ⟨w.heap.size + 1, 0, none⟩ = some (.int .u64 c) ∧ w'.cell? ⟨w.heap.size + 1, 1, none⟩ = some (.int .u64 d)) (go_keep)
    (first | (go_at_call 83; ((with_reducible refine (k1 _).mono ?_); rintro e w' ⟨rfl, rfl⟩)) | (go_at_call 83; ((with_reducible refine (k2 _).mono ?_); rintro e w' ⟨rfl, rfl⟩)))
  go_wp2
  exact bodyPost_ret (v := .agg #[.int .u64 s, .int .u64 t]) (by simp [results, Tryz.results44, go_sem]) rfl ⟨rfl, ((((Below.refl _ _).alloc (Nat.le_refl _) _).alloc (by simp) _).alloc (by simp; omega) _).drew⟩

theorem rneg_q (a b : Int) (x z : F2) (hx : Rep a b x) (hz : -x = z) (w : World) : Calls Tryz.prog 47 #[.agg #[.int .u64 a, .int .u64 b]] w fun e w' => e = .returned (.agg #[.int .u64 (enc z.a), .int .u64 (enc z.b)]) ∧ Below w.heap.size w w' := by
  have k1 := rsub_q 0 0 a b 0 x z rep_zero hx (by rw [← hz, F2.sub_eq, F2.zero_add])
  generalize enc z.a = s at *
  generalize enc z.b = t at *
  clear hx hz
  go_enter Tryz.func47, Tryz.ntmps47
  go_upto_region 1 with fail
  refine wp_gen (fun W => Below w.heap.size w W ∧ Var W w.heap.size a b ∧ Var W (w.heap.size + 1) 0 0) ⟨((Below.refl _ _).alloc (Nat.le_refl _) _).alloc (by simp) _, by simp [Var, go_sem], by simp [Var, go_sem]⟩ ?_
  rintro W ⟨hB, ⟨c0, c1, f0, f1⟩, ⟨d0, d1, e0, e1⟩⟩
  go_wp2_with (go_at_call 44; ((with_reducible refine (k1 _).mono ?_); rintro e w1 ⟨rfl, hb⟩; replace e0 := bfree hb d0 e0; replace e1 := bfree hb d1 e1; replace d0 := bkeep hb d0; replace d1 := bkeep hb d1; replace hB := bthen hB hb; clear hb c0 c1 f0 f1))
  exact bodyPost_ret (v := .agg #[.int .u64 s, .int .u64 t]) (by simp [results, Tryz.results47, go_sem, d0, d1]) rfl ⟨rfl, (hB.setCell (by simp) _).setCell (by simp) _⟩

theorem rturn_q (a b : Int) (x z : F2) (hx : Rep a b x) (hz : turn x = z) (w : World) : Calls Tryz.prog 87 #[.agg #[.int .u64 a, .int .u64 b]] w fun e w' => e = .returned (.agg #[.int .u64 (enc z.a), .int .u64 (enc z.b)]) ∧ Below w.heap.size w w' := by
  have q1 := rem_toF a hx.1; have q2 := mod_toF a hx.1
  rw [show enc (toF a) = enc z.a by rw [hx.2.2.1, ← hz]; rfl] at q1 q2
  have ha0 := hx.1.1
  have k2 := refneg_is b (enc z.b) hx.2.1 (by rw [hx.2.2.2, ← hz]; rfl)
  generalize enc z.a = s at *
  generalize enc z.b = t at *
  clear hx hz
  go_enter Tryz.func87, Tryz.ntmps87
  go_wp2_with fail
  go_region_held3 (fun w' => w'.cell? ⟨w.heap.size, 0, none⟩ = some (.int .u64 a) ∧ w'.cell? ⟨w.heap.size, 1, none⟩ = some (.int .u64 b)) (go_keep)
    ((go_at_call 115; ((with_reducible refine (k2 _).mono ?_); rintro e w' ⟨rfl, rfl⟩)))
  all_goals go_wp2
  all_goals exact bodyPost_ret (v := .agg #[.int .u64 s, .int .u64 t]) (by simp [results, Tryz.results87, go_sem]) rfl ⟨rfl, (((Below.refl _ _).alloc (Nat.le_refl _) _).alloc (by simp) _).drew⟩

theorem rmul_q (a b c d : Int) (x y z : F2) (hx : Rep a b x) (hy : Rep c d y) (hz : x * y = z) (w : World) : Calls Tryz.prog 46 #[.agg #[.int .u64 a, .int .u64 b], .agg #[.int .u64 c, .int .u64 d]] w fun e w' => e = .returned (.agg #[.int .u64 (enc z.a), .int .u64 (enc z.b)]) ∧ Below w.heap.size w w' := by
  have k1 := refmul_is a c (enc (x.a * y.a)) hx.1 hy.1 (by rw [hx.2.2.1, hy.2.2.1])
  have k2 := fun W v hr => refprod_tri 7 b d (7 * (x.b * y.b)) v W (U_lit _ rfl rfl) hx.2.1 hy.2.1 hr (by rw [hx.2.2.2, hy.2.2.2, show toF 7 = 7 by decide +kernel])
  have k3 := refadd_is (enc (x.a * y.a)) (enc (7 * (x.b * y.b))) (enc z.a) (enc_U _) (enc_U _) (by rw [toF_enc, toF_enc, ← hz]; rfl)
  have k4 := fun W => ref_below (refmul_is a d (enc (x.a * y.b)) hx.1 hy.2.1 (by rw [hx.2.2.1, hy.2.2.2]) W)
  have k5 := fun W => ref_below (refmul_is b c (enc (x.b * y.a)) hx.2.1 hy.1 (by rw [hx.2.2.2, hy.2.2.1]) W)
  have k6 := fun W => (refadd_is (enc (x.a * y.b)) (enc (x.b * y.a)) (enc z.b) (enc_U _) (enc_U _) (by rw [toF_enc, toF_enc, ← hz]; rfl) W).mono fun e w' ⟨he, hw⟩ => (⟨he, hw ▸ Below.refl _ _⟩ : e = _ ∧ Below W.heap.size W w')
  generalize enc z.a = s at *
  generalize enc z.b = t at *
  generalize enc (x.a * y.a) = e1 at *
  generalize enc (7 * (x.b * y.b)) = e2 at *
  generalize enc (x.a * y.b) = e3 at *
  generalize enc (x.b * y.a) = e4 at *
  clear hx hy hz
  go_enter Tryz.func46, Tryz.ntmps46
  go_upto_region 1 with fail
  go_cut [5] (fun v W => v = .int .u64 s ∧ Below w.heap.size w W ∧ Var W w.heap.size a b ∧ Var W (w.heap.size + 1) c d ∧ Var W (w.heap.size + 1 + 1) 0 0)
  case first =>
    go_region_held3 (fun w' => w'.cell? ⟨w.heap.size, 0, none⟩ = some (.int .u64 a) ∧ w'.cell? ⟨w.heap.size, 1, none⟩ = some (.int .u64 b) ∧ w'.cell? ⟨w.heap.size + 1, 0, none⟩ = some (.int .u64 c) ∧ w'.cell? ⟨w.heap.size + 1, 1, none⟩ = some (.int .u64 d)) (go_keep)
      (first | (go_at_call 89; ((with_reducible refine (k2 _ _ (row_tri (by simp [go_sem]) (by simp [go_sem]) (by simp [go_sem]))).mono ?_); rintro e w' ⟨rfl, n, rfl⟩)) | (go_at_call 88; ((with_reducible refine (k1 _).mono ?_); rintro e w' ⟨rfl, n, rfl⟩)) | (go_at_call 69; ((with_reducible refine (k3 _).mono ?_); rintro e w' ⟨rfl, rfl⟩)))
    all_goals go_wp2_with fail
    all_goals go_meet
    all_goals refine ⟨rfl, ?_, by simp [Var, go_sem], by simp [Var, go_sem], by simp [Var, go_sem]⟩
    all_goals repeat (first | exact Below.refl _ _ | apply below_drewN | (refine Below.alloc ?_ (by simp <;> omega) _))
  case rest =>
    obtain ⟨rfl, hB, ⟨c0, c1, f0, f1⟩, ⟨d0, d1, g0, g1⟩, hR⟩ := hcut
    go_upto_region 2 with fail
    replace c0 := fun q : Regrown => cell_regrown c0 q.d q.os
    replace c1 := fun q : Regrown => cell_regrown c1 q.d q.os
    replace d0 := fun q : Regrown => cell_regrown d0 q.d q.os
    replace d1 := fun q : Regrown => cell_regrown d1 q.d q.os
    refine wp_region_quiet_below (by kernel_rfl) (by kernel_rfl) ?_
    repeat (go_big_quiet_step (first
      | (go_at_call 88; (first | with_reducible exact Calls.regrown_of (k4 _) | with_reducible exact Calls.regrown_of (k5 _)))
      | (go_at_call 69; (with_reducible exact Calls.regrown_of (k6 _)))))
    refine wpQuiet_nil ?_
    rintro _ ⟨pq, rfl⟩
    refine exit_gen (fun W => Below w.heap.size w W ∧ Var W (w.heap.size + 1 + 1) 0 0) ⟨bthen hB (below_regrown _ _ _), hR.keep (below_regrown _ _ _)⟩ ?_
    clear hB hR c0 c1 d0 d1 k1 k2 k3 k4 k5 k6
    rintro W2 ⟨hB, ⟨d0, d1, g0, g1⟩⟩
    go_wp2
    exact bodyPost_ret (v := .agg #[.int .u64 s, .int .u64 t]) (by simp [results, Tryz.results46, go_sem, d0, d1]) rfl ⟨rfl, (hB.setCell (by simp; omega) _).setCell (by simp; omega) _⟩

/-- What the slots of Scale's statement hold. -/
def ScaleR (a b c : Int) (l : F2) (s t : Int) (k : Nat) (v : Value) (W : World) : Prop :=
  match k with
  | 5 => v = .agg #[.int .u64 a, .int .u64 b]
  | 6 => v = .int .u64 c
  | 7 => v = .agg #[.int .u64 (enc l.a), .int .u64 (enc l.b)]
  | _ => v = .agg #[.int .u64 s, .int .u64 t]
theorem ScaleR.keep {a b c : Int} {l : F2} {s t : Int} {k : Nat} {v : Value} {W W' : World} (h : ScaleR a b c l s t k v W) (hb : Below W.heap.size W W') : ScaleR a b c l s t k v W' := h
theorem rscale_q (a b c : Int) (x z : F2) (hx : Rep a b x) (hc : U c) (hz : scale x (toF c) = z) (w : World) : Calls Tryz.prog 86 #[.agg #[.int .u64 a, .int .u64 b], .int .u64 c] w fun e w' => e = .returned (.agg #[.int .u64 (enc z.a), .int .u64 (enc z.b)]) ∧ Below w.heap.size w w' := by
  obtain ⟨l, hl⟩ : ∃ l, lift (toF c) = l := ⟨_, rfl⟩
  have k1 := rlift_q c l hc hl
  have k2 := rmul_q a b (enc l.a) (enc l.b) x l z hx (rep_enc l) (by rw [← hl, ← hz, scale_lift])
  generalize enc z.a = s at *
  generalize enc z.b = t at *
  clear hx hz hl
  go_enter Tryz.func86, Tryz.ntmps86
  go_upto_region 1 with fail
  refine wp_gen (fun W => Below w.heap.size w W ∧ Var W w.heap.size a b ∧ Var W (w.heap.size + 1) 0 0) ⟨((Below.refl _ _).alloc (Nat.le_refl _) _).alloc (by simp) _, by simp [Var, go_sem], by simp [Var, go_sem]⟩ ?_
  rintro W ⟨hB, ⟨c0, c1, f0, f1⟩, hR⟩
  refine wp_loose [(5, []), (6, []), (7, [6]), (8, [5, 7])]
    (ScaleR a b c l s t) (fun d => false) (by kernel_rfl) (by kernel_rfl) (fun _ _ _ _ h hb => h.keep hb) ?_ ?_
  · refine opsrun_cons ?_ (opsrun_cons ?_ (opsrun_cons ?_ (opsrun_cons ?_ opsrun_nil)))
    all_goals
      refine OpRuns.any ?_
      intro Q0 σ W' K hb hn hK
      simp only [fill, List.map, Act.put, List.setIfInBounds_toArray, List.set_cons_zero, List.set_cons_succ] at hK ⊢
    · have c0' := bkeep hb c0
      have c1' := bkeep hb c1
      clear c0 c1
      go_simp
      exact hK _ _ rfl (Below.refl _ _) (fun h => absurd h (by decide))
    · clear hn
      go_simp
      exact hK _ _ rfl (Below.refl _ _) (fun h => absurd h (by decide))
    · have h6 : σ 6 = _ := hn 6 (by decide)
      clear hn
      simp only [h6] at hK
      go_simp
      go_at_call 59
      refine (k1 _).mono ?_
      rintro e w1 ⟨rfl, hb1⟩
      exact hK _ _ rfl hb1 (fun h => absurd h (by decide))
    · have h5 : σ 5 = _ := hn 5 (by decide)
      have h7 : σ 7 = _ := hn 7 (by decide)
      clear hn
      simp only [h5, h7] at hK
      go_simp
      go_at_call 46
      refine (k2 _).mono ?_
      rintro e w1 ⟨rfl, hb1⟩
      exact hK _ _ rfl hb1 (fun h => absurd h (by decide))
  · intro σ W' hb hR' hF
    have h8 : σ 8 = _ := hR' 8 (by decide)
    replace hR := hR.keep hb
    replace hB := bthen hB hb
    clear hR' hF c0 c1 f0 f1
    simp only [fill, List.map, Act.put, List.setIfInBounds_toArray, List.set_cons_zero, List.set_cons_succ, List.length_cons, List.length_nil, List.drop_succ_cons, List.drop_zero, Nat.reduceAdd]
    obtain ⟨d0, d1, e0, e1⟩ := hR
    go_wp2
    exact bodyPost_ret (v := .agg #[.int .u64 s, .int .u64 t]) (by simp [results, Tryz.results86, go_sem, d0, d1]) rfl ⟨rfl, (hB.setCell (by simp) _).setCell (by simp) _⟩
end Go.Proofs.YthfkfgjhgicfeaaGreatDoor
namespace Go.Proofs.YthfkfgjhgicfeaaGreatDoor
open Go.RowKit Go.Sort Go.BigFrame
set_option linter.unusedVariables false

@[go_sem] theorem field_a (x y : Value) (w : World) : (Instr.field 31 (.agg #[x, y]) 0).run Tryz.prog w = .ok x w := by kernel_rfl
@[go_sem] theorem field_b (x y : Value) (w : World) : (Instr.field 31 (.agg #[x, y]) 1).run Tryz.prog w = .ok y w := by kernel_rfl

theorem rnorm_q (a b : Int) (x : F2) (z : F) (hx : Rep a b x) (hz : norm x = z) (w : World) : Calls Tryz.prog 85 #[.agg #[.int .u64 a, .int .u64 b]] w fun e w' => e = .returned (.int .u64 (enc z)) ∧ Below w.heap.size w w' := by
  obtain ⟨t, ht⟩ : ∃ t, turn x = t := ⟨_, rfl⟩
  have k1 := rturn_q a b x t hx ht
  have k2 := rmul_q a b (enc t.a) (enc t.b) x t (lift z) hx (rep_enc t) (by rw [← ht, ← hz, mul_turn])
  rw [show enc (lift z).a = enc z from rfl] at k2
  generalize enc z = s at *
  generalize enc (lift z).b = u at *
  clear hx hz ht
  go_enter Tryz.func85, Tryz.ntmps85
  go_upto_region 1 with fail
  refine wp_gen (fun W => Below w.heap.size w W ∧ Var W w.heap.size a b) ⟨(Below.refl _ _).alloc (Nat.le_refl _) _, by simp [Var, go_sem]⟩ ?_
  rintro W ⟨hB, ⟨c0, c1, f0, f1⟩⟩
  clear f0 f1
  replace c0 := fun q : Regrown => cell_regrown c0 q.d q.os
  replace c1 := fun q : Regrown => cell_regrown c1 q.d q.os
  refine wp_region_quiet_below (by kernel_rfl) (by kernel_rfl) ?_
  repeat (first | go_big_quiet_step (first
    | (go_at_call 87; (with_reducible exact Calls.regrown_of (k1 _)))
    | (go_at_call 46; (with_reducible exact Calls.regrown_of (k2 _)))) | quiet_step (fail))
  refine wpQuiet_nil ?_
  rintro _ ⟨pq, rfl⟩
  go_wp2
  go_ret
  exact ⟨rfl, bthen hB (below_regrown _ _ _)⟩

theorem rinv_no (a b : Int) (x : F2) (hx : Rep a b x) (h : x = 0) (w : World) : Calls Tryz.prog 45 #[.agg #[.int .u64 a, .int .u64 b]] w fun e w' => e = .returned (.tuple #[.agg #[.int .u64 0, .int .u64 0], .bool false]) ∧ Below w.heap.size w w' := by
  have k1 := rnorm_q a b x 0 hx (by rw [h]; exact norm_zero)
  have k2 := fun W => ref_below (refinv_no (enc 0) (enc_U _) (toF_enc 0) W)
  clear hx h
  go_enter Tryz.func45, Tryz.ntmps45
  go_upto_region 1 with fail
  refine wp_gen (fun W => Below w.heap.size w W ∧ Var W w.heap.size a b ∧ Var W (w.heap.size + 1) 0 0) ⟨((Below.refl _ _).alloc (Nat.le_refl _) _).alloc (by simp) _, by simp [Var, go_sem], by simp [Var, go_sem]⟩ ?_
  rintro W ⟨hB, hV, hR⟩
  obtain ⟨c0, c1, f0, f1⟩ := hV
  obtain ⟨d0, d1, e0, e1⟩ := hR
  go_wp2_with (first | (go_at_call 85; ((with_reducible refine (k1 _).mono ?_); rintro e w1 ⟨rfl, hb⟩; replace e0 := bfree hb d0 e0; replace e1 := bfree hb d1 e1; replace d0 := bkeep hb d0; replace d1 := bkeep hb d1; replace hB := bthen hB hb; clear hb c0 c1 f0 f1)) | (go_at_call 84; ((with_reducible refine (k2 _).mono ?_); rintro e w1 ⟨rfl, hb⟩; replace e0 := bfree hb d0 e0; replace e1 := bfree hb d1 e1; replace d0 := bkeep hb d0; replace d1 := bkeep hb d1; replace hB := bthen hB hb; clear hb)))
  exact bodyPost_ret (v := .tuple #[.agg #[.int .u64 0, .int .u64 0], .bool false]) (by simp [results, Tryz.results45, go_sem, d0, d1]) rfl ⟨rfl, (hB.setCell (by simp) _).setCell (by simp) _⟩

theorem rinv_yes (a b : Int) (x z : F2) (hx : Rep a b x) (h : x ≠ 0) (hz : qinv x = z) (w : World) : Calls Tryz.prog 45 #[.agg #[.int .u64 a, .int .u64 b]] w fun e w' => e = .returned (.tuple #[.agg #[.int .u64 (enc z.a), .int .u64 (enc z.b)], .bool true]) ∧ Below w.heap.size w w' := by
  obtain ⟨n, hn⟩ : ∃ n, norm x = n := ⟨_, rfl⟩
  have hn0 : n ≠ 0 := fun h0 => h (norm_eq_zero (hn.trans h0))
  obtain ⟨i, hi⟩ : ∃ i, finv n = i := ⟨_, rfl⟩
  obtain ⟨t, ht⟩ : ∃ t, turn x = t := ⟨_, rfl⟩
  have k1 := rnorm_q a b x n hx hn
  have k2 := fun W => ref_below (refinv_yes (enc n) (enc_U _) (by rw [toF_enc]; exact hn0) W)
  rw [toF_enc, show fpow n 18446744069414584319 = i from hi] at k2
  have k3 := rturn_q a b x t hx ht
  have k4 := rscale_q (enc t.a) (enc t.b) (enc i) t z (rep_enc t) (enc_U _) (by rw [toF_enc, ← hz, ← ht, ← hi, ← hn]; rfl)
  clear hx h hz hn hn0 hi ht
  go_enter Tryz.func45, Tryz.ntmps45
  go_upto_region 1 with fail
  refine wp_gen (fun W => Below w.heap.size w W ∧ Var W w.heap.size a b ∧ Var W (w.heap.size + 1) 0 0) ⟨((Below.refl _ _).alloc (Nat.le_refl _) _).alloc (by simp) _, by simp [Var, go_sem], by simp [Var, go_sem]⟩ ?_
  rintro W ⟨hB, hV, hR⟩
  obtain ⟨c0, c1, f0, f1⟩ := hV
  obtain ⟨d0, d1, e0, e1⟩ := hR
  go_wp2_with (first
    | ((first
        | (go_at_call 85; (with_reducible refine (k1 _).mono ?_))
        | (go_at_call 84; (with_reducible refine (k2 _).mono ?_))
        | (go_at_call 87; (with_reducible refine (k3 _).mono ?_))
        | (go_at_call 86; (with_reducible refine (k4 _).mono ?_)))
       rintro e w1 ⟨rfl, hb⟩; replace e0 := bfree hb d0 e0; replace e1 := bfree hb d1 e1; replace d0 := bkeep hb d0; replace d1 := bkeep hb d1; replace c0 := bkeep hb c0; replace c1 := bkeep hb c1; replace hB := bthen hB hb; clear hb))
  exact bodyPost_ret (v := .tuple #[.agg #[.int .u64 (enc z.a), .int .u64 (enc z.b)], .bool true]) (by simp [results, Tryz.results45, go_sem, d0, d1]) rfl ⟨rfl, (hB.setCell (by simp) _).setCell (by simp) _⟩


end Go.Proofs.YthfkfgjhgicfeaaGreatDoor
