/-
  Div: math/bits.Div64 and Rem64 at the divisor P: what is left of a number of two words, by P.
  Ref: What the calls of the document's answer for layer 1 come to, as the field's: contracts for the walk.
  RefList: What the document's Sum and Prod of layer 1 come to: contracts for the walk.
  PairRef: What the calls of the document's answer for layer 2 come to: contracts for the walk.
  PairRefB: What the calls of the document's answer for layer 2 come to, the rest: contracts for the walk.
-/
import Derived.Test.YtjcgakmhpblanaaGNum
import Derived.LoopTactic
import Derived.BigQuiet
import Derived.Deep.QuietTactic
import Derived.RegionTactic
import Derived.Lib.QuietBelow
namespace Go.Proofs.Ytjcgakmhpblanaa
open Go.RowKit
set_option linter.unusedVariables false
set_option maxRecDepth 10000 in
theorem len64P (w : World) : Calls Try.prog 81 #[.int .u64 18446744069414584321] w fun e w' => e = .returned (.int .i64 64) ∧ w = w' := by
  go_enter Try.func81, Try.ntmps81
  go_wp2
  go_ret
  refine ⟨?_, rfl⟩
  kernel_rfl
theorem lz64P (w : World) : Calls Try.prog 77 #[.int .u64 18446744069414584321] w fun e w' => e = .returned (.int .i64 0) ∧ w = w' := by
  go_enter Try.func77, Try.ntmps77
  go_wp2_with (go_at_call 81; ((with_reducible refine (len64P _).mono ?_); rintro e w' ⟨rfl, rfl⟩))
  go_ret
  exact ⟨rfl, rfl⟩

def DivPost (rm : Int) (w : World) (e : Ending) (w' : World) : Prop := ∃ q' : Int, e = .returned (.tuple #[.int .u64 q', .int .u64 rm]) ∧ ∃ n, w' = w.drewN n

theorem div_zero (lo : Int) (hl : U lo) (w : World) :
    Calls Try.prog 63 #[.int .u64 0, .int .u64 lo, .int .u64 18446744069414584321] w (DivPost (lo % 18446744069414584321) w) := by
  have h0 := hl.1
  go_enter Try.func63, Try.ntmps63
  go_wp2
  go_quiet (fail)
  go_wp2
  go_ret2
  exact ⟨_, rfl, _, rfl⟩

/-- A digit of the quotient by P: tried as q with rest r, in truth Q. -/
def Digit (q r t Q : Int) : Prop :=
  (0 ≤ q ∧ q < 4294967296 ∧ 0 ≤ r ∧ r < 4294967295 ∧ 0 ≤ t ∧ t < 4294967296 ∧ q ≤ 4294967296 * r + t ∧ Q = q) ∨ (r = 0 ∧ 0 ≤ t ∧ t < 4294967296 ∧ t < q ∧ 0 ≤ Q ∧ q = Q + 1 ∧ q ≤ 4294967296)

theorem Digit.facts {q r t Q : Int} (d : Digit q r t Q) : 0 ≤ Q ∧ Q < 4294967296 ∧ 0 ≤ t ∧ t < 4294967296 := by
  rcases d with ⟨a1, a2, a3, a4, a5, a6, a7, a8⟩ | ⟨a1, a2, a3, a4, a5, a6, a7⟩ <;> omega

set_option maxHeartbeats 8000000 in
theorem div_core (hi lo t u q qb r Q h2 q0 qb0 r0 Q0 rm : Int) (h0 : 0 < hi) (h1 : hi < 18446744069414584321) (hl : U lo)
    (d1 : Digit q r t Q) (d2 : Digit q0 r0 u Q0)
    (f1 : bits BinOp.and IntKind.u64 18446744069414584321 4294967295 = 1)
    (f2 : lo / 18446744073709551616 = 0)
    (f3 : bits .or .u64 hi 0 = hi)
    (f4 : IntKind.u64.wrap lo = lo)
    (f5 : lo / 4294967296 = t)
    (f6 : bits .and .u64 lo 4294967295 = u)
    (f7 : IntKind.u64.wrap (hi.tdiv 4294967295) = q)
    (f8 : IntKind.u64.wrap (q * 4294967295) = qb)
    (f9 : IntKind.u64.wrap (hi - qb) = r)
    (g1 : IntKind.u64.wrap (IntKind.u64.wrap (IntKind.u64.wrap (hi * 4294967296) + t) - IntKind.u64.wrap (Q * 18446744069414584321)) = h2)
    (g2 : IntKind.u64.wrap (h2.tdiv 4294967295) = q0)
    (g3 : IntKind.u64.wrap (q0 * 4294967295) = qb0)
    (g4 : IntKind.u64.wrap (h2 - qb0) = r0)
    (g5 : IntKind.u64.wrap (IntKind.u64.wrap (IntKind.u64.wrap (h2 * 4294967296) + u) - IntKind.u64.wrap (Q0 * 18446744069414584321)) = rm)
    (w : World) :
    Calls Try.prog 63 #[.int .u64 hi, .int .u64 lo, .int .u64 18446744069414584321] w (DivPost rm w) := by
  have hl0 := hl.1
  have z : (hi == 0) = false := by have : ¬ hi = 0 := by omega
                                   simpa using this
  have D1 := Lib.hid d1
  have D2 := Lib.hid d2
  have G5 := Lib.hid g5
  clear d1 d2 g5
  go_enter Try.func63, Try.ntmps63
  go_wp2_with (go_at_call 77; ((with_reducible refine (lz64P _).mono ?_); rintro e w' ⟨rfl, rfl⟩))
  clear f1 f2 f3 f4 f5 f6 f7 f8 f9
  go_loop [15, 16] (fun v x => (v = .int .u64 q ∧ x = .int .u64 r) ∨ (v = .int .u64 Q ∧ x = .int .u64 4294967295)) (fun _ x => (4294967295 - intOf x).toNat)
  case atStart => exact Or.inl ⟨rfl, rfl⟩
  case round =>
    rcases hrel with ⟨rfl, rfl⟩ | ⟨rfl, rfl⟩
    · rcases D1.out with ⟨a1, a2, a3, a4, a5, a6, a7, a8⟩ | ⟨a1, a2, a3, a4, a5, a6, a7⟩
      · have e1 : IntKind.u64.wrap (4294967296 * r) = 4294967296 * r := by rw [IntKind.wrap_u64]; omega
        have e2 : IntKind.u64.wrap (4294967296 * r + t) = 4294967296 * r + t := by rw [IntKind.wrap_u64]; omega
        have e3 : IntKind.u64.wrap q = q := by rw [IntKind.wrap_u64]; omega
        rw [a8] at g1
        clear a8
        go_wp2
        clear a1 a2 a3 a4 a5 a6 a7 e1 e2 e3 g1 g2 g3 g4
        go_loop [18, 16] (fun v x => (v = .int .u64 q0 ∧ x = .int .u64 r0) ∨ (v = .int .u64 Q0 ∧ x = .int .u64 4294967295)) (fun _ x => (4294967295 - intOf x).toNat)
        case atStart => exact Or.inl ⟨rfl, rfl⟩
        case round =>
          rcases hrel with ⟨rfl, rfl⟩ | ⟨rfl, rfl⟩
          · rcases D2.out with ⟨b1, b2, b3, b4, b5, b6, b7, b8⟩ | ⟨b1, b2, b3, b4, b5, b6, b7⟩
            · have e1 : IntKind.u64.wrap (4294967296 * r0) = 4294967296 * r0 := by rw [IntKind.wrap_u64]; omega
              have e2 : IntKind.u64.wrap (4294967296 * r0 + u) = 4294967296 * r0 + u := by rw [IntKind.wrap_u64]; omega
              have e3 : IntKind.u64.wrap q0 = q0 := by rw [IntKind.wrap_u64]; omega
              have G6 := G5.out
              rw [b8] at G6
              clear b8
              go_wp2
              go_ret2
              exact ⟨_, rfl, 0, rfl⟩
            · by_cases c : q0 < 4294967296
              · have e1 : IntKind.u64.wrap q0 = q0 := by rw [IntKind.wrap_u64]; omega
                have e2 : IntKind.u64.wrap u = u := by rw [IntKind.wrap_u64]; omega
                have e3 : IntKind.u64.wrap (q0 - 1) = Q0 := by rw [IntKind.wrap_u64]; omega
                clear b5 b6 b7
                rw [b1]
                go_wp2
                go_round
                case rel => exact Or.inr ⟨rfl, rfl⟩
                case measure => simp [intOf]
              · have e3 : IntKind.u64.wrap (q0 - 1) = Q0 := by rw [IntKind.wrap_u64]; omega
                clear b5 b6 b7
                rw [b1]
                go_wp2
                go_round
                case rel => exact Or.inr ⟨rfl, rfl⟩
                case measure => simp [intOf]
          · obtain ⟨b1, e4, b3, b4⟩ := D2.out.facts
            have e1 : IntKind.u64.wrap Q0 = Q0 := by rw [IntKind.wrap_u64]; omega
            have e2 : IntKind.u64.wrap (18446744069414584320 + u) = 18446744069414584320 + u := by rw [IntKind.wrap_u64]; omega
            have e5 : Q0 ≤ 18446744069414584320 + u := by omega
            have G6 := G5.out
            clear b1 b3 b4
            go_wp2
            go_ret2
            exact ⟨_, rfl, 0, rfl⟩
      · by_cases c : q < 4294967296
        · have e1 : IntKind.u64.wrap q = q := by rw [IntKind.wrap_u64]; omega
          have e2 : IntKind.u64.wrap t = t := by rw [IntKind.wrap_u64]; omega
          have e3 : IntKind.u64.wrap (q - 1) = Q := by rw [IntKind.wrap_u64]; omega
          clear a5 a6 a7
          rw [a1]
          go_wp2
          go_round
          case rel => exact Or.inr ⟨rfl, rfl⟩
          case measure => simp [intOf]
        · have e3 : IntKind.u64.wrap (q - 1) = Q := by rw [IntKind.wrap_u64]; omega
          clear a5 a6 a7
          rw [a1]
          go_wp2
          go_round
          case rel => exact Or.inr ⟨rfl, rfl⟩
          case measure => simp [intOf]
    · obtain ⟨a1, e4, a3, a4⟩ := D1.out.facts
      have e1 : IntKind.u64.wrap Q = Q := by rw [IntKind.wrap_u64]; omega
      have e2 : IntKind.u64.wrap (18446744069414584320 + t) = 18446744069414584320 + t := by rw [IntKind.wrap_u64]; omega
      have e5 : Q ≤ 18446744069414584320 + t := by omega
      clear a1 a3 a4
      go_wp2
      clear e1 e2 e4 e5 g1 g2 g3 g4
      go_loop [18, 16] (fun v x => (v = .int .u64 q0 ∧ x = .int .u64 r0) ∨ (v = .int .u64 Q0 ∧ x = .int .u64 4294967295)) (fun _ x => (4294967295 - intOf x).toNat)
      case atStart => exact Or.inl ⟨rfl, rfl⟩
      case round =>
        rcases hrel with ⟨rfl, rfl⟩ | ⟨rfl, rfl⟩
        · rcases D2.out with ⟨b1, b2, b3, b4, b5, b6, b7, b8⟩ | ⟨b1, b2, b3, b4, b5, b6, b7⟩
          · have e1 : IntKind.u64.wrap (4294967296 * r0) = 4294967296 * r0 := by rw [IntKind.wrap_u64]; omega
            have e2 : IntKind.u64.wrap (4294967296 * r0 + u) = 4294967296 * r0 + u := by rw [IntKind.wrap_u64]; omega
            have e3 : IntKind.u64.wrap q0 = q0 := by rw [IntKind.wrap_u64]; omega
            have G6 := G5.out
            rw [b8] at G6
            clear b8
            go_wp2
            go_ret2
            exact ⟨_, rfl, 0, rfl⟩
          · by_cases c : q0 < 4294967296
            · have e1 : IntKind.u64.wrap q0 = q0 := by rw [IntKind.wrap_u64]; omega
              have e2 : IntKind.u64.wrap u = u := by rw [IntKind.wrap_u64]; omega
              have e3 : IntKind.u64.wrap (q0 - 1) = Q0 := by rw [IntKind.wrap_u64]; omega
              clear b5 b6 b7
              rw [b1]
              go_wp2
              go_round
              case rel => exact Or.inr ⟨rfl, rfl⟩
              case measure => simp [intOf]
            · have e3 : IntKind.u64.wrap (q0 - 1) = Q0 := by rw [IntKind.wrap_u64]; omega
              clear b5 b6 b7
              rw [b1]
              go_wp2
              go_round
              case rel => exact Or.inr ⟨rfl, rfl⟩
              case measure => simp [intOf]
        · obtain ⟨b1, e4, b3, b4⟩ := D2.out.facts
          have e1 : IntKind.u64.wrap Q0 = Q0 := by rw [IntKind.wrap_u64]; omega
          have e2 : IntKind.u64.wrap (18446744069414584320 + u) = 18446744069414584320 + u := by rw [IntKind.wrap_u64]; omega
          have e5 : Q0 ≤ 18446744069414584320 + u := by omega
          have G6 := G5.out
          clear b1 b3 b4
          go_wp2
          go_ret2
          exact ⟨_, rfl, 0, rfl⟩

theorem digit_of (h t q r : Int) (h0 : 0 ≤ h) (h1 : h < 18446744069414584321) (t0 : 0 ≤ t) (t1 : t < 4294967296) (e : h = q * 4294967295 + r) (r0 : 0 ≤ r) (r1 : r < 4294967295) :
    ∃ Q, Digit q r t Q ∧ 0 ≤ h * 4294967296 + t - Q * 18446744069414584321 ∧ h * 4294967296 + t - Q * 18446744069414584321 < 18446744069414584321 := by
  by_cases c : q < 4294967296 ∧ q ≤ 4294967296 * r + t
  · exact ⟨q, Or.inl (by omega), by omega, by omega⟩
  · exact ⟨q - 1, Or.inr (by omega), by omega, by omega⟩

theorem div_any (hi lo : Int) (h0 : 0 ≤ hi) (h1 : hi < 18446744069414584321) (hl : U lo) (w : World) :
    Calls Try.prog 63 #[.int .u64 hi, .int .u64 lo, .int .u64 18446744069414584321] w (DivPost ((hi * 18446744073709551616 + lo) % 18446744069414584321) w) := by
  by_cases hz : hi = 0
  · subst hz
    rw [show (0 * 18446744073709551616 + lo) = lo by omega]
    exact div_zero lo hl w
  · have l0 := hl.1
    have l1 := hl.2
    obtain ⟨q, hq⟩ : ∃ q, hi / 4294967295 = q := ⟨_, rfl⟩
    obtain ⟨r, hr⟩ : ∃ r, hi % 4294967295 = r := ⟨_, rfl⟩
    obtain ⟨t, ht⟩ : ∃ t, lo / 4294967296 = t := ⟨_, rfl⟩
    obtain ⟨u, hu⟩ : ∃ u, lo % 4294967296 = u := ⟨_, rfl⟩
    obtain ⟨Q, d1, a1, a2⟩ := digit_of hi t q r h0 h1 (by omega) (by omega) (by omega) (by omega) (by omega)
    obtain ⟨h2, hh2⟩ : ∃ x, hi * 4294967296 + t - Q * 18446744069414584321 = x := ⟨_, rfl⟩
    obtain ⟨q0, hq0⟩ : ∃ q, h2 / 4294967295 = q := ⟨_, rfl⟩
    obtain ⟨r0, hr0⟩ : ∃ r, h2 % 4294967295 = r := ⟨_, rfl⟩
    obtain ⟨Q0, d2, b1, b2⟩ := digit_of h2 u q0 r0 (by omega) (by omega) (by omega) (by omega) (by omega) (by omega) (by omega)
    obtain ⟨rm, hrm⟩ : ∃ x, h2 * 4294967296 + u - Q0 * 18446744069414584321 = x := ⟨_, rfl⟩
    have hfin : (hi * 18446744073709551616 + lo) % 18446744069414584321 = rm := by omega
    rw [hfin]
    refine div_core hi lo t u q (q * 4294967295) r Q h2 q0 (q0 * 4294967295) r0 Q0 rm (by omega) h1 hl d1 d2 (by kernel_rfl) (by omega) ?_ ?_ ht ?_ ?_ ?_ ?_ ?_ ?_ ?_ ?_ ?_ w
    · obtain ⟨n, rfl⟩ := Int.eq_ofNat_of_zero_le h0
      have h := bits_or_u64_nat n 0 (by omega) (by omega)
      rw [Nat.or_zero] at h
      exact h
    · rw [IntKind.wrap_u64]; omega
    · rw [mask32 lo hl]; exact hu
    · rw [IntKind.wrap_u64, Int.tdiv_eq_ediv_of_nonneg h0]; omega
    · rw [IntKind.wrap_u64]; omega
    · rw [IntKind.wrap_u64]; omega
    · simp only [IntKind.wrap_u64]; omega
    · rw [IntKind.wrap_u64, Int.tdiv_eq_ediv_of_nonneg (by omega)]; omega
    · rw [IntKind.wrap_u64]; omega
    · rw [IntKind.wrap_u64]; omega
    · simp only [IntKind.wrap_u64]; omega

theorem rem_any (hi lo : Int) (h0 : U hi) (hl : U lo) (hp : hi < 18446744069414584321) (w : World) :
    Calls Try.prog 51 #[.int .u64 hi, .int .u64 lo, .int .u64 18446744069414584321] w fun e w' => e = .returned (.int .u64 ((hi * 18446744073709551616 + lo) % 18446744069414584321)) ∧ ∃ n, w' = w.drewN n := by
  have e1 : hi.tmod 18446744069414584321 = hi := by rw [Int.tmod_eq_emod_of_nonneg h0.1]; have := h0.1; omega
  have e2 : hi % 18446744069414584321 = hi := by have := h0.1; omega
  have k := fun w => div_any hi lo h0.1 hp hl w
  generalize (hi * 18446744073709551616 + lo) % 18446744069414584321 = rm at *
  have hh := h0.1
  go_enter Try.func51, Try.ntmps51
  go_wp2_with (go_at_call 63; ((with_reducible refine (k _).mono ?_); rintro e w' ⟨q', rfl, n, rfl⟩))
  go_ret
  exact ⟨rfl, _, rfl⟩

end Go.Proofs.Ytjcgakmhpblanaa
namespace Go.Proofs.Ytjcgakmhpblanaa
open Go.RowKit
set_option linter.unusedVariables false

theorem enc_wrap_sub (y : F) : IntKind.u64.wrap (18446744069414584321 - enc y) = 18446744069414584321 - enc y := by
  have := enc_nonneg y; have := enc_lt y; rw [IntKind.wrap_u64]; omega

theorem refadd_any (a b : Int) (ha : U a) (hb : U b) (w : World) : Calls Try.prog 36 #[.int .u64 a, .int .u64 b] w fun e w' => e = .returned (.int .u64 (enc (toF a + toF b))) ∧ w = w' := by
  have e := enc_add (toF a) (toF b)
  have r1 := rem_toF a ha; have r2 := mod_toF a ha
  have r3 := rem_toF b hb; have r4 := mod_toF b hb
  have x0 := enc_nonneg (toF a); have x1 := enc_lt (toF a)
  have y0 := enc_nonneg (toF b); have y1 := enc_lt (toF b)
  have ha0 := ha.1; have hb0 := hb.1
  generalize enc (toF a + toF b) = z at *
  generalize enc (toF a) = x at *
  generalize enc (toF b) = y at *
  have e0 : IntKind.u64.wrap (18446744069414584321 - y) = 18446744069414584321 - y := by rw [IntKind.wrap_u64]; omega
  by_cases c1 : 18446744069414584321 - y ≤ x
  · have e1 : IntKind.u64.wrap (x - (18446744069414584321 - y)) = z := by rw [IntKind.wrap_u64, e]; omega
    clear e x0 x1 y0 y1 ha hb
    go_enter Try.func36, Try.ntmps36
    go_wp2
    go_ret
    exact ⟨rfl, rfl⟩
  · have e1 : IntKind.u64.wrap (x + y) = z := by rw [IntKind.wrap_u64, e]; omega
    clear e x0 x1 y0 y1 ha hb
    go_enter Try.func36, Try.ntmps36
    go_wp2
    go_ret
    exact ⟨rfl, rfl⟩

theorem refneg_any (a : Int) (ha : U a) (w : World) : Calls Try.prog 49 #[.int .u64 a] w fun e w' => e = .returned (.int .u64 (enc (-toF a))) ∧ w = w' := by
  have e := enc_neg (toF a)
  have r1 := rem_toF a ha; have r2 := mod_toF a ha
  have x0 := enc_nonneg (toF a); have x1 := enc_lt (toF a)
  have ha0 := ha.1
  generalize enc (-toF a) = z at *
  generalize enc (toF a) = x at *
  by_cases c1 : x = 0
  · have e2 : z = 0 := by omega
    subst c1 e2
    clear e x0 x1
    go_enter Try.func49, Try.ntmps49
    go_wp2
    go_ret
    exact ⟨rfl, rfl⟩
  · have e2 : IntKind.u64.wrap (18446744069414584321 - x) = z := by rw [IntKind.wrap_u64, e]; omega
    have c2 : (x == 0) = false := by simpa using c1
    clear e x0 x1 c1
    go_enter Try.func49, Try.ntmps49
    go_wp2
    go_ret
    exact ⟨rfl, rfl⟩

theorem refsub_any (a b : Int) (ha : U a) (hb : U b) (w : World) : Calls Try.prog 37 #[.int .u64 a, .int .u64 b] w fun e w' => e = .returned (.int .u64 (enc (toF a - toF b))) ∧ w = w' := by
  have k : toF a + -toF b = toF a - toF b := by grind
  have H := Lib.hid k; clear k
  go_enter Try.func37, Try.ntmps37
  go_wp2_with (first | (go_at_call 49; ((with_reducible refine (refneg_any b hb _).mono ?_); rintro e w' ⟨rfl, rfl⟩)) | (go_at_call 36; ((with_reducible refine (refadd_any a _ ha (enc_U _) _).mono ?_); rintro e w' ⟨rfl, rfl⟩)))
  go_ret
  exact ⟨by rw [← H.out]; rfl, rfl⟩

theorem hiOf_lt (a b : Int) (ha : 0 ≤ a ∧ a < 18446744069414584321) (hb : 0 ≤ b ∧ b < 18446744069414584321) : hiOf a b < 18446744069414584321 := by
  obtain ⟨a0, a1⟩ := ha
  obtain ⟨b0, b1⟩ := hb
  obtain ⟨n, rfl⟩ := Int.eq_ofNat_of_zero_le a0
  obtain ⟨m, rfl⟩ := Int.eq_ofNat_of_zero_le b0
  have h : n * m ≤ 18446744069414584320 * 18446744069414584320 := Nat.mul_le_mul (by omega) (by omega)
  have e : (n : Int) * (m : Int) = ((n * m : Nat) : Int) := (Int.natCast_mul n m).symm
  unfold hiOf
  rw [e]
  omega

theorem refmul_any (a b : Int) (ha : U a) (hb : U b) (w : World) : Calls Try.prog 38 #[.int .u64 a, .int .u64 b] w fun e w' => e = .returned (.int .u64 (enc (toF a * toF b))) ∧ ∃ n, w' = w.drewN n := by
  have e := enc_mul (toF a) (toF b)
  have r1 := rem_toF a ha; have r2 := mod_toF a ha
  have r3 := rem_toF b hb; have r4 := mod_toF b hb
  have xU := enc_U (toF a); have yU := enc_U (toF b)
  have hl := hiOf_lt _ _ ⟨enc_nonneg (toF a), enc_lt _⟩ ⟨enc_nonneg (toF b), enc_lt _⟩
  have hh := hilo (enc (toF a)) (enc (toF b))
  have lU := loOf_U (enc (toF a)) (enc (toF b))
  have hU := hiOf_U _ _ xU yU
  have ha0 := ha.1; have hb0 := hb.1
  generalize enc (toF a * toF b) = z at *
  generalize enc (toF a) = x at *
  generalize enc (toF b) = y at *
  have k1 := fun w => mul64_any x y xU yU w
  generalize hiOf x y = hi at *
  generalize loOf x y = lo at *
  have k2 := fun w => rem_any hi lo hU lU hl w
  rw [← hh, ← e] at k2
  clear e hh hl hU lU ha hb xU yU
  go_enter Try.func38, Try.ntmps38
  go_wp2_with (first | (go_at_call 50; ((with_reducible refine (k1 _).mono ?_); rintro e w' ⟨rfl, rfl⟩)) | (go_at_call 51; ((with_reducible refine (k2 _).mono ?_); rintro e w' ⟨rfl, n, rfl⟩)))
  go_ret
  exact ⟨rfl, _, rfl⟩

theorem refmul_is (a b z : Int) (ha : U a) (hb : U b) (h : enc (toF a * toF b) = z) (w : World) : Calls Try.prog 38 #[.int .u64 a, .int .u64 b] w fun e w' => e = .returned (.int .u64 z) ∧ ∃ n, w' = w.drewN n := h ▸ refmul_any a b ha hb w

end Go.Proofs.Ytjcgakmhpblanaa
namespace Go.Proofs.Ytjcgakmhpblanaa
open Go.RowKit
set_option linter.unusedVariables false

end Go.Proofs.Ytjcgakmhpblanaa
namespace Go.Proofs.Ytjcgakmhpblanaa
open Go.RowKit Go.Sort Go.BigFrame
set_option linter.unusedVariables false

theorem below_drewN {B : Nat} {a : World} : ∀ {w : World}, Below B a w → ∀ n, Below B a (w.drewN n)
  | w, h, n => ⟨h.os, h.tape, h.output, h.size, h.block⟩
theorem exit_gen {K : Act → World → Prop} {Q : Exit → Act → World → Prop} {e : Exit} {a : Act} {w : World} (S : World → Prop) (h : S w) (k : ∀ W, S W → Exit.then K Q e a W) : Exit.then K Q e a w := k w h
theorem ref_below {f : FuncId} {args : Array Value} {v : Value} {w : World} (h : Calls Try.prog f args w fun e w' => e = .returned v ∧ ∃ n, w' = w.drewN n) : Calls Try.prog f args w fun e w' => e = .returned v ∧ Below w.heap.size w w' :=
  h.mono fun _ _ ⟨he, n, hn⟩ => ⟨he, hn ▸ below_drewN (Below.refl _ _) n⟩
theorem refadd_is (a b z : Int) (ha : U a) (hb : U b) (h : enc (toF a + toF b) = z) (w : World) : Calls Try.prog 36 #[.int .u64 a, .int .u64 b] w fun e w' => e = .returned (.int .u64 z) ∧ w = w' := h ▸ refadd_any a b ha hb w
theorem refsub_is (a b z : Int) (ha : U a) (hb : U b) (h : enc (toF a - toF b) = z) (w : World) : Calls Try.prog 37 #[.int .u64 a, .int .u64 b] w fun e w' => e = .returned (.int .u64 z) ∧ w = w' := h ▸ refsub_any a b ha hb w
theorem refneg_is (a z : Int) (ha : U a) (h : enc (-toF a) = z) (w : World) : Calls Try.prog 49 #[.int .u64 a] w fun e w' => e = .returned (.int .u64 z) ∧ w = w' := h ▸ refneg_any a ha w
/-- What the slots of Scale's statement hold. -/
def ScaleR (a b c : Int) (l : F2) (s t : Int) (k : Nat) (v : Value) (W : World) : Prop :=
  match k with
  | 5 => v = .agg #[.int .u64 a, .int .u64 b]
  | 6 => v = .int .u64 c
  | 7 => v = .agg #[.int .u64 (enc l.a), .int .u64 (enc l.b)]
  | _ => v = .agg #[.int .u64 s, .int .u64 t]
theorem ScaleR.keep {a b c : Int} {l : F2} {s t : Int} {k : Nat} {v : Value} {W W' : World} (h : ScaleR a b c l s t k v W) (hb : Below W.heap.size W W') : ScaleR a b c l s t k v W' := h
end Go.Proofs.Ytjcgakmhpblanaa
namespace Go.Proofs.Ytjcgakmhpblanaa
open Go.RowKit Go.Sort Go.BigFrame
set_option linter.unusedVariables false

end Go.Proofs.Ytjcgakmhpblanaa
