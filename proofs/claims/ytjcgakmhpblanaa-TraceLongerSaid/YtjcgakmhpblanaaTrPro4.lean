/-
  What the program's missed and broken of layer 19 come to.
-/
import Derived.Test.YtjcgakmhpblanaaTrPro2
import Derived.Test.YtjcgakmhpblanaaTraceRefP
import Derived.Test.YtjcgakmhpblanaaTraceRefC
import Derived.BigQuiet
namespace Go.Proofs.Ytjcgakmhpblanaa
open Go Go.RowKit Go.Sort Go.BigFrame
set_option linter.unusedVariables false

/-- The first one's number, or -1. -/
def fstI : Option Nat → Int
  | some k => (k : Int)
  | none => -1
theorem fstI_none {p : Nat → Bool} {n : Nat} (h : ∀ j, j < n → p j = false) : fstI (fstB p n) = -1 := by rw [fstB_none.2 h]; rfl
theorem fstI_some {p : Nat → Bool} {n k : Nat} (hk : k < n) (hp : p k = true) (hj : ∀ j, j < k → p j = false) : fstI (fstB p n) = (k : Int) := by rw [fstB_is hk hp hj]; rfl
def MissRel (w1 : World) (p : Nat → Bool) (s n : Nat) (i : Value) (W : World) : Prop := ∃ k : Nat, k ≤ n ∧ i = .int .i64 k ∧ Below w1.heap.size w1 W ∧ ∀ j, j < s + k → p j = false
def missB (zs : List (Int × Int)) (pub row : List Int) (i : Nat) (k : Nat) : Bool := decide ((zs.getD k (0, 0)).2 = (i : Int)) && decide (row.getD (zs.getD k (0, 0)).1.toNat 0 ≠ pub.getD k 0)
set_option maxHeartbeats 4000000 in
theorem pmissed_is (ba : Option Addr) (bc : Nat) (zs : List (Int × Int)) (pa : Option Addr) (pc : Nat) (pub : List Int) (i : Nat) (ra : Option Addr) (rc : Nat) (row : List Int) (r : Int) (w : World) (hZ : BoundA w ba zs.length zs) (hp : RowA w pa pub.length pub) (hr : RowA w ra row.length row) (hin : ∀ k, k < zs.length → 0 ≤ (zs.getD k (0, 0)).1 ∧ (zs.getD k (0, 0)).1 < row.length) (hl : pub.length = zs.length) (hzz : fstI (fstB (missB zs pub row i) zs.length) = r) :
    Calls Try.prog 34 #[.slice ba zs.length bc, .slice pa pub.length pc, .int .i64 i, .slice ra row.length rc] w fun e w' => e = .returned (.int .i64 r) ∧ Below w.heap.size w w' := by
  have HZ := Lib.hid hZ; have HP := Lib.hid hp; have HR := Lib.hid hr; have HIN := Lib.hid hin; have HZZ := Lib.hid hzz
  have hzm := hZ.2.1
  have hrm := hr.2.1
  unfold maxLen at hzm hrm
  obtain ⟨pl, hpl⟩ : ∃ n, pub.length = n := ⟨_, rfl⟩
  have HAT := Lib.hid (fun k (h : k < pl) => hp.2.2 k (by omega))
  rw [hpl] at hl
  simp only [hpl]
  have HL := Lib.hid hl; have HPL := Lib.hid hpl
  clear hZ hp hr hin hzz hl hpl
  go_enter Try.func34, Try.ntmps34
  go_upto_region 2 with fail
  go_loopw [13] (MissRel w (missB zs pub row i) 0 zs.length) (fun i _ => zs.length - (intOf i).toNat)
  case atStart => exact ⟨0, Nat.zero_le _, rfl, Below.refl _ _, fun j hj => by omega⟩
  case round =>
    obtain ⟨k, hk, rfl, hB, hpk⟩ := hrel
    have HB := Lib.hid hB; have HPK := Lib.hid hpk
    by_cases hlt : k < zs.length
    · have hltI : (k : Int) < (zs.length : Int) := by omega
      obtain ⟨bb, bo, hpb, c0, c1⟩ := (HZ.out.keep hB).2.2 k hlt
      have hin := HIN.out k hlt
      have HBV : Hid (missB zs pub row i k = (decide ((zs.getD k (0, 0)).2 = (i : Int)) && decide (row.getD (zs.getD k (0, 0)).1.toNat 0 ≠ pub.getD k 0))) := Lib.hid rfl
      generalize zs.getD k (0, 0) = bd at *
      obtain ⟨C', R⟩ := bd
      dsimp only at c0 c1 hin HBV
      obtain ⟨i1, i2⟩ := hin
      obtain ⟨C, rfl⟩ := Int.eq_ofNat_of_zero_le i1
      rw [Int.toNat_natCast] at HBV
      have hCl : C < row.length := by omega
      obtain ⟨rb, ro, hpr, f0⟩ := (HR.out.keep hB).2.2 C hCl
      obtain ⟨qb, qo, hpq, g0⟩ := (HP.out.keep hB).2.2 k (by rw [HPL.out, HL.out]; exact hlt)
      have hplI : (k : Int) < (pl : Int) := by have := HL.out; omega
      have hCI : (C : Int) < (row.length : Int) := by omega
      have hC0 : (0 : Int) ≤ (C : Int) := by omega
      have hk0 : (0 : Int) ≤ (k : Int) := by omega
      generalize row.getD C 0 = x at *
      generalize pub.getD k 0 = y at *
      simp only [hpb, hpr, hpq]
      clear hB hpb hpr hpq hpk i1 i2
      go_upto_region 4 with fail
      refine wp_gen (fun W' => Below wr.heap.size wr W' ∧ W'.cell? ⟨wr.heap.size, 0, none⟩ = some (.int .i64 C) ∧ W'.cell? ⟨wr.heap.size, 1, none⟩ = some (.int .i64 R)) ⟨(Below.refl _ _).alloc (Nat.le_refl _) _, by simp [go_sem], by simp [go_sem]⟩ ?_
      obtain ⟨q, hq⟩ : ∃ q, wr.heap.size = q := ⟨_, rfl⟩
      rintro W2 ⟨hb2, y0, y1⟩
      replace f0 := bkeep hb2 f0; replace g0 := bkeep hb2 g0
      have HB2 := Lib.hid (bthen HB.out hb2)
      rw [hq] at y0 y1
      simp only [hq]
      clear hb2 HB hq c0 c1
      by_cases hR : R = (i : Int)
      · by_cases hxy : x = y
        · subst hxy
          have HPK2 : Hid (∀ j, j < 0 + (k + 1) → missB zs pub row i j = false) := Lib.hid fun j hj => by
            by_cases e : j = k
            · subst e; rw [HBV.out]; simp
            · exact HPK.out j (by omega)
          clear HPK HBV
          go_quiet (fail)
          go_wp2_with fail
          go_roundw
          case rel => exact ⟨k + 1, by omega, by go_num, below_drewN HB2.out _, HPK2.out⟩
          case measure => simp [intOf]; omega
        · have hD := (fstI_some hlt (by rw [HBV.out]; simp [hR, hxy]) (fun j hj => HPK.out j (by omega))).symm.trans HZZ.out
          subst hD
          clear HPK HBV HZZ
          go_quiet (fail)
          go_wp2_with fail
          go_ret
          exact ⟨rfl, below_drewN HB2.out _⟩
      · have HPK2 : Hid (∀ j, j < 0 + (k + 1) → missB zs pub row i j = false) := Lib.hid fun j hj => by
          by_cases e : j = k
          · subst e; rw [HBV.out]; simp [hR]
          · exact HPK.out j (by omega)
        clear HPK HBV
        go_quiet (fail)
        go_wp2_with fail
        go_roundw
        case rel => exact ⟨k + 1, by omega, by go_num, below_drewN HB2.out _, HPK2.out⟩
        case measure => simp [intOf]; omega
    · obtain rfl : k = zs.length := by omega
      have hD := (fstI_none (fun j hj => hpk j (by omega))).symm.trans HZZ.out
      subst hD
      clear hB hpk HPK HZZ
      go_wp2
      go_ret
      exact ⟨rfl, HB.out⟩
/-- Which rules a row and the next one break: the steps', held against the next row, and then the others. -/
def brokB (ls ms : List (List Opn)) (row next : List Int) (k : Nat) : Bool := if k < ls.length then decide ((behV ls row).getD k 0 ≠ next.getD k 0) else decide (evB numA (rowF row) (rowF next) (ms.getD (k - ls.length) []) ≠ 0)
set_option maxHeartbeats 4000000 in
theorem pbroken_is (a : Option Addr) (cap : Nat) (ls : List (List Opn)) (b : Option Addr) (capb : Nat) (ms : List (List Opn)) (c : Option Addr) (capc : Nat) (row : List Int) (d : Option Addr) (capd : Nat) (next : List Int) (cols : Int) (r : Int) (w : World) (hT : OpRows w a ls.length ls) (hM : OpRows w b ms.length ms) (hE : ∀ k, k < ls.length → (∀ o ∈ ls.getD k [], OkO o) ∧ EvOk (ls.getD k []) cols) (hF : ∀ k, k < ms.length → (∀ o ∈ ms.getD k [], OkO o) ∧ EvOk (ms.getD k []) cols)
    (hr : RowA w c row.length row) (hu : UsR row) (hc : cols ≤ row.length) (hx : RowA w d next.length next) (hv : UsR next) (hd : cols ≤ next.length) (hln : ls.length ≤ next.length) (hn : ls.length ≤ 40) (hm : ms.length ≤ 40) (hzz : fstI (fstB (brokB ls ms row next) (ls.length + ms.length)) = r) :
    Calls Try.prog 33 #[.slice a ls.length cap, .slice b ms.length capb, .slice c row.length capc, .slice d next.length capd] w fun e w' => e = .returned (.int .i64 r) ∧ Below w.heap.size w w' := by
  have kb := pbehind_is a cap ls c capc row cols w hT hE hr hu hc hn
  have HM := Lib.hid hM; have HF := Lib.hid hF; have HR := Lib.hid hr; have HU := Lib.hid hu; have HX := Lib.hid hx; have HV := Lib.hid hv; have HZZ := Lib.hid hzz
  clear hT hM hE hF hr hu hx hv hzz
  obtain ⟨n, hnn⟩ : ∃ n, ls.length = n := ⟨_, rfl⟩
  have HN := Lib.hid hnn
  simp only [hnn] at kb ⊢
  have hn40 : n ≤ 40 := by omega
  have hnl : n ≤ next.length := by omega
  clear hnn
  go_enter Try.func33, Try.ntmps33
  go_upto_region 2 with (go_at_call 28; (with_reducible refine kb.mono ?_); rintro E w1 ⟨v, rfl, hV⟩; obtain ⟨av, cv, rfl⟩ := own_form hV.1; have hW := hV.told; have HB := Lib.hid hV.2; clear hV)
  obtain ⟨a5, c5, e5, hrow⟩ := hW
  simp only [Value.slice.injEq] at e5
  obtain ⟨rfl, _, rfl⟩ := e5
  have HW := Lib.hid hrow
  have hbl : (behV ls row).length = n := by rw [behV_len]; exact HN.out
  simp only [hbl]
  clear hrow kb
  go_loopw [17] (MissRel w1 (brokB ls ms row next) 0 n) (fun i _ => n - (intOf i).toNat)
  case atStart => exact ⟨0, Nat.zero_le _, rfl, Below.refl _ _, fun j hj => by omega⟩
  case round =>
    obtain ⟨k, hk, rfl, hB, hpk⟩ := hrel
    have HBI := Lib.hid hB; have HPK := Lib.hid hpk
    by_cases hlt : k < n
    · have hltI : (k : Int) < (n : Int) := by omega
      obtain ⟨b1, o1, hp1, c0⟩ := (HW.out.keep hB).2.2 k (by omega)
      obtain ⟨b2, o2, hp2, c1⟩ := (HX.out.keep (bthen HB.out hB)).2.2 k (by omega)
      have hxl := HX.out.2.1
      unfold maxLen at hxl
      have hltX : (k : Int) < (next.length : Int) := by omega
      have hk0 : (0 : Int) ≤ (k : Int) := by omega
      have HBV : Hid (brokB ls ms row next k = decide ((behV ls row).getD k 0 ≠ next.getD k 0)) := Lib.hid (if_pos (by have := HN.out; omega))
      generalize (behV ls row).getD k 0 = x at *
      generalize next.getD k 0 = y at *
      simp only [hp1, hp2]
      clear hB hpk hp1 hp2 hbl
      by_cases hxy : x = y
      · subst hxy
        have HPK2 : Hid (∀ j, j < 0 + (k + 1) → brokB ls ms row next j = false) := Lib.hid fun j hj => by
          by_cases e : j = k
          · subst e; rw [HBV.out]; simp
          · exact HPK.out j (by omega)
        clear HPK HBV
        go_wp2_with fail
        go_roundw
        case rel => exact ⟨k + 1, by omega, by go_num, HBI.out, HPK2.out⟩
        case measure => simp [intOf]; omega
      · have hD := (fstI_some (k := k) (n := ls.length + ms.length) (by have := HN.out; omega) (by rw [HBV.out]; simp [hxy]) (fun j hj => HPK.out j (by omega))).symm.trans HZZ.out
        subst hD
        have HBE := Lib.hid (bthen HB.out HBI.out)
        have hxy2 : (x != y) = true := by simpa using hxy
        clear HPK HBV HZZ hxy
        go_wp2_with fail
        go_ret
        exact ⟨rfl, HBE.out⟩
    · have hkn : n = k := by omega
      subst hkn
      have HB1 := Lib.hid (bthen HB.out hB)
      clear hB hpk HBI hbl HW
      go_upto_region 8 with fail
      go_loopw [32] (MissRel wr (brokB ls ms row next) n ms.length) (fun i _ => ms.length - (intOf i).toNat)
      case atStart => exact ⟨0, Nat.zero_le _, rfl, Below.refl _ _, fun j hj => HPK.out j (by rw [Nat.zero_add]; exact hj)⟩
      case round =>
        clear HPK
        obtain ⟨k, hk, rfl, hB, hpk⟩ := hrel
        have HBI := Lib.hid hB; have HPK := Lib.hid hpk
        by_cases hlt : k < ms.length
        · have hltI : (k : Int) < (ms.length : Int) := by omega
          have hBB := bthen HB1.out hB
          obtain ⟨b1, o1, hp1, ak, ck, c0, hOk, _⟩ := (opRows_keep HM.out hBB).2.2 k hlt
          obtain ⟨hko, hke⟩ := HF.out k hlt
          have hsub : n + k - ls.length = k := by rw [HN.out]; exact Nat.add_sub_cancel_left _ _
          have HBV : Hid (brokB ls ms row next (n + k) = decide (evB numA (rowF row) (rowF next) (ms.getD k []) ≠ 0)) := Lib.hid (by
            unfold brokB
            rw [if_neg (by rw [HN.out]; exact Nat.not_lt.2 (Nat.le_add_right n k)), hsub])
          have hmk := hOk.2.1
          generalize ms.getD k [] = m at *
          have hrR := HR.out.keep hBB
          have hrX := HX.out.keep hBB
          have ka := fun W (h1 : OpA W ak m.length m) (h2 : RowA W c row.length row) (h3 : RowA W d next.length next) => vnat_is ak m.length ck m c row.length capc row d next.length capd next cols _ W h1 hko hke h2 HU.out hc h3 HV.out hd rfl
          obtain ⟨f, hf⟩ : ∃ f, (enc (evB numA (rowF row) (rowF next) m) != 0) = f := ⟨_, rfl⟩
          have hBV := HBV.out
          rw [← enc_bne, hf] at hBV
          generalize enc (evB numA (rowF row) (rowF next) m) = z at *
          have HOK := Lib.hid hOk; have HRW := Lib.hid hrR; have HXW := Lib.hid hrX
          have HBV2 := Lib.hid hBV
          have hw1 : IntKind.i64.wrap ((n : Int) + (k : Int)) = ((n + k : Nat) : Int) := by rw [IntWalk.i64_in _ (by omega)]; omega
          have hw2 : wrap64 ((n : Int) + (k : Int)) = ((n + k : Nat) : Int) := by rw [IntWalk.wrap64_in _ (by omega)]; omega
          simp only [hp1]
          clear hB hpk hp1 hko hke hsub hmk hOk hrR hrX hBV HBV hBB
          cases f
          · have HPK2 : Hid (∀ j, j < n + (k + 1) → brokB ls ms row next j = false) := Lib.hid fun j hj => by
              by_cases e : j = n + k
              · subst e; exact HBV2.out
              · exact HPK.out j (Nat.lt_of_le_of_ne (Nat.le_of_lt_succ hj) e)
            clear HPK hw1 hw2
            go_wp2_with (go_at_call 45; (with_reducible refine (ka _ HOK.out HRW.out HXW.out).mono ?_); rintro E w4 ⟨rfl, hb⟩; replace HBI := Lib.hid (bthen HBI.out hb); clear hb ka)
            go_roundw
            case rel => exact ⟨k + 1, by omega, by go_num, HBI.out, HPK2.out⟩
            case measure => simp [intOf]; omega
          · have hD := (fstI_some (n := ls.length + ms.length) (by rw [HN.out]; exact Nat.add_lt_add_left hlt n) HBV2.out (fun j hj => HPK.out j hj)).symm.trans HZZ.out
            subst hD
            clear HPK HZZ
            go_wp2_with (go_at_call 45; (with_reducible refine (ka _ HOK.out HRW.out HXW.out).mono ?_); rintro E w4 ⟨rfl, hb⟩; replace HBI := Lib.hid (bthen HBI.out hb); clear hb ka)
            go_ret
            exact ⟨rfl, bthen HB1.out HBI.out⟩
        · obtain rfl : k = ms.length := by omega
          have hD := (fstI_none (n := ls.length + ms.length) (fun j hj => hpk j (by rw [HN.out] at hj; exact hj))).symm.trans HZZ.out
          subst hD
          have HBE := Lib.hid (bthen HB1.out hB)
          clear hB hpk HPK HZZ
          go_wp2
          go_ret
          exact ⟨rfl, HBE.out⟩
end Go.Proofs.Ytjcgakmhpblanaa
