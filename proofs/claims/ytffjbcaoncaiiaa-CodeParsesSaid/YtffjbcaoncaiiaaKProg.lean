/-
  The program's Parse and Print of layer 15; what is asked of the program's calls is so.
-/
import Derived.Test.YtffjbcaoncaiiaaKPro1
import Derived.Lib.AppendStr
namespace Go.Proofs.Ytffjbcaoncaiiaa
open Go Go.RowKit
set_option linter.unusedVariables false

def txtLen : Value → Nat
  | .string t => t.size
  | _ => 0
def KParseRel (w : World) (m : List Opn) (r : Int) (s v : Value) (W : World) : Prop :=
  ∃ (t : ByteArray) (out : List Opn) (ad : Option Addr) (cap : Nat), t.size ≤ 9223372036854775807 ∧ s = .string t ∧ v = .slice ad out.length cap ∧ Below w.heap.size w W ∧ W.ownsRow w.heap.size 27 2 v out.length (flatO out) ∧ out.length ≤ 256 ∧ parseR t 0 out = (m, r)
set_option maxRecDepth 100000 in
set_option maxHeartbeats 8000000 in
theorem kparse_own (s : ByteArray) (m : List Opn) (r : Int) (w : World) (hs : s.size ≤ 9223372036854775807) (hr : parseB s = (m, r)) : Calls Try.prog 13 #[.string s] w (ParseOwn w m r) := by
  obtain ⟨i0, hi, hz0, hz1, hz2⟩ := info_parts infoOp
  have HR : Hid (∀ a : List Opn × Int, a = (m, r) → a.1 = m ∧ a.2 = r) := Lib.hid fun a h => by subst h; exact ⟨rfl, rfl⟩
  have HR0 := Lib.hid hr
  clear hr
  go_enter Try.func13, Try.ntmps13
  go_upto_region 2 with fail
  go_loopw [0, 4] (KParseRel w m r) (fun s _ _ => txtLen s)
  case atStart => exact ⟨s, [], none, 0, hs, rfl, rfl, Below.refl _ _, World.ownsRow_nil _ _ _ _, by simp, HR0.out⟩
  case round =>
    clear HR0 hs
    obtain ⟨t, out, ad, cap, hts, rfl, rfl, hB, hown, hlen, hres⟩ := hrel
    by_cases hlt : 0 < t.size
    · have hltI : (0 : Int) < (t.size : Int) := by omega
      have HB := Lib.hid hB; have HO := Lib.hid hown; have HRES := Lib.hid hres
      clear hB hown hres
      obtain ⟨e, o, c, hp⟩ : ∃ e o c, parseAt t 0 = (e, o, c) := ⟨_, _, _, rfl⟩
      obtain ⟨k, n⟩ := o
      have kf := fun W => kfirst_is t e k n c hlt hts hp W
      have HP := Lib.hid hp
      have hat := at_ok t 0 hlt
      have hnx := parseAt_next t 0
      rw [hp] at hat hnx
      have HAT := Lib.hid hat
      have HNX := Lib.hid hnx
      clear hp hat hnx
      unfold firstV at kf
      have hw0 := fun k (hk : (Value.slice ad out.length cap).ownBlock = some k) => (HO.out.lt k hk).2
      have HW0 := Lib.hid hw0
      clear hw0
      go_upto_region 4 with (go_at_call 19; (with_reducible refine (kf _).mono ?_); rintro ee w1 ⟨rfl, hb1⟩)
      clear kf
      have hg1 := hb1.size
      refine wp_gen (fun W => Below w.heap.size w W ∧ W.ownsRow w.heap.size 27 2 (.slice ad out.length cap) out.length (flatO out) ∧ Duo W w1.heap.size (.int .i64 k) (.int .u64 n)) ⟨(bthen HB.out hb1).alloc (by have := HB.out.size; omega) _, (own_keep HO.out hb1).alloc _, by simp [Duo, go_sem]⟩ ?_
      obtain ⟨g, hg⟩ : ∃ g, w1.heap.size = g := ⟨_, rfl⟩
      have hol : ∀ k, (Value.slice ad out.length cap).ownBlock = some k → k ≠ g := fun k hk => by have := HW0.out k hk; omega
      rintro W1 ⟨hB, hown, hD⟩
      rw [hg] at hD
      simp only [hg]
      clear HB HO hb1 hg1 hg HW0
      have HB := Lib.hid hB; have HO := Lib.hid hown; have H6 := Lib.hid hD
      obtain ⟨y0, y1, _, _⟩ := hD
      clear hB hown
      by_cases he : e = 0
      · subst he
        obtain ⟨hcs, _, _, _⟩ := HAT.out rfl
        have hcn := HNX.out rfl
        clear HAT HNX
        replace hcs : c ≤ t.size := hcs
        replace hcn : 0 < c := hcn
        have hcI : (c : Int) ≤ (t.size : Int) := by omega
        have hc0 : (0 : Int) ≤ (c : Int) := by omega
        have hct : ((c : Int)).toNat = c := by omega
        have h0 : (parseAt t 0).1 = 0 := by rw [HP.out]
        by_cases hm : out.length = 256
        · have hmI : (out.length : Int) = 256 := by omega
          obtain ⟨e1, e2⟩ := HR.out _ ((parseR_many hlt h0 (by omega)).symm.trans HRES.out)
          have e1 : ([] : List Opn) = m := e1
          have e2 : (6 : Int) = r := e2
          subst e1 e2
          clear HR HRES HP HO h0 hm
          go_wp2_with fail
          exact bodyPost_ret (v := .tuple #[.slice none 0 0, .int .i64 6]) (by simp [results, Try.results13, go_sem]) rfl ⟨HB.out, _, rfl, World.ownsRow_nil _ _ _ _⟩
        · have hmI : ¬ (out.length : Int) = 256 := by omega
          have HS := Lib.hid ((parseR_step hlt h0 (by omega)).symm.trans HRES.out)
          rw [HP.out] at HS
          clear HR HRES h0
          have hown := HO.out
          have HFL := Lib.hid (show flatO (out ++ [(k, n)]) = flatO out ++ [.int .i64 k, .int .u64 n] by simp [flatO])
          have hsz0 := HB.out.size
          generalize hfx : flatO out = fl at *
          clear hfx
          go_upto_region 9 with (at_builtin; refine wpList_append_own _ rfl _ _ 22 rfl w.heap.size 27 i0 (.agg #[.int .i64 0, .int .u64 0]) 2 16 Try.underlying22 hi hz0 hz1 hz2 rfl (by decide) _ _ _ rfl (hown.alloc _) ⟨W1.heap.size, 0, none⟩ 1 1 [.int .i64 k, .int .u64 n] rfl rfl ?c1 ?c2 ?c3 ?c4 ?c5 ?_)
          case c2 => first | exact ⟨rfl, rfl⟩ | rfl | (intro u hu; simp at hu; rcases hu with rfl | rfl <;> rfl)
          case c3 => unfold maxLen; omega
          case c4 => omega
          case c5 => first | omega | (simp; omega)
          · intro v' w4 hown' hgrow _
            have hb4 := own_row_below (hown.alloc (.cells #[.int .i64 k, .int .u64 n] 27)) (HB.out.alloc HB.out.size _) hgrow (Nat.le_refl _) (by simp; omega)
            obtain ⟨a', cap', rfl⟩ := own_form hown'
            have HB4 := Lib.hid hb4
            have HO4 := Lib.hid hown'
            have hzz := cut_size t c
            have HL1 := Lib.hid (show out.length + 1 ≤ 256 by omega)
            have HC := Lib.hid (parse_cut t c hcs (out ++ [(k, n)]))
            clear hb4 hgrow hown hown' HB HO H6 y0 y1 hsz0 hm hmI HP
            go_wp2_with fail
            go_roundw
            case rel =>
              refine ⟨_, out ++ [(k, n)], a', cap', ?_, rfl, by simp, HB4.out, ?_, by rw [List.length_append]; exact HL1.out, HC.out.trans HS.out⟩
              · rw [hzz]; omega
              · rw [HFL.out]
                have := HO4.out
                simpa using this
            case measure => simp [txtLen]; omega
      · obtain ⟨e1, e2⟩ := HR.out _ ((parseR_err hlt (by rw [HP.out]; exact he)).symm.trans HRES.out)
        rw [HP.out] at e2
        have e1 : ([] : List Opn) = m := e1
        have e2 : e = r := e2
        subst e1 e2
        clear HR HRES HP HO HAT HNX
        go_wp2_with fail
        exact bodyPost_ret (v := .tuple #[.slice none 0 0, .int .i64 e]) (by simp [results, Try.results13, go_sem]) rfl ⟨HB.out, _, rfl, World.ownsRow_nil _ _ _ _⟩
    · have hz : t.size = 0 := by omega
      obtain ⟨e1, e2⟩ := HR.out _ ((parseR_end (by omega)).symm.trans hres)
      have e1 : out = m := e1
      have e2 : (0 : Int) = r := e2
      subst e1 e2
      have HB := Lib.hid hB
      have HQ := Lib.hid hown
      have hltI : ¬ (0 : Int) < (t.size : Int) := by omega
      clear hB hown hres HR
      go_wp2_with fail
      exact bodyPost_ret (v := .tuple #[.slice ad out.length cap, .int .i64 0]) (by simp [results, Try.results13, go_sem]) rfl ⟨HB.out, _, rfl, HQ.out⟩
theorem kparse_is (s : ByteArray) (m : List Opn) (r : Int) (w : World) (hs : s.size ≤ 9223372036854775807) (hr : parseB s = (m, r)) : Calls Try.prog 13 #[.string s] w (ParsePost w m r) :=
  (kparse_own s m r w hs hr).mono fun e w' ⟨hb, v, he, ho⟩ => by
    obtain ⟨a, c, hv, h1, h2⟩ := own_oprow ho
    subst hv
    exact ⟨hb, a, c, he, h1, h2⟩
theorem strCells_nums : ∀ xs : List Int, (∀ x ∈ xs, 0 ≤ x ∧ x < 256) → Lib.strCells (strOfNums xs) = xs.map (Value.int .u8)
  | [], _ => rfl
  | x :: xs, h => by
    have ih := strCells_nums xs fun y hy => h y (List.mem_cons_of_mem _ hy)
    obtain ⟨h0, h1⟩ := h x List.mem_cons_self
    unfold Lib.strCells at ih ⊢
    rw [strOfNums_data] at ih ⊢
    rw [List.map_cons, List.map_cons, List.map_cons, ih]
    congr 2
    rw [UInt8.toNat_ofNat']
    omega
def KPrintRel (w : World) (zs : List Opn) (v i : Value) (W : World) : Prop := ∃ k : Nat, k ≤ zs.length ∧ i = .int .i64 k ∧ MadeB w W v (codeN (zs.take k))
theorem kcodeN_next (zs : List Opn) (k : Nat) (h : k < zs.length) (x y : Int) (hx : zs.getD k (0, 0) = (x, y)) : codeN (zs.take (k + 1)) = codeN (zs.take k) ++ opN (x, y) := by
  have e : zs.getD k (0, 0) = zs[k] := by simp [List.getD, h]
  rw [List.take_succ_eq_append_getElem h, codeN_app, codeN_one, ← e, hx]
set_option maxHeartbeats 8000000 in
set_option maxRecDepth 100000 in
theorem kprint_is (a : Option Addr) (len cap : Nat) (zs : List Opn) (z : ByteArray) (w : World) (hO : OpA w a len zs) (hr : ∀ o ∈ zs, rightO o = true ∧ U o.2) (hl : len ≤ 1000) (hz : codeB zs = z) :
    Calls Try.prog 11 #[.slice a len cap] w fun e w' => e = .returned (.string z) ∧ Below w.heap.size w w' := by
  obtain ⟨i0, hi, hz0, hz1, hz2⟩ := info_parts info8
  obtain ⟨rfl, hlm, hcell⟩ := hO
  have HC := Lib.hid hcell
  have HU : Hid (∀ k, k < zs.length → rightO (zs.getD k (0, 0)) = true ∧ U (zs.getD k (0, 0)).2) := Lib.hid fun k hk => by
    have e : zs.getD k (0, 0) = zs[k] := by simp [List.getD, hk]
    rw [e]
    exact hr _ (List.getElem_mem hk)
  have HZ := Lib.hid hz
  clear hcell hr hz hlm
  go_enter Try.func11, Try.ntmps11
  go_upto_region 3 with fail
  go_loopw [3, 9] (KPrintRel w zs) (fun _ i _ => zs.length - (intOf i).toNat)
  case atStart => exact ⟨0, Nat.zero_le _, rfl, World.ownsRow_nil _ _ _ _, Below.refl _ _⟩
  case round =>
    obtain ⟨k, hk, rfl, hM⟩ := hrel
    by_cases hlt : k < zs.length
    · obtain ⟨b, off, rfl, g0, g1⟩ := HC.out k hlt
      obtain ⟨ad, cp, rfl⟩ := own_form hM.1
      replace g0 := bkeep hM.2 g0; replace g1 := bkeep hM.2 g1
      have hlt' : (k : Int) < (zs.length : Int) := by omega
      have hk0 : (0 : Int) ≤ (k : Int) := by omega
      obtain ⟨hro, huo⟩ := HU.out k hlt
      have hps : (codeN (zs.take k)).length ≤ 9000 := by
        have := codeN_len_le (zs.take k)
        have h2 : (zs.take k).length ≤ k := by rw [List.length_take]; omega
        omega
      obtain ⟨x, hx⟩ : ∃ x, (zs.getD k (0, 0)).1 = x := ⟨_, rfl⟩
      obtain ⟨y, hy⟩ : ∃ y, (zs.getD k (0, 0)).2 = y := ⟨_, rfl⟩
      have hxy : zs.getD k (0, 0) = (x, y) := Prod.ext hx hy
      have HN := Lib.hid (kcodeN_next zs k hlt x y hxy)
      rw [hxy] at hro
      rw [hx] at g0
      rw [hy] at g1 huo
      have hkd := right_kind hro
      have hwx : IntKind.u8.wrap x = x := by rw [IntKind.wrap_u8]; have h1 := hkd.1; have h2 := hkd.2; exact Int.emod_eq_of_lt (by simp only at h1; omega) (by simp only at h2; omega)
      have HM := Lib.hid hM
      generalize codeN (zs.take k) = xs at *
      clear hM hxy hx hy
      have hol0 : ∀ k, (Value.slice ad xs.length cp).ownBlock = some k → k ≠ wr.heap.size := fun k hk => by have := (HM.out.1.lt k hk).2; omega
      go_upto_region 5 with fail
      refine wp_gen (fun W => MadeB w W (.slice ad xs.length cp) xs ∧ Duo W wr.heap.size (.int .i64 x) (.int .u64 y)) ⟨HM.out.keep ((Below.refl _ _).alloc (Nat.le_refl _) _), by simp [Duo, go_sem]⟩ ?_
      obtain ⟨g, hg⟩ : ∃ g, wr.heap.size = g := ⟨_, rfl⟩
      rintro W1 ⟨hM, hD⟩
      rw [hg] at hD hol0
      simp only [hg]
      have hol := hol0
      clear HM hol0 g0 g1 hg
      have HM := Lib.hid hM; have H6 := Lib.hid hD
      obtain ⟨y0, y1, _, _⟩ := hD
      have hown := hM.1
      have hsz := hM.2.size
      clear hM
      go_upto_region 7 with (at_builtin; refine wpList_append_own_at rfl _ _ 37 rfl w.heap.size 5 i0 (.int .u8 0) 1 1 Try.underlying37 hi hz0 hz1 hz2 rfl (by decide) _ _ _ rfl (hown.alloc _) ⟨W1.heap.size, 0, none⟩ 1 1 [.int .u8 x] rfl rfl ?c1 ?c2 ?c3 ?c4 ?c5 ?_)
      case c2 => first | rfl | (intro u hu; simp at hu; subst hu; rfl)
      case c3 => unfold maxLen; omega
      case c4 => omega
      case c5 => first | omega | (simp; omega)
      · intro v' w2 hown' hgrow hat
        have HM2 : Hid (MadeB w w2 v' (xs ++ [x])) := Lib.hid ((HM.out.keep ((Below.refl _ _).alloc (Nat.le_refl _) (.cells #[.int .u8 x] 5))).step hown' hgrow)
        have hD2 := (H6.out.keep ((Below.refl _ _).alloc (Nat.le_refl _) (.cells #[.int .u8 x] 5))).grown hgrow hol
        have HD2 := Lib.hid hD2
        obtain ⟨z0, z1, _, _⟩ := hD2
        obtain ⟨ad2, cp2, rfl⟩ := own_form hown'
        have hol2 : ∀ k, (Value.slice ad2 (xs.length + 1) cp2).ownBlock = some k → k ≠ g := fun k hk => by
          rcases hat with e | e
          · rw [hk] at e; exact hol k e.symm
          · rw [hk] at e; have h1 := H6.out.lt; have e' := Option.some.inj e; rw [e']; simp; omega
        clear HM H6 y0 y1 hown hown' hgrow hol hat
        have hel : (xs ++ [x]).length = xs.length + 1 := by simp
        have hown3 := HM2.out.1
        have hsz3 := HM2.out.2.size
        rw [hel] at hown3
        generalize hfx : (xs ++ [x]).map (Value.int .u8) = fx at *
        have hcase : x = 3 ∨ (x = 1 ∨ x = 2) ∨ (¬ x = 1 ∧ ¬ x = 2 ∧ ¬ x = 3) := by omega
        have HHX := Lib.hid hfx
        clear hfx
        rcases hcase with rfl | h12 | ⟨h1, h2, h3⟩
        · have kE := fun W => oeight_is y huo W
          have hE := eightB_size y
          have hsc : Lib.strCells (eightB y) = (octs y 8).map (Value.int .u8) := strCells_nums (octs y 8) fun u hu => by
            obtain ⟨i, _, rfl⟩ := List.mem_map.1 hu
            exact oct_bd _ _
          have HSC := Lib.hid hsc
          have hop : codeN (zs.take (k + 1)) = xs ++ [3] ++ octs y 8 := by rw [HN.out, List.append_assoc]; rfl
          have HOP := Lib.hid hop
          clear hsc hop
          generalize eightB y = E at *
          go_upto_region 13 with (first | (go_at_call 16;  (with_reducible refine (kE _).mono ?_); rintro ee w3 ⟨rfl, hb3⟩) | (at_builtin; (refine Lib.wpList_append_own_string _ rfl _ _ 37 9 rfl w.heap.size 5 i0 Try.underlying37 (by kernel_rfl) hi hz0 hz1 hz2 _ _ _ rfl (own_keep hown3 hb3) E rfl ?d1 ?d2 ?d3 ?_)))
          case d1 => unfold maxLen; omega
          case d2 => omega
          case d3 => have := hb3.size; omega
          · intro v4 w4 hown4 hgrow4 _
            have HR : Hid (MadeB w w4 v4 (codeN (zs.take (k + 1)))) := Lib.hid (by
              rw [HOP.out]
              refine ⟨?_, (HM2.out.keep hb3).2.grown hgrow4 (by have := hb3.size; omega) (own_ge (own_keep hown3 hb3))⟩
              rw [List.length_append, List.map_append, octs_len, hel, HHX.out, ← HSC.out]
              exact hown4)
            clear hown4 hgrow4 hown3 HM2 HD2 HHX hb3 HSC
            go_wp2_with fail
            go_roundw
            case rel => exact ⟨k + 1, by omega, by go_num, HR.out⟩
            case measure => simp [intOf]; omega
        · have h3 : ¬ x = 3 := by omega
          have hop : codeN (zs.take (k + 1)) = xs ++ [x] ++ [y] := by rw [HN.out, List.append_assoc]; unfold opN; rw [if_neg h3, if_pos h12]; rfl
          have hyb : y < 256 := by unfold rightO at hro; rw [if_pos h12] at hro; exact of_decide_eq_true hro
          have hwy : IntKind.u8.wrap y = y := by rw [IntKind.wrap_u8]; exact Int.emod_eq_of_lt huo.1 hyb
          have HOP := Lib.hid hop
          clear hop hro hkd hwx hyb
          rcases h12 with rfl | rfl
          all_goals
            go_upto_region 13 with (at_builtin; refine wpList_append_own_at rfl _ _ 37 rfl w.heap.size 5 i0 (.int .u8 0) 1 1 Try.underlying37 hi hz0 hz1 hz2 rfl (by decide) _ _ _ rfl (hown3.alloc _) ⟨w2.heap.size, 0, none⟩ 1 1 [.int .u8 y] rfl rfl ?e1 ?e2 ?e3 ?e4 ?e5 ?_)
            case e1 => exact one_src (by simp [go_sem])
            case e2 => first | rfl | (intro u hu; simp at hu; subst hu; rfl)
            case e3 => unfold maxLen; omega
            case e4 => omega
            case e5 => first | omega | (simp; omega)
            intro v4 w4 hown4 hgrow4 _
            have HR : Hid (MadeB w w4 v4 (codeN (zs.take (k + 1)))) := Lib.hid (by
              rw [HOP.out]
              refine (HM2.out.keep ((Below.refl _ _).alloc (Nat.le_refl _) (.cells #[.int .u8 y] 5))).step ?_ hgrow4
              rw [hel, HHX.out]
              exact hown4)
            clear hown4 hgrow4 hown3 HM2 HD2 HHX
            go_wp2_with fail
            go_roundw
            case rel => exact ⟨k + 1, by omega, by go_num, HR.out⟩
            case measure => simp [intOf]; omega
        · have hop : codeN (zs.take (k + 1)) = xs ++ [x] := by rw [HN.out]; unfold opN; rw [if_neg h3, if_neg (by omega)]
          have HOP := Lib.hid hop
          have HR : Hid (MadeB w w2 (.slice ad2 (xs.length + 1) cp2) (codeN (zs.take (k + 1)))) := Lib.hid (by rw [HOP.out]; exact HM2.out)
          clear hop hro hkd hown3 HM2 HD2 HHX
          go_wp2_with fail
          go_roundw
          case rel => exact ⟨k + 1, by omega, by go_num, HR.out⟩
          case measure => simp [intOf]; omega
    · obtain rfl : k = zs.length := by omega
      have hB := hM.2
      have hx := hM.text
      have hzt : codeN (zs.take zs.length) = codeN zs := by rw [List.take_length]
      have ht : strOfNums (codeN zs) = z := HZ.out
      rw [hzt] at hx
      rcases hx with ⟨rfl, h0⟩ | ⟨g, cp, rfl, hc⟩
      · have hcv := run_convert_bytes_nil (P := Try.prog) wr 37 5 (by kernel_rfl) (by kernel_rfl) 0 0 9 (by kernel_rfl)
        rw [h0] at ht
        have ht' : ByteArray.empty = z := ht
        rw [ht'] at hcv
        have HB := Lib.hid hB
        clear ht ht' hM hB hzt HZ HC HU
        go_wp2_with fail
        go_ret
        exact ⟨rfl, HB.out⟩
      · have hcv := run_convert_bytes_arg (P := Try.prog) wr 37 5 (by kernel_rfl) (by kernel_rfl) g 0 _ cp (codeN zs) rfl hc 9 (by kernel_rfl)
        rw [ht] at hcv
        have HB := Lib.hid hB
        clear ht hM hc hB hzt HZ HC HU
        go_wp2_with fail
        go_ret
        exact ⟨rfl, HB.out⟩
theorem ask15 : AskCode (fun _ => True) where
  keep := fun _ _ => trivial
  right := fun k n r W hk hr _ => kright_is k n r W hk hr
  print := fun a len cap zs z W hO hr hl hz _ => kprint_is a len cap zs z W hO hr hl hz
  parse := fun s m r W hs hr _ => kparse_is s m r W hs hr
end Go.Proofs.Ytffjbcaoncaiiaa
