/-
  The program's Parse and Print of layer 15; what is asked of the program's calls is so.
-/
import Derived.Test.YtckipfcjgmiacaaKPro1
import Derived.Lib.AppendStr
namespace Go.Proofs.Ytckipfcjgmiacaa
open Go Go.RowKit
set_option linter.unusedVariables false

def txtLen : Value → Nat
  | .string t => t.size
  | _ => 0
def KParseRel (w : World) (m : List Opn) (r : Int) (s v : Value) (W : World) : Prop :=
  ∃ (t : ByteArray) (out : List Opn) (ad : Option Addr) (cap : Nat), t.size ≤ 9223372036854775807 ∧ s = .string t ∧ v = .slice ad out.length cap ∧ Below w.heap.size w W ∧ W.ownsRow w.heap.size 51 2 v out.length (flatO out) ∧ out.length ≤ 256 ∧ parseR t 0 out = (m, r)
set_option maxRecDepth 100000 in
set_option maxHeartbeats 8000000 in
theorem kparse_own (s : ByteArray) (m : List Opn) (r : Int) (w : World) (hs : s.size ≤ 9223372036854775807) (hr : parseB s = (m, r)) : Calls Try.prog 58 #[.string s] w (ParseOwn w m r) := by
  obtain ⟨i0, hi, hz0, hz1, hz2⟩ := info_parts infoOp
  have HR : Hid (∀ a : List Opn × Int, a = (m, r) → a.1 = m ∧ a.2 = r) := Lib.hid fun a h => by subst h; exact ⟨rfl, rfl⟩
  have HR0 := Lib.hid hr
  clear hr
  go_enter Try.func58, Try.ntmps58
  go_upto_region 2 with fail
  go_loopw [0, 4] (KParseRel w m r) (fun s _ _ => txtLen s)
  case atStart => exact ⟨s, [], none, 0, hs, rfl, rfl, Below.refl _ _, World.ownsRow_nil _ _ _ _, by simp, HR0.out⟩
  case round =>
    clear HR0 hs
    obtain ⟨t, out, ad, cap, hts, rfl, rfl, hB, hown, hlen, hres⟩ := hrel
    by_cases hlt : 0 < t.size
    · have hltI : (0 : Int) < (t.size : Int) := by omega
      have HB := Lib.hid hB; have HO := Lib.hid hown; have HRES := Lib.hid hres
      clear hB hown hres
      obtain ⟨e, o, c, hp⟩ : ∃ e o c, parseAt t 0 = (e, o, c) := ⟨_, _, _, rfl⟩
      obtain ⟨k, n⟩ := o
      have kf := fun W => kfirst_is t e k n c hlt hts hp W
      have HP := Lib.hid hp
      have hat := at_ok t 0 hlt
      have hnx := parseAt_next t 0
      rw [hp] at hat hnx
      have HAT := Lib.hid hat
      have HNX := Lib.hid hnx
      clear hp hat hnx
      unfold firstV at kf
      have hw0 := fun k (hk : (Value.slice ad out.length cap).ownBlock = some k) => (HO.out.lt k hk).2
      have HW0 := Lib.hid hw0
      clear hw0
      go_upto_region 4 with (go_at_call 64; (with_reducible refine (kf _).mono ?_); rintro ee w1 ⟨rfl, hb1⟩)
      clear kf
      have hg1 := hb1.size
      refine wp_gen (fun W => Below w.heap.size w W ∧ W.ownsRow w.heap.size 51 2 (.slice ad out.length cap) out.length (flatO out) ∧ Duo W w1.heap.size (.int .i64 k) (.int .u64 n)) ⟨(bthen HB.out hb1).alloc (by have := HB.out.size; omega) _, (own_keep HO.out hb1).alloc _, by simp [Duo, go_sem]⟩ ?_
      obtain ⟨g, hg⟩ : ∃ g, w1.heap.size = g := ⟨_, rfl⟩
      have hol : ∀ k, (Value.slice ad out.length cap).ownBlock = some k → k ≠ g := fun k hk => by have := HW0.out k hk; omega
      rintro W1 ⟨hB, hown, hD⟩
      rw [hg] at hD
      simp only [hg]
      clear HB HO hb1 hg1 hg HW0
      have HB := Lib.hid hB; have HO := Lib.hid hown; have H6 := Lib.hid hD
      obtain ⟨y0, y1, _, _⟩ := hD
      clear hB hown
      by_cases he : e = 0
      · subst he
        obtain ⟨hcs, _, _, _⟩ := HAT.out rfl
        have hcn := HNX.out rfl
        clear HAT HNX
        replace hcs : c ≤ t.size := hcs
        replace hcn : 0 < c := hcn
        have hcI : (c : Int) ≤ (t.size : Int) := by omega
        have hc0 : (0 : Int) ≤ (c : Int) := by omega
        have hct : ((c : Int)).toNat = c := by omega
        have h0 : (parseAt t 0).1 = 0 := by rw [HP.out]
        by_cases hm : out.length = 256
        · have hmI : (out.length : Int) = 256 := by omega
          obtain ⟨e1, e2⟩ := HR.out _ ((parseR_many hlt h0 (by omega)).symm.trans HRES.out)
          have e1 : ([] : List Opn) = m := e1
          have e2 : (6 : Int) = r := e2
          subst e1 e2
          clear HR HRES HP HO h0 hm
          go_wp2_with fail
          exact bodyPost_ret (v := .tuple #[.slice none 0 0, .int .i64 6]) (by simp [results, Try.results58, go_sem]) rfl ⟨HB.out, _, rfl, World.ownsRow_nil _ _ _ _⟩
        · have hmI : ¬ (out.length : Int) = 256 := by omega
          have HS := Lib.hid ((parseR_step hlt h0 (by omega)).symm.trans HRES.out)
          rw [HP.out] at HS
          clear HR HRES h0
          have hown := HO.out
          have HFL := Lib.hid (show flatO (out ++ [(k, n)]) = flatO out ++ [.int .i64 k, .int .u64 n] by simp [flatO])
          have hsz0 := HB.out.size
          generalize hfx : flatO out = fl at *
          clear hfx
          go_upto_region 9 with (at_builtin; refine wpList_append_own _ rfl _ _ 34 rfl w.heap.size 51 i0 (.agg #[.int .i64 0, .int .u64 0]) 2 16 Try.underlying34 hi hz0 hz1 hz2 rfl (by decide) _ _ _ rfl (hown.alloc _) ⟨W1.heap.size, 0, none⟩ 1 1 [.int .i64 k, .int .u64 n] rfl rfl ?c1 ?c2 ?c3 ?c4 ?c5 ?_)
          case c2 => first | exact ⟨rfl, rfl⟩ | rfl | (intro u hu; simp at hu; rcases hu with rfl | rfl <;> rfl)
          case c3 => unfold maxLen; omega
          case c4 => omega
          case c5 => first | omega | (simp; omega)
          · intro v' w4 hown' hgrow _
            have hb4 := own_row_below (hown.alloc (.cells #[.int .i64 k, .int .u64 n] 51)) (HB.out.alloc HB.out.size _) hgrow (Nat.le_refl _) (by simp; omega)
            obtain ⟨a', cap', rfl⟩ := own_form hown'
            have HB4 := Lib.hid hb4
            have HO4 := Lib.hid hown'
            have hzz := cut_size t c
            have HL1 := Lib.hid (show out.length + 1 ≤ 256 by omega)
            have HC := Lib.hid (parse_cut t c hcs (out ++ [(k, n)]))
            clear hb4 hgrow hown hown' HB HO H6 y0 y1 hsz0 hm hmI HP
            go_wp2_with fail
            go_roundw
            case rel =>
              refine ⟨_, out ++ [(k, n)], a', cap', ?_, rfl, by simp, HB4.out, ?_, by rw [List.length_append]; exact HL1.out, HC.out.trans HS.out⟩
              · rw [hzz]; omega
              · rw [HFL.out]
                have := HO4.out
                simpa using this
            case measure => simp [txtLen]; omega
      · obtain ⟨e1, e2⟩ := HR.out _ ((parseR_err hlt (by rw [HP.out]; exact he)).symm.trans HRES.out)
        rw [HP.out] at e2
        have e1 : ([] : List Opn) = m := e1
        have e2 : e = r := e2
        subst e1 e2
        clear HR HRES HP HO HAT HNX
        go_wp2_with fail
        exact bodyPost_ret (v := .tuple #[.slice none 0 0, .int .i64 e]) (by simp [results, Try.results58, go_sem]) rfl ⟨HB.out, _, rfl, World.ownsRow_nil _ _ _ _⟩
    · have hz : t.size = 0 := by omega
      obtain ⟨e1, e2⟩ := HR.out _ ((parseR_end (by omega)).symm.trans hres)
      have e1 : out = m := e1
      have e2 : (0 : Int) = r := e2
      subst e1 e2
      have HB := Lib.hid hB
      have HQ := Lib.hid hown
      have hltI : ¬ (0 : Int) < (t.size : Int) := by omega
      clear hB hown hres HR
      go_wp2_with fail
      exact bodyPost_ret (v := .tuple #[.slice ad out.length cap, .int .i64 0]) (by simp [results, Try.results58, go_sem]) rfl ⟨HB.out, _, rfl, HQ.out⟩
theorem kparse_is (s : ByteArray) (m : List Opn) (r : Int) (w : World) (hs : s.size ≤ 9223372036854775807) (hr : parseB s = (m, r)) : Calls Try.prog 58 #[.string s] w (ParsePost w m r) :=
  (kparse_own s m r w hs hr).mono fun e w' ⟨hb, v, he, ho⟩ => by
    obtain ⟨a, c, hv, h1, h2⟩ := own_oprow ho
    subst hv
    exact ⟨hb, a, c, he, h1, h2⟩
theorem strCells_nums : ∀ xs : List Int, (∀ x ∈ xs, 0 ≤ x ∧ x < 256) → Lib.strCells (strOfNums xs) = xs.map (Value.int .u8)
  | [], _ => rfl
  | x :: xs, h => by
    have ih := strCells_nums xs fun y hy => h y (List.mem_cons_of_mem _ hy)
    obtain ⟨h0, h1⟩ := h x List.mem_cons_self
    unfold Lib.strCells at ih ⊢
    rw [strOfNums_data] at ih ⊢
    rw [List.map_cons, List.map_cons, List.map_cons, ih]
    congr 2
    rw [UInt8.toNat_ofNat']
    omega
def KPrintRel (w : World) (zs : List Opn) (v i : Value) (W : World) : Prop := ∃ k : Nat, k ≤ zs.length ∧ i = .int .i64 k ∧ MadeB w W v (codeN (zs.take k))
theorem kcodeN_next (zs : List Opn) (k : Nat) (h : k < zs.length) (x y : Int) (hx : zs.getD k (0, 0) = (x, y)) : codeN (zs.take (k + 1)) = codeN (zs.take k) ++ opN (x, y) := by
  have e : zs.getD k (0, 0) = zs[k] := by simp [List.getD, h]
  rw [List.take_succ_eq_append_getElem h, codeN_app, codeN_one, ← e, hx]
end Go.Proofs.Ytckipfcjgmiacaa
