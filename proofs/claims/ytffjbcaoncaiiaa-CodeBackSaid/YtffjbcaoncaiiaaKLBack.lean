/-
  The walk of CodeBack: it answers true, where the program's calls do what is asked of them. (Written by gen_klaws.py.)
-/
import Derived.Test.YtffjbcaoncaiiaaKAw
namespace Go.Proofs.Ytffjbcaoncaiiaa
open Go Go.RowKit
set_option linter.unusedVariables false

theorem parseD_nil (s : ByteArray) : ∀ (f a : Nat) (out : List Opn), (parseD s f a out).2 ≠ 0 → (parseD s f a out).1 = []
  | 0, a, out, h => absurd rfl h
  | f + 1, a, out, h => by
    rw [parseD] at h ⊢
    split
    · next c => rw [if_pos c] at h; exact absurd rfl h
    · next c =>
      rw [if_neg c] at h
      split
      · next d =>
        rw [if_pos d] at h
        split
        · rfl
        · next e => rw [if_neg e] at h; exact parseD_nil s f _ _ h
      · rfl
theorem parse_nil {s : ByteArray} {m : List Opn} {r : Int} (h : parseB s = (m, r)) (hr : r ≠ 0) : m = [] := by
  have := parseD_nil s (s.size + 1) 0 [] (by show (parseB s).2 ≠ 0; rw [h]; exact hr)
  have e : (parseB s).1 = [] := this
  rw [h] at e
  exact e
theorem parse_right {s : ByteArray} {m : List Opn} {r : Int} (h : parseB s = (m, r)) : (∀ o ∈ m, rightO o = true ∧ U o.2) ∧ m.length ≤ 256 := by
  by_cases hr : r = 0
  · subst hr; exact (parse_back h).2
  · rw [parse_nil h hr]
    exact ⟨(fun o ho => by cases ho), by simp⟩
theorem right_ok {o : Opn} (h : rightO o = true ∧ U o.2) : OkO o := ⟨by have := right_kind h.1; omega, h.2⟩
def KB1 (w : World) (m : List Opn) (a1 : Option Addr) (i : Value) (W : World) : Prop := ∃ k : Nat, k ≤ m.length ∧ i = .int .i64 k ∧ Below w.heap.size w W ∧ OpA W a1 m.length m
def KB2 (w : World) (zs : List Opn) (i : Value) (W : World) : Prop := ∃ k : Nat, k ≤ zs.length ∧ i = .int .i64 k ∧ Below w.heap.size w W ∧ ∀ j, j < k → rightO (zs.getD j (0, 0)) = true
set_option maxRecDepth 100000 in
set_option maxHeartbeats 8000000 in
theorem kback_body (G : World → Prop) (hA : AskCode G) (aw : ∀ W, G W → Calls Try.prog 8 #[] W fun e w' => e = .returned (.bool true) ∧ Below W.heap.size W w') (a : Option Addr) (n cap : Nat) (zs : List Opn) (s : ByteArray) (w : World) (hG0 : G w) (hO : OpA w a n zs) (hu : ∀ o ∈ zs, OkO o) (hs : s.size ≤ maxLen) :
    Calls Try.prog 5 #[.slice a n cap, .string s] w fun e w' => e = .returned (.bool true) ∧ Below w.heap.size w w' := by
  have HK := Lib.hid (fun (W W' : World) => @AskCode.keep G hA W W')
  have HG0 := Lib.hid hG0
  have hAh := Lib.hid hA
  clear hA hG0
  obtain ⟨rfl, hlm, hcell⟩ := hO
  unfold maxLen at hlm
  have HC := Lib.hid hcell
  have HO : Hid (OpA w a zs.length zs) := Lib.hid ⟨rfl, by unfold maxLen; omega, hcell⟩
  have HU : Hid (∀ k, k < zs.length → OkO (zs.getD k (0, 0))) := Lib.hid fun k hk => by
    have e : zs.getD k (0, 0) = zs[k] := by simp [List.getD, hk]
    rw [e]
    exact hu _ (List.getElem_mem hk)
  have HA2 : Hid ((∀ j, j < zs.length → rightO (zs.getD j (0, 0)) = true) → ∀ o ∈ zs, rightO o = true ∧ U o.2) := Lib.hid fun h o ho => by
    obtain ⟨j, hj, rfl⟩ := List.getElem_of_mem ho
    have e : zs.getD j (0, 0) = zs[j] := by simp [List.getD, hj]
    have := h j hj
    rw [e] at this
    exact ⟨this, (hu _ (List.getElem_mem hj)).2⟩
  clear hcell hu
  unfold maxLen at hs
  have HB : Hid (Below w.heap.size w w) := Lib.hid (Below.refl _ _)
  by_cases b1 : (300 : Int) < (zs.length : Int)
  · go_enter Try.func5, Try.ntmps5
    go_wp2_with (go_at_call 8; (with_reducible refine (aw _ (HK.out _ _ HG0.out HB.out)).mono ?_); rintro e w1 ⟨rfl, hb⟩; replace HB := Lib.hid (bthen HB.out hb); clear hb)
    go_ret
    exact ⟨rfl, HB.out⟩
  by_cases b2 : (2000 : Int) < (s.size : Int)
  · go_enter Try.func5, Try.ntmps5
    go_wp2_with (go_at_call 8; (with_reducible refine (aw _ (HK.out _ _ HG0.out HB.out)).mono ?_); rintro e w1 ⟨rfl, hb⟩; replace HB := Lib.hid (bthen HB.out hb); clear hb)
    go_ret
    exact ⟨rfl, HB.out⟩
  obtain ⟨m, r, hp⟩ : ∃ m r, parseB s = (m, r) := ⟨_, _, rfl⟩
  have k1 := fun W hg => hAh.out.parse s m r W (by omega) hp hg
  unfold ParsePost at k1
  obtain ⟨hmr, hml⟩ := parse_right hp
  have HM : Hid (∀ k, k < m.length → rightO (m.getD k (0, 0)) = true ∧ OkO (m.getD k (0, 0))) := Lib.hid fun k hk => by
    have e : m.getD k (0, 0) = m[k] := by simp [List.getD, hk]
    rw [e]
    have := hmr _ (List.getElem_mem hk)
    exact ⟨this.1, right_ok this⟩
  have HP0 : Hid (r = 0 → codeB m = s) := Lib.hid fun h => by subst h; exact (parse_back hp).1
  have kp := fun (a1 : Option Addr) (c1 : Nat) W h hz hg => hAh.out.print a1 m.length c1 m s W h hmr (by omega) hz hg
  clear hp hmr
  go_enter Try.func5, Try.ntmps5
  go_upto_region 4 with (go_at_call 13; (with_reducible refine (k1 _ (HK.out _ _ HG0.out HB.out)).mono ?_); rintro e w1 ⟨hb, a1, c1, rfl, h1, _⟩; replace HB := Lib.hid (bthen HB.out hb); clear hb)
  have H1 := Lib.hid h1
  clear h1 k1
  by_cases hr0 : r = 0
  · have kp := fun W h hg => kp a1 c1 W h (HP0.out hr0) hg
    subst hr0
    clear HP0
    go_upto_region 7 with (go_at_call 11; (with_reducible refine (kp _ H1.out (HK.out _ _ HG0.out HB.out)).mono ?_); rintro e w2 ⟨rfl, hb⟩; replace HB := Lib.hid (bthen HB.out hb); replace H1 := Lib.hid (H1.out.keep hb); clear hb)
    clear kp
    have hB := HB.out; have h1 := H1.out
    clear HB H1
    go_loopw [7] (KB1 w m a1) (fun i _ => m.length - (intOf i).toNat)
    case atStart => exact ⟨0, Nat.zero_le _, rfl, hB, h1⟩
    case round =>
      clear hB h1
      obtain ⟨k, hk, rfl, hB, h1⟩ := hrel
      by_cases hlt : k < m.length
      · have hlt' : (k : Int) < (m.length : Int) := by omega
        have hk0 : (0 : Int) ≤ (k : Int) := by omega
        obtain ⟨b, off, rfl, u0, u1⟩ := h1.2.2 k hlt
        obtain ⟨hrr, hok⟩ := HM.out k hlt
        have HB := Lib.hid hB; have H1 := Lib.hid h1
        generalize hz : m.getD k (0, 0) = o at *
        obtain ⟨kx, nx⟩ := o
        have k1 := fun W hg => hAh.out.right kx nx true W hok hrr hg
        clear hB h1 hok hrr hz
        go_wp2_with (go_at_call 9; (with_reducible refine (k1 _ (HK.out _ _ HG0.out HB.out)).mono ?_); rintro e w1 ⟨rfl, hb⟩; replace HB := Lib.hid (bthen HB.out hb); replace u0 := bkeep hb u0; replace u1 := bkeep hb u1; replace H1 := Lib.hid (H1.out.keep hb); clear hb)
        go_roundw
        case rel => exact ⟨k + 1, by omega, by go_num, HB.out, H1.out⟩
        case measure => simp [intOf]; omega
      · have hlt' : ¬ (k : Int) < (m.length : Int) := by omega
        have HB := Lib.hid hB
        clear hB h1 HM
        go_upto_region 12 with fail
        have hB := HB.out
        clear HB
        go_loopw [8] (KB2 w zs) (fun i _ => zs.length - (intOf i).toNat)
        case atStart => exact ⟨0, Nat.zero_le _, rfl, hB, fun j hj => by omega⟩
        case round =>
          clear hB
          obtain ⟨q, hq, rfl, hB, hj⟩ := hrel
          by_cases hlt2 : q < zs.length
          · have hlt2' : (q : Int) < (zs.length : Int) := by omega
            have hq0 : (0 : Int) ≤ (q : Int) := by omega
            obtain ⟨b, off, rfl, u0, u1⟩ := HC.out q hlt2
            replace u0 := bkeep hB u0; replace u1 := bkeep hB u1
            have hok := HU.out q hlt2
            have HB := Lib.hid hB
            obtain ⟨rr, hrr⟩ : ∃ rr, rightO (zs.getD q (0, 0)) = rr := ⟨_, rfl⟩
            have HJ2 : Hid (rr = true → ∀ j, j < q + 1 → rightO (zs.getD j (0, 0)) = true) := Lib.hid fun h j hj2 => by
              by_cases e : j = q
              · subst e; rw [hrr]; exact h
              · exact hj j (by omega)
            generalize hz : zs.getD q (0, 0) = o at *
            obtain ⟨kx, nx⟩ := o
            have k1 := fun W hg => hAh.out.right kx nx rr W hok hrr hg
            clear hB hj hok hrr hz
            cases rr with
            | false =>
              go_wp2_with (first
                | (go_at_call 9; (with_reducible refine (k1 _ (HK.out _ _ HG0.out HB.out)).mono ?_); rintro e w1 ⟨rfl, hb⟩; replace HB := Lib.hid (bthen HB.out hb); replace u0 := bkeep hb u0; replace u1 := bkeep hb u1; clear hb)
                | (go_at_call 8; (with_reducible refine (aw _ (HK.out _ _ HG0.out HB.out)).mono ?_); rintro e w1 ⟨rfl, hb⟩; replace HB := Lib.hid (bthen HB.out hb); clear hb))
              go_ret
              exact ⟨rfl, HB.out⟩
            | true =>
              go_wp2_with (go_at_call 9; (with_reducible refine (k1 _ (HK.out _ _ HG0.out HB.out)).mono ?_); rintro e w1 ⟨rfl, hb⟩; replace HB := Lib.hid (bthen HB.out hb); replace u0 := bkeep hb u0; replace u1 := bkeep hb u1; clear hb)
              go_roundw
              case rel => exact ⟨q + 1, by omega, by go_num, HB.out, HJ2.out (by trivial)⟩
              case measure => simp [intOf]; omega
          · obtain rfl : q = zs.length := by omega
            have hr := HA2.out hj
            have hpp := parse_print zs hr
            have hcs : (codeB zs).size ≤ 10000 := by rw [codeB_size]; have := codeN_len_le zs; omega
            have k1 := fun W hb hg => hAh.out.print a zs.length cap zs (codeB zs) W (HO.out.keep hb) hr (by omega) rfl hg
            have HB := Lib.hid hB
            by_cases hbig : zs.length ≤ 256
            · rw [if_pos hbig] at hpp
              have k2 := fun W hg => hAh.out.parse (codeB zs) zs 0 W (by omega) hpp hg
              unfold ParsePost at k2
              have hbI : ¬ (256 : Int) < (zs.length : Int) := by omega
              generalize codeB zs = z at *
              clear hB hj hr HA2 HU HC hpp hcs
              go_upto_region 17 with (first
                | (go_at_call 11; (with_reducible refine (k1 _ HB.out (HK.out _ _ HG0.out HB.out)).mono ?_); rintro e w1 ⟨rfl, hb⟩; replace HB := Lib.hid (bthen HB.out hb); clear hb)
                | (go_at_call 13; (with_reducible refine (k2 _ (HK.out _ _ HG0.out HB.out)).mono ?_); rintro e w2 ⟨hb, a3, c3, rfl, h3, _⟩; replace HB := Lib.hid (bthen HB.out hb); clear hb))
              have H3 := Lib.hid h3
              have H0 := Lib.hid (HO.out.keep HB.out)
              clear h3 k1 k2
              go_wp2_with (first
                | (go_at_call 8; (with_reducible refine (aw _ (HK.out _ _ HG0.out HB.out)).mono ?_); rintro e w1 ⟨rfl, hb⟩; replace HB := Lib.hid (bthen HB.out hb); replace H3 := Lib.hid (H3.out.keep hb); replace H0 := Lib.hid (H0.out.keep hb); clear hb)
                | (go_at_call 15; (with_reducible refine (rsameO_is a a3 zs.length cap c3 zs _ H0.out H3.out).mono ?_); rintro e w1 ⟨rfl, hb⟩; replace HB := Lib.hid (bthen HB.out hb); clear hb))
              go_ret
              exact ⟨rfl, HB.out⟩
            · rw [if_neg hbig] at hpp
              have k2 := fun W hg => hAh.out.parse (codeB zs) [] 6 W (by omega) hpp hg
              unfold ParsePost at k2
              have hbI : (256 : Int) < (zs.length : Int) := by omega
              generalize codeB zs = z at *
              clear hB hj hr HA2 HU HC hpp hcs
              go_upto_region 17 with (first
                | (go_at_call 11; (with_reducible refine (k1 _ HB.out (HK.out _ _ HG0.out HB.out)).mono ?_); rintro e w1 ⟨rfl, hb⟩; replace HB := Lib.hid (bthen HB.out hb); clear hb)
                | (go_at_call 13; (with_reducible refine (k2 _ (HK.out _ _ HG0.out HB.out)).mono ?_); rintro e w2 ⟨hb, a3, c3, rfl, h3, _⟩; replace HB := Lib.hid (bthen HB.out hb); clear hb))
              clear h3 k1 k2
              go_wp2_with (go_at_call 8; (with_reducible refine (aw _ (HK.out _ _ HG0.out HB.out)).mono ?_); rintro e w1 ⟨rfl, hb⟩; replace HB := Lib.hid (bthen HB.out hb); clear hb)
              go_ret
              exact ⟨rfl, HB.out⟩
  · clear kp HP0
    go_upto_region 7 with fail
    have hB := HB.out; have h1 := H1.out
    clear HB H1
    go_loopw [7] (KB1 w m a1) (fun i _ => m.length - (intOf i).toNat)
    case atStart => exact ⟨0, Nat.zero_le _, rfl, hB, h1⟩
    case round =>
      clear hB h1
      obtain ⟨k, hk, rfl, hB, h1⟩ := hrel
      by_cases hlt : k < m.length
      · have hlt' : (k : Int) < (m.length : Int) := by omega
        have hk0 : (0 : Int) ≤ (k : Int) := by omega
        obtain ⟨b, off, rfl, u0, u1⟩ := h1.2.2 k hlt
        obtain ⟨hrr, hok⟩ := HM.out k hlt
        have HB := Lib.hid hB; have H1 := Lib.hid h1
        generalize hz : m.getD k (0, 0) = o at *
        obtain ⟨kx, nx⟩ := o
        have k1 := fun W hg => hAh.out.right kx nx true W hok hrr hg
        clear hB h1 hok hrr hz
        go_wp2_with (go_at_call 9; (with_reducible refine (k1 _ (HK.out _ _ HG0.out HB.out)).mono ?_); rintro e w1 ⟨rfl, hb⟩; replace HB := Lib.hid (bthen HB.out hb); replace u0 := bkeep hb u0; replace u1 := bkeep hb u1; replace H1 := Lib.hid (H1.out.keep hb); clear hb)
        go_roundw
        case rel => exact ⟨k + 1, by omega, by go_num, HB.out, H1.out⟩
        case measure => simp [intOf]; omega
      · have hlt' : ¬ (k : Int) < (m.length : Int) := by omega
        have HB := Lib.hid hB
        clear hB h1 HM
        go_upto_region 12 with fail
        have hB := HB.out
        clear HB
        go_loopw [8] (KB2 w zs) (fun i _ => zs.length - (intOf i).toNat)
        case atStart => exact ⟨0, Nat.zero_le _, rfl, hB, fun j hj => by omega⟩
        case round =>
          clear hB
          obtain ⟨q, hq, rfl, hB, hj⟩ := hrel
          by_cases hlt2 : q < zs.length
          · have hlt2' : (q : Int) < (zs.length : Int) := by omega
            have hq0 : (0 : Int) ≤ (q : Int) := by omega
            obtain ⟨b, off, rfl, u0, u1⟩ := HC.out q hlt2
            replace u0 := bkeep hB u0; replace u1 := bkeep hB u1
            have hok := HU.out q hlt2
            have HB := Lib.hid hB
            obtain ⟨rr, hrr⟩ : ∃ rr, rightO (zs.getD q (0, 0)) = rr := ⟨_, rfl⟩
            have HJ2 : Hid (rr = true → ∀ j, j < q + 1 → rightO (zs.getD j (0, 0)) = true) := Lib.hid fun h j hj2 => by
              by_cases e : j = q
              · subst e; rw [hrr]; exact h
              · exact hj j (by omega)
            generalize hz : zs.getD q (0, 0) = o at *
            obtain ⟨kx, nx⟩ := o
            have k1 := fun W hg => hAh.out.right kx nx rr W hok hrr hg
            clear hB hj hok hrr hz
            cases rr with
            | false =>
              go_wp2_with (first
                | (go_at_call 9; (with_reducible refine (k1 _ (HK.out _ _ HG0.out HB.out)).mono ?_); rintro e w1 ⟨rfl, hb⟩; replace HB := Lib.hid (bthen HB.out hb); replace u0 := bkeep hb u0; replace u1 := bkeep hb u1; clear hb)
                | (go_at_call 8; (with_reducible refine (aw _ (HK.out _ _ HG0.out HB.out)).mono ?_); rintro e w1 ⟨rfl, hb⟩; replace HB := Lib.hid (bthen HB.out hb); clear hb))
              go_ret
              exact ⟨rfl, HB.out⟩
            | true =>
              go_wp2_with (go_at_call 9; (with_reducible refine (k1 _ (HK.out _ _ HG0.out HB.out)).mono ?_); rintro e w1 ⟨rfl, hb⟩; replace HB := Lib.hid (bthen HB.out hb); replace u0 := bkeep hb u0; replace u1 := bkeep hb u1; clear hb)
              go_roundw
              case rel => exact ⟨q + 1, by omega, by go_num, HB.out, HJ2.out (by trivial)⟩
              case measure => simp [intOf]; omega
          · obtain rfl : q = zs.length := by omega
            have hr := HA2.out hj
            have hpp := parse_print zs hr
            have hcs : (codeB zs).size ≤ 10000 := by rw [codeB_size]; have := codeN_len_le zs; omega
            have k1 := fun W hb hg => hAh.out.print a zs.length cap zs (codeB zs) W (HO.out.keep hb) hr (by omega) rfl hg
            have HB := Lib.hid hB
            by_cases hbig : zs.length ≤ 256
            · rw [if_pos hbig] at hpp
              have k2 := fun W hg => hAh.out.parse (codeB zs) zs 0 W (by omega) hpp hg
              unfold ParsePost at k2
              have hbI : ¬ (256 : Int) < (zs.length : Int) := by omega
              generalize codeB zs = z at *
              clear hB hj hr HA2 HU HC hpp hcs
              go_upto_region 17 with (first
                | (go_at_call 11; (with_reducible refine (k1 _ HB.out (HK.out _ _ HG0.out HB.out)).mono ?_); rintro e w1 ⟨rfl, hb⟩; replace HB := Lib.hid (bthen HB.out hb); clear hb)
                | (go_at_call 13; (with_reducible refine (k2 _ (HK.out _ _ HG0.out HB.out)).mono ?_); rintro e w2 ⟨hb, a3, c3, rfl, h3, _⟩; replace HB := Lib.hid (bthen HB.out hb); clear hb))
              have H3 := Lib.hid h3
              have H0 := Lib.hid (HO.out.keep HB.out)
              clear h3 k1 k2
              go_wp2_with (first
                | (go_at_call 8; (with_reducible refine (aw _ (HK.out _ _ HG0.out HB.out)).mono ?_); rintro e w1 ⟨rfl, hb⟩; replace HB := Lib.hid (bthen HB.out hb); replace H3 := Lib.hid (H3.out.keep hb); replace H0 := Lib.hid (H0.out.keep hb); clear hb)
                | (go_at_call 15; (with_reducible refine (rsameO_is a a3 zs.length cap c3 zs _ H0.out H3.out).mono ?_); rintro e w1 ⟨rfl, hb⟩; replace HB := Lib.hid (bthen HB.out hb); clear hb))
              go_ret
              exact ⟨rfl, HB.out⟩
            · rw [if_neg hbig] at hpp
              have k2 := fun W hg => hAh.out.parse (codeB zs) [] 6 W (by omega) hpp hg
              unfold ParsePost at k2
              have hbI : (256 : Int) < (zs.length : Int) := by omega
              generalize codeB zs = z at *
              clear hB hj hr HA2 HU HC hpp hcs
              go_upto_region 17 with (first
                | (go_at_call 11; (with_reducible refine (k1 _ HB.out (HK.out _ _ HG0.out HB.out)).mono ?_); rintro e w1 ⟨rfl, hb⟩; replace HB := Lib.hid (bthen HB.out hb); clear hb)
                | (go_at_call 13; (with_reducible refine (k2 _ (HK.out _ _ HG0.out HB.out)).mono ?_); rintro e w2 ⟨hb, a3, c3, rfl, h3, _⟩; replace HB := Lib.hid (bthen HB.out hb); clear hb))
              clear h3 k1 k2
              go_wp2_with (go_at_call 8; (with_reducible refine (aw _ (HK.out _ _ HG0.out HB.out)).mono ?_); rintro e w1 ⟨rfl, hb⟩; replace HB := Lib.hid (bthen HB.out hb); clear hb)
              go_ret
              exact ⟨rfl, HB.out⟩
end Go.Proofs.Ytffjbcaoncaiiaa
