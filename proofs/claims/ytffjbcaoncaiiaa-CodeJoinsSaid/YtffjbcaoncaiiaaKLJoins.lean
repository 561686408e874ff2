/-
  The walk of CodeJoins: it answers true, where the program's calls do what is asked of them. (Written by gen_klaws.py.)
-/
import Derived.Test.YtffjbcaoncaiiaaKLBack
namespace Go.Proofs.Ytffjbcaoncaiiaa
open Go Go.RowKit
set_option linter.unusedVariables false

theorem flatO_len (l : List Opn) : (flatO l).length = l.length * 2 := by
  induction l with
  | nil => rfl
  | cons o l ih => simp only [flatO, List.flatMap_cons, List.length_append, List.length_cons, List.length_nil] at *; omega
theorem wpList_append_ops {P : Program} {w : World} {ops : Array Oper} {rest : List Oper} {o : Oper} {a : Act} {Q : Exit → Act → World → Prop} (hw : Region.wanted o (yielded ops a.tmps) = true) (s x : Operand) (t : TypeId)
    (ho : o.op = .call { callee := .builtin .append, args := #[s, x], argTypes := #[t, t] })
    (base : Nat) (e : TypeId) (i : TypeInfo) (z : Value) (bytes : Nat) (ht : P.underlying t = some (.slice e)) (hi : P.info? e = some i) (hz : i.zero = some z)
    (hsize : i.size = 2) (hby : i.bytes = bytes) (hzs : z.cells.size = 2)
    (v : Value) (n : Nat) (xs : List Value) (hs : a.eval s = v) (hown : w.ownsRow base e 2 v n xs) (ax : Option Addr) (m c : Nat) (zs : List Opn) (hx : a.eval x = .slice ax m c) (hnil : ax = none → c = 0) (hr : OpA w ax m zs)
    (h63 : n + m ≤ maxLen) (hbytes : (n + m) * bytes ≤ 140737488355328) (hbase : base ≤ w.heap.size)
    (h : ∀ v' w', w'.ownsRow base e 2 v' (n + m) (xs ++ flatO zs) → w.grownBy w' v.ownBlock → wpList P ops Q rest (a.put o.dst v') w') :
    wpList P ops Q (o :: rest) a w := by
  obtain ⟨hl, hm, hc⟩ := hr
  have one : ∀ u ∈ flatO zs, u.oneCell' = true := by
    intro u hu
    obtain ⟨y, _, hy⟩ := List.mem_flatMap.1 hu
    simp at hy
    rcases hy with rfl | rfl <;> rfl
  cases ax with
  | none =>
    obtain rfl := hnil rfl
    have hm0 : m = 0 := by
      cases m with
      | zero => rfl
      | succ m => obtain ⟨b, off, e, _⟩ := hc 0 (by omega); cases e
    subst hm0
    obtain rfl := List.length_eq_zero_iff.mp hl
    refine wpList_step fun K hK => ?_
    rw [if_pos hw]
    have hrun := run_append_owned_none (P := P) w base t o.type e i 2 ht hi v n xs hown
    unfold Oper.wp execOp
    simp only [ho, resolve, invoke, builtin, Sem.run_bind, Sem.run_pure, Result.andThen_ok, List.map_toArray, List.map_cons, List.map_nil, hs, hx, hrun]
    exact hK _ _ (h v w (by simpa [flatO] using hown) (World.grownBy.refl _ _))
  | some ad =>
    refine wpList_step fun K hK => ?_
    rw [if_pos hw]
    refine wp_append_own w s x t ho base e i z 2 bytes ht hi hz hsize hby hzs (by omega) v n xs hs hown ad m c (flatO zs) hx (by rw [flatO_len]; omega) (fun j u hu => ?_) one h63 hbytes hbase fun v' w' h1 h2 _ => hK _ _ (h v' w' h1 h2)
    have hj : j < m * 2 := by
      have := (List.getElem?_eq_some_iff.1 hu).1
      rw [flatO_len] at this
      omega
    obtain ⟨b, off, e1, c0, c1⟩ := hc (j / 2) (by omega)
    cases e1
    obtain ⟨f0, f1⟩ := flatO_at zs (j / 2) (by omega)
    rw [Addr.add_mid]
    by_cases h2 : j % 2 = 0
    · have ej : j = j / 2 * 2 := by omega
      rw [ej] at hu ⊢
      rw [hu] at f0
      rw [c0, ← f0]
    · have ej : j = j / 2 * 2 + 1 := by omega
      rw [ej] at hu ⊢
      rw [hu] at f1
      rw [← Nat.add_assoc, c1, ← f1]
set_option maxRecDepth 100000 in
set_option maxHeartbeats 8000000 in
theorem kjoins_body (G : World → Prop) (hA : AskCode G) (aw : ∀ W, G W → Calls Try.prog 8 #[] W fun e w' => e = .returned (.bool true) ∧ Below W.heap.size W w') (s t : ByteArray) (w : World) (hG0 : G w) (hs : s.size ≤ maxLen) (ht : t.size ≤ maxLen) :
    Calls Try.prog 6 #[.string s, .string t] w fun e w' => e = .returned (.bool true) ∧ Below w.heap.size w w' := by
  obtain ⟨i0, hi, hz0, hz1, hz2⟩ := info_parts infoOp
  have HK := Lib.hid (fun (W W' : World) => @AskCode.keep G hA W W')
  have HG0 := Lib.hid hG0
  have hAh := Lib.hid hA
  clear hA hG0
  unfold maxLen at hs ht
  have HB : Hid (Below w.heap.size w w) := Lib.hid (Below.refl _ _)
  by_cases b1 : (1000 : Int) < (s.size : Int)
  · go_enter Try.func6, Try.ntmps6
    go_wp2_with (go_at_call 8; (with_reducible refine (aw _ (HK.out _ _ HG0.out HB.out)).mono ?_); rintro e w1 ⟨rfl, hb⟩; replace HB := Lib.hid (bthen HB.out hb); clear hb)
    go_ret
    exact ⟨rfl, HB.out⟩
  by_cases b2 : (1000 : Int) < (t.size : Int)
  · go_enter Try.func6, Try.ntmps6
    go_wp2_with (go_at_call 8; (with_reducible refine (aw _ (HK.out _ _ HG0.out HB.out)).mono ?_); rintro e w1 ⟨rfl, hb⟩; replace HB := Lib.hid (bthen HB.out hb); clear hb)
    go_ret
    exact ⟨rfl, HB.out⟩
  obtain ⟨m1, r1, hp1⟩ : ∃ m r, parseB s = (m, r) := ⟨_, _, rfl⟩
  obtain ⟨m2, r2, hp2⟩ : ∃ m r, parseB t = (m, r) := ⟨_, _, rfl⟩
  obtain ⟨m3, r3, hp3⟩ : ∃ m r, parseB (s ++ t) = (m, r) := ⟨_, _, rfl⟩
  have k1 := fun W hg => hAh.out.parse s m1 r1 W (by omega) hp1 hg
  have k2 := fun W hg => hAh.out.parse t m2 r2 W (by omega) hp2 hg
  have k3 := fun W hg => hAh.out.parse (s ++ t) m3 r3 W (by rw [ByteArray.size_append]; omega) hp3 hg
  have hl1 := (parse_right hp1).2
  have hl2 := (parse_right hp2).2
  have HJ : Hid (r1 = 0 → r2 = 0 → (m3, r3) = if m1.length + m2.length ≤ 256 then (m1 ++ m2, 0) else ([], 6)) := Lib.hid fun h1 h2 => by
    subst h1 h2
    rw [← hp3]
    exact parse_join hp1 hp2
  unfold ParsePost at k1 k2 k3
  clear hp1 hp2 hp3
  have hst : ¬ (9223372036854775807 : Int) < (s.size : Int) + (t.size : Int) := by omega
  have hstN : ¬ 9223372036854775807 < s.size + t.size := by omega
  go_enter Try.func6, Try.ntmps6
  go_upto_region 4 with (go_at_call 13; (with_reducible refine (k1 _ (HK.out _ _ HG0.out HB.out)).mono ?_); rintro e w1 ⟨hb, a1, c1, rfl, h1, hn1⟩; replace HB := Lib.hid (bthen HB.out hb); clear hb)
  have H1 := Lib.hid h1
  clear h1
  go_upto_region 5 with (go_at_call 13; (with_reducible refine (k2 _ (HK.out _ _ HG0.out HB.out)).mono ?_); rintro e w2 ⟨hb, a2, c2, rfl, h2, hn2⟩; replace HB := Lib.hid (bthen HB.out hb); replace H1 := Lib.hid (H1.out.keep hb); clear hb)
  have H2 := Lib.hid h2
  have HN := Lib.hid (And.intro hn1 hn2)
  clear h2 k1 k2 hn1 hn2
  by_cases z1 : r1 = 0
  · by_cases z2 : r2 = 0
    · have hj := HJ.out z1 z2
      subst z1 z2
      clear HJ
      by_cases hbig : m1.length + m2.length ≤ 256
      · rw [if_pos hbig] at hj
        have e3 := (Prod.mk.inj hj).1
        have e4 := (Prod.mk.inj hj).2
        subst e4
        have HFL := Lib.hid (show flatO m3 = flatO m1 ++ flatO m2 by rw [e3]; simp [flatO])
        have HLN := Lib.hid (show m3.length = m1.length + m2.length by rw [e3, List.length_append])
        clear e3
        have hbI : ¬ (256 : Int) < (m1.length : Int) + (m2.length : Int) := by omega
        have hw : wrap64 ((m1.length : Int) + (m2.length : Int)) = (m1.length : Int) + (m2.length : Int) := IntWalk.wrap64_in _ (by omega)
        clear hj
        go_upto_region 10 with (go_at_call 13; (with_reducible refine (k3 _ (HK.out _ _ HG0.out HB.out)).mono ?_); rintro e w3 ⟨hb, a3, c3, rfl, h3, _⟩; replace HB := Lib.hid (bthen HB.out hb); replace H1 := Lib.hid (H1.out.keep hb); replace H2 := Lib.hid (H2.out.keep hb); clear hb)
        have H3 := Lib.hid h3
        have HL1 := Lib.hid hl1; have HL2 := Lib.hid hl2
        clear h3 k3 hw hbI hst hstN b1 b2 hbig hl1 hl2
        go_wp2_with (first
          | (go_at_call 8; (with_reducible refine (aw _ (HK.out _ _ HG0.out HB.out)).mono ?_); rintro e wK ⟨rfl, hb⟩; replace HB := Lib.hid (bthen HB.out hb); replace H1 := Lib.hid (H1.out.keep hb); replace H2 := Lib.hid (H2.out.keep hb); replace H3 := Lib.hid (H3.out.keep hb); clear hb)
          | (at_builtin; refine wpList_append_ops rfl _ _ 22 rfl wK.heap.size 27 i0 (.agg #[.int .i64 0, .int .u64 0]) 16 Try.underlying22 hi hz0 hz1 hz2 rfl _ 0 [] rfl (World.ownsRow_lit (e := 27) (size := 2) wK #[] 0 (Nat.le_refl _) (by unfold maxLen; omega) rfl) a1 m1.length c1 m1 rfl HN.out.1 (H1.out.keep ((Below.refl _ _).alloc (Nat.le_refl _) _)) (by have := HL1.out; unfold maxLen; omega) (by have := HL1.out; omega) (by simp) ?_; rintro v1 w1 q1 q2; have hbX : Below wK.heap.size wK w1 := own_row_below (World.ownsRow_lit (e := 27) (size := 2) wK #[] 0 (Nat.le_refl _) (by unfold maxLen; omega) rfl) ((Below.refl _ _).alloc (Nat.le_refl _) _) q2 (Nat.le_refl _) (by simp); have HBX := Lib.hid hbX; have HROW := Lib.hid q1; replace H2 := Lib.hid (H2.out.keep hbX); clear hbX q1 q2)
          | (at_builtin; refine wpList_append_ops rfl _ _ 22 rfl wK.heap.size 27 i0 (.agg #[.int .i64 0, .int .u64 0]) 16 Try.underlying22 hi hz0 hz1 hz2 rfl _ _ _ rfl HROW.out a2 m2.length c2 m2 rfl HN.out.2 H2.out (by have := HL1.out; have := HL2.out; unfold maxLen; omega) (by have := HL1.out; have := HL2.out; omega) HBX.out.size ?_; rintro v2 w2 q1 q2; have hbX2 : Below wK.heap.size wK w2 := own_row_below HROW.out HBX.out q2 (Nat.le_refl _) HBX.out.size; have q3 : w2.ownsRow wK.heap.size 27 2 v2 m3.length (flatO m3) := (by have := q1; rw [HLN.out, HFL.out]; simpa using this); obtain ⟨a4, c4, rfl, h4, _⟩ := own_oprow q3; have H4 := Lib.hid h4; replace H3 := Lib.hid (H3.out.keep hbX2); replace HB := Lib.hid (bthen HB.out hbX2); clear hbX2 q1 q2 q3 h4)
          | (go_at_call 15; (with_reducible refine (rsameO_is a3 a4 m3.length c3 c4 m3 _ H3.out H4.out).mono ?_); rintro e w1 ⟨rfl, hb⟩; replace HB := Lib.hid (bthen HB.out hb); clear hb))
        go_ret
        exact ⟨rfl, HB.out⟩
      · rw [if_neg hbig] at hj
        obtain ⟨rfl, rfl⟩ := Prod.mk.inj hj
        have hbI : (256 : Int) < (m1.length : Int) + (m2.length : Int) := by omega
        have hw : wrap64 ((m1.length : Int) + (m2.length : Int)) = (m1.length : Int) + (m2.length : Int) := IntWalk.wrap64_in _ (by omega)
        clear hj
        go_wp2_with (first
          | (go_at_call 13; (with_reducible refine (k3 _ (HK.out _ _ HG0.out HB.out)).mono ?_); rintro e w3 ⟨hb, a3, c3, rfl, _, _⟩; replace HB := Lib.hid (bthen HB.out hb); clear hb)
          | (go_at_call 8; (with_reducible refine (aw _ (HK.out _ _ HG0.out HB.out)).mono ?_); rintro e w1 ⟨rfl, hb⟩; replace HB := Lib.hid (bthen HB.out hb); clear hb))
        go_ret
        exact ⟨rfl, HB.out⟩
    · go_wp2_with (go_at_call 8; (with_reducible refine (aw _ (HK.out _ _ HG0.out HB.out)).mono ?_); rintro e w1 ⟨rfl, hb⟩; replace HB := Lib.hid (bthen HB.out hb); clear hb)
      go_ret
      exact ⟨rfl, HB.out⟩
  · go_wp2_with (go_at_call 8; (with_reducible refine (aw _ (HK.out _ _ HG0.out HB.out)).mono ?_); rintro e w1 ⟨rfl, hb⟩; replace HB := Lib.hid (bthen HB.out hb); clear hb)
    go_ret
    exact ⟨rfl, HB.out⟩
end Go.Proofs.Ytffjbcaoncaiiaa
