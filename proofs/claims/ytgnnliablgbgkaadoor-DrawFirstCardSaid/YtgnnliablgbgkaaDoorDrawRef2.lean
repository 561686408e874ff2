/-
  What the document's Pairs of layer 13 come to.
-/
import Derived.Test.YtgnnliablgbgkaaDoorDrawRef
import Derived.Test.YtgnnliablgbgkaaDoorBeside
import Derived.Test.YtgnnliablgbgkaaDoorGRow
namespace Go.Proofs.YtgnnliablgbgkaaDoor
open Go Go.RowKit
set_option linter.unusedVariables false

theorem infoPd : (Tryd.prog.info? 27).map (fun i => (i.zero, i.size, i.bytes)) = some (some (.agg #[.int .u64 0, .int .u64 0]), 2, 16) := by kernel_rfl
def PairsRel (w : World) (B g1 g4 : Nat) (s : ByteArray) (p : Int → Drawn) (c0 n : Int) (v i : Value) (W : World) : Prop :=
  ∃ (k : Nat) (c : Int) (l : List (Int × Int)) (a : Option Addr) (cap : Nat), (k = 0 ∨ (k : Int) ≤ n) ∧ v = .slice a l.length cap ∧ i = .int .i64 k ∧ (-9223372036854775808 ≤ c ∧ c ≤ 9223372036854775807) ∧ Below w.heap.size w W ∧ B ≤ W.heap.size ∧ Duo W g1 (.string s) (.int .i64 c) ∧ Duo W g4 (.string ⟨#[]⟩) (.int .i64 0) ∧ W.ownsRow B 27 2 v l.length (flat l) ∧ pairsD p c0 k = (c, l, true)
theorem own_qrow {W : World} {B : Nat} {v : Value} {l : List (Int × Int)} (h : W.ownsRow B 27 2 v l.length (flat l)) : ∃ a c, v = .slice a l.length c ∧ QRowA W a l.length l := by
  obtain ⟨a, c, rfl⟩ := own_form h
  refine ⟨a, c, rfl, QRow.at (cap := c) ?_⟩
  rcases h.2 with ⟨hv, h0⟩ | ⟨g, cap, cur, hv, hb, hg, hn, hcap, hsz, ht⟩
  · exact Or.inl ⟨hv, List.length_eq_zero_iff.mp h0⟩
  · refine Or.inr (Or.inr ⟨g, 0, cap, hv, hn, hcap, fun i hi => ?_⟩)
    cases hv
    have h0 := h.cellAt (i * 2) (by omega)
    have h1 := h.cellAt (i * 2 + 1) (by omega)
    obtain ⟨f0, f1⟩ := flat_at l i hi
    rw [Nat.zero_add, h0, h1]
    exact ⟨f0, f1⟩
theorem drawn_eta (a : Drawn) : ∃ r x y ok, a = (r, (x, y), ok) := ⟨_, _, _, _, rfl⟩
theorem pairsD_yes {p : Int → Drawn} {c0 c r x y : Int} {k : Nat} {l : List (Int × Int)} (h : pairsD p c0 k = (c, l, true)) (hp : p c = (r, (x, y), true)) : pairsD p c0 (k + 1) = (r, l ++ [(x, y)], true) := by
  rw [pairsD, h]
  simp only [if_true, hp]
theorem pairsD_none {p : Int → Drawn} {c0 c r x y : Int} {k n : Nat} {l : List (Int × Int)} (h : pairsD p c0 k = (c, l, true)) (hp : p c = (r, (x, y), false)) (hn : k < n) : pairsD p c0 n = (r, [], false) := by
  have h1 : pairsD p c0 (k + 1) = (r, [], false) := by
    rw [pairsD, h]
    simp [hp]
  have := (pairsD_stop p c0 (k + 1) (by rw [h1])).2 n (by omega)
  rw [h1] at this
  exact this
set_option maxRecDepth 100000 in
set_option maxHeartbeats 4000000 in
theorem rpairsD_is (s : ByteArray) (c0 n R : Int) (L : List (Int × Int)) (OK : Bool) (w : World) (hs : s.size ≤ 10000) (hc : -9223372036854775808 ≤ c0 ∧ c0 ≤ 9223372036854775807) (hn : -9223372036854775808 ≤ n ∧ n ≤ 1000) (hr : pairsD (pairD (sqB s) 16) c0 n.toNat = (R, L, OK)) :
    Calls Tryd.prog 13 #[spong s c0, .int .i64 n] w (PairsPost w s R L OK) := by
  obtain ⟨i0, hi, hz0, hz1, hz2⟩ := info_parts infoPd
  have HR : Hid (∀ a : Int × List (Int × Int) × Bool, a = pairsD (pairD (sqB s) 16) c0 n.toNat → a.1 = R ∧ a.2.1 = L ∧ a.2.2 = OK) := Lib.hid fun a h => by rw [hr] at h; subst h; exact ⟨rfl, rfl, rfl⟩
  clear hr
  go_enter Tryd.func13, Tryd.ntmps13
  go_upto_region 3 with fail
  refine wp_gen (fun W => Below w.heap.size w W ∧ w.heap.size + 1 + 1 ≤ W.heap.size ∧ Duo W w.heap.size (.string s) (.int .i64 c0) ∧ Duo W (w.heap.size + 1) (.string ⟨#[]⟩) (.int .i64 0)) ⟨(((Below.refl _ _).alloc (Nat.le_refl _) _).alloc (by simp) _), by simp, by simp [Duo, go_sem], by simp [Duo, go_sem]⟩ ?_
  obtain ⟨g1, hg1⟩ : ∃ g, w.heap.size = g := ⟨_, rfl⟩
  obtain ⟨g4, hg4⟩ : ∃ h, g1 + 1 = h := ⟨_, rfl⟩
  obtain ⟨B, hgB⟩ : ∃ h, g4 + 1 = h := ⟨_, rfl⟩
  rintro W1 ⟨hB, hBs, hD1, hD4⟩
  simp only [hg1] at hBs hD1 hD4 ⊢
  simp only [hg4] at hBs hD4 ⊢
  rw [hgB] at hBs
  have n14 : g1 ≠ g4 := by omega
  have l1 : w.heap.size ≤ g1 := by omega
  have l4 : w.heap.size ≤ g4 := by omega
  have lB1 : g1 < B := by omega
  have lB4 : g4 < B := by omega
  have lB : w.heap.size ≤ B := by omega
  clear hg1 hg4 hgB
  go_loopw [7, 8] (PairsRel w B g1 g4 s (pairD (sqB s) 16) c0 n) (fun _ i _ => (n - intOf i).toNat)
  case atStart => exact ⟨0, c0, [], none, 0, Or.inl rfl, rfl, rfl, hc, hB, hBs, hD1, hD4, World.ownsRow_nil _ _ _ _, rfl⟩
  case round =>
    clear hB hBs hD1 hD4
    obtain ⟨k, c, l, a, cap, hk, rfl, rfl, hc', hB, hBs, hD1, hD4, hown, hres⟩ := hrel
    by_cases hlt : (k : Int) < n
    · obtain ⟨r, x, y, ok, hp⟩ := drawn_eta (pairD (sqB s) 16 c)
      have hrb := pairD_bd (sqB s) 16 c hc'
      rw [hp] at hrb
      have hrb : -9223372036854775808 ≤ r ∧ r ≤ 9223372036854775807 := hrb
      have q1 := fun W => rpair_is s c r x y ok W hs hc' hp
      have hlen : l.length = k := by
        have := pairsD_len (pairD (sqB s) 16) c0 k (by rw [hres])
        rw [hres] at this
        exact this
      have hll : l.length ≤ 1000 := by omega
      clear hlen
      have HP := Lib.hid hp; have HRES := Lib.hid hres
      have HB := Lib.hid hB; have HD1 := Lib.hid hD1; have HD4 := Lib.hid hD4; have HO := Lib.hid hown
      obtain ⟨x0, x1, _, _⟩ := hD1
      clear hB hD4 hown hp hres
      go_upto_region 6 with (go_at_call 9; (with_reducible refine (q1 _).mono ?_); rintro e w1 ⟨rfl, hb⟩)
      have hb' := bthen HB.out hb
      have hd1 := HD1.out.keep hb; have hd4 := HD4.out.keep hb; have ho := own_keep HO.out hb
      have hl1 := hd1.lt
      have hsz := hb.size
      have hb2 := ((Below.refl w1.heap.size w1).alloc (Nat.le_refl _) (.cells #[.string s, .int .i64 r] 23)).alloc (by simp) (.cells #[.int .u64 x, .int .u64 y] 27)
      refine wp_gen (fun W => (Below w.heap.size w W ∧ B ≤ W.heap.size) ∧ (Duo W g1 (.string s) (.int .i64 c) ∧ Duo W g4 (.string ⟨#[]⟩) (.int .i64 0) ∧ W.ownsRow B 27 2 (.slice a l.length cap) l.length (flat l)) ∧ Duo W w1.heap.size (.string s) (.int .i64 r) ∧ Duo W (w1.heap.size + 1) (.int .u64 x) (.int .u64 y)) ⟨⟨bthen hb' hb2, by have := hb2.size; omega⟩, ⟨hd1.keep hb2, hd4.keep hb2, own_keep ho hb2⟩, by simp [Duo, go_sem], by simp [Duo, go_sem]⟩ ?_
      obtain ⟨g9, hg9⟩ : ∃ g, w1.heap.size = g := ⟨_, rfl⟩
      obtain ⟨g10, hg10⟩ : ∃ h, g9 + 1 = h := ⟨_, rfl⟩
      rintro W2 ⟨⟨hB, hBs2⟩, ⟨hD1, hD4, hown⟩, hD9, hD10⟩
      simp only [hg9] at hD9 hD10 ⊢
      simp only [hg10] at hD10 ⊢
      have n91 : g9 ≠ g1 := by omega
      have n101 : g10 ≠ g1 := by omega
      clear HB HD1 HD4 HO x0 x1 hb hb' hd1 hd4 ho hl1 q1 hb2 hg9 hg10 hsz
      have HB := Lib.hid hB; have HD1 := Lib.hid hD1; have HD4 := Lib.hid hD4; have HO := Lib.hid hown; have HD10 := Lib.hid hD10
      obtain ⟨x0, x1, x2, x3⟩ := hD1
      obtain ⟨y0, y1, _, _⟩ := hD9
      clear hB hD4 hown hD10
      go_upto_region 7 with fail
      refine wp_gen (fun W => (Below w.heap.size w W ∧ B ≤ W.heap.size) ∧ Duo W g1 (.string s) (.int .i64 r) ∧ Duo W g4 (.string ⟨#[]⟩) (.int .i64 0) ∧ W.ownsRow B 27 2 (.slice a l.length cap) l.length (flat l) ∧ Duo W g10 (.int .u64 x) (.int .u64 y)) ⟨⟨(HB.out.setCell l1 _).setCell l1 _, by simp [World.setCell]; omega⟩, HD1.out.set _ _, (HD4.out.far n14 _ _).far n14 _ _, own_set (own_set HO.out lB1) lB1, (HD10.out.far n101.symm _ _).far n101.symm _ _⟩ ?_
      clear HB HD1 HD4 HO HD10 x0 x1 x2 x3 y0 y1 hBs hBs2
      rintro W3 ⟨⟨hB, hBs⟩, hD1, hD4, hown, hD10⟩
      have HB := Lib.hid hB; have HD1 := Lib.hid hD1; have HD4 := Lib.hid hD4
      obtain ⟨x0, x1, _, _⟩ := hD1
      clear hB
      cases ok with
      | false =>
        have H := HR.out (r, [], false) (pairsD_none HRES.out HP.out (by omega)).symm
        obtain ⟨e1, e2, e3⟩ := H
        have e1 : r = R := e1
        have e2 : ([] : List (Int × Int)) = L := e2
        have e3 : false = OK := e3
        subst e1 e2 e3
        obtain ⟨z0, z1, z2, z3⟩ := hD4
        clear HR HRES HP hown hD10
        go_wp2_with fail
        exact bodyPost_ret (v := .tuple #[.agg #[.string s, .int .i64 r], .slice none 0 0, .bool false]) (by simp [results, Tryd.results13, go_sem, z0, z1]) rfl ⟨(HB.out.setCell l4 _).setCell l4 _, none, 0, rfl, rfl, by unfold maxLen; simp, fun k hk => by simp at hk⟩
      | true =>
        have HY := Lib.hid (pairsD_yes HRES.out HP.out)
        have hfl : flat (l ++ [(x, y)]) = flat l ++ [.int .u64 x, .int .u64 y] := by rw [flat_append]; rfl
        have HFL := Lib.hid hfl
        have hle : B ≤ W3.heap.size := hBs
        obtain ⟨y0, y1, _, _⟩ := hD10
        have HNE := Lib.hid (own_ne hown lB1); have HNE4 := Lib.hid (own_ne hown lB4)
        have HOW := Lib.hid hown
        generalize hfx : flat l = fl at *
        clear HR HRES HP hD4 hfx hfl
        go_upto_region 4 with (at_builtin; refine wpList_append_own _ rfl _ _ 33 rfl B 27 i0 (.agg #[.int .u64 0, .int .u64 0]) 2 16 Tryd.underlying33 hi hz0 hz1 hz2 rfl (by decide) _ _ _ rfl (hown.alloc _) ⟨W3.heap.size, 0, none⟩ 1 1 [.int .u64 x, .int .u64 y] rfl rfl ?c1 ?c2 ?c3 ?c4 ?c5 ?_)
        case c1 => exact two_src (by simp [go_sem]) (by simp [go_sem])
        case c2 => first | rfl | (intro u hu; simp at hu; rcases hu with rfl | rfl <;> rfl)
        case c3 => unfold maxLen; omega
        case c4 => omega
        case c5 => first | omega | (simp; omega)
        · intro v' w4 hown' hgrow _
          have hb4 := own_row_below (hown.alloc (.cells #[.int .u64 x, .int .u64 y] 27)) (HB.out.alloc HB.out.size _) hgrow lB (by have := HB.out.size; simp; omega)
          have hd1 := ((HD1.out.keep ((Below.refl _ _).alloc (Nat.le_refl _) (.cells #[.int .u64 x, .int .u64 y] 27))).grown hgrow HNE.out)
          have hd4 := ((HD4.out.keep ((Below.refl _ _).alloc (Nat.le_refl _) (.cells #[.int .u64 x, .int .u64 y] 27))).grown hgrow HNE4.out)
          have hsz := hgrow.size
          have HB4 := Lib.hid hb4; have HD1 := Lib.hid hd1; have HD4 := Lib.hid hd4
          have HO := Lib.hid hown'
          clear hb4 hd1 hd4 hgrow hown hown' HB HOW HNE HNE4 x0 x1 y0 y1
          have hle2 : B ≤ w4.heap.size := by have : (W3.alloc (.cells #[.int .u64 x, .int .u64 y] 27)).heap.size = W3.heap.size + 1 := by simp
                                             omega
          clear hsz
          go_wp2
          go_roundw
          case rel =>
            obtain ⟨a', cap', rfl⟩ := own_form HO.out
            refine ⟨k + 1, r, l ++ [(x, y)], a', cap', Or.inr (by omega), by simp, by go_num, hrb, HB4.out, hle2, HD1.out, HD4.out, ?_, HY.out⟩
            rw [HFL.out]
            have := HO.out
            simpa using this
          case measure => simp [intOf]; omega
    · have hkn : n.toNat = k := by omega
      obtain ⟨e1, e2, e3⟩ := HR.out (c, l, true) (by rw [hkn]; exact hres.symm)
      have e1 : c = R := e1
      have e2 : l = L := e2
      have e3 : true = OK := e3
      subst e1 e2 e3
      have HB := Lib.hid hB
      obtain ⟨x0, x1, _, _⟩ := hD1
      obtain ⟨z0, z1, z2, z3⟩ := hD4
      have ho2 := own_set (own_set (x := .int .i64 c) (o := 1) (own_set (x := .string s) (o := 0) hown lB4) lB4) (x := .int .i64 c) (o := 1) lB4
      have HQ := Lib.hid (own_qrow (own_set (x := .int .i64 c) (o := 1) (own_set (x := .string s) (o := 0) hown lB4) lB4))
      have HA : Hid (∀ (a' : Option Addr) (c' : Nat), Value.slice a l.length cap = .slice a' l.length c' → a' = a) := Lib.hid fun a' c' h => by cases h; rfl
      clear hB hown HR hres ho2
      go_wp2_with fail
      exact bodyPost_ret (v := .tuple #[.agg #[.string s, .int .i64 c], .slice a l.length cap, .bool true]) (by simp [results, Tryd.results13, go_sem, z0, z1]) rfl ⟨(HB.out.setCell l4 _).setCell l4 _, a, cap, rfl, by
        obtain ⟨a', c', h1, h2⟩ := HQ.out
        obtain rfl := HA.out _ _ h1
        exact h2⟩
end Go.Proofs.YtgnnliablgbgkaaDoor
