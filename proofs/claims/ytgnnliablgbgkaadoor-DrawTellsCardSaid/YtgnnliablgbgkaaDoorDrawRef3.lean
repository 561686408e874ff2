/-
  What the document's Places of layer 13 come to.
-/
import Derived.Test.YtgnnliablgbgkaaDoorDrawRef2
namespace Go.Proofs.YtgnnliablgbgkaaDoor
open Go Go.RowKit
set_option linter.unusedVariables false

theorem infoInt : (Tryd.prog.info? 3).map (fun i => (i.zero, i.size, i.bytes)) = some (some (.int .i64 0), 1, 8) := by kernel_rfl
theorem wrapu_62 {k : Nat} (hk : k ≤ 62) : IntKind.u64.wrap (2 ^ k) = ((2 ^ k : Nat) : Int) := by
  have : ∀ k, k ≤ 62 → IntKind.u64.wrap (2 ^ k) = ((2 ^ k : Nat) : Int) := by decide +kernel
  exact this k hk
def ints (l : List Int) : List Value := l.map (Value.int .i64)
theorem ints_len (l : List Int) : (ints l).length = l.length := by simp [ints]
theorem own_irow {W : World} {B : Nat} {v : Value} {l : List Int} (h : W.ownsRow B 3 1 v l.length (ints l)) : ∃ a c, v = .slice a l.length c ∧ IRowA W a l.length l := by
  rcases h.2 with ⟨rfl, h0⟩ | ⟨g, cap, cur, rfl, hb, hg, hn, hc, _⟩
  · exact ⟨none, 0, by rw [h0], rfl, by unfold maxLen; omega, fun k hk => by omega⟩
  · refine ⟨some ⟨g, 0, none⟩, cap, rfl, rfl, by omega, fun k hk => ⟨g, 0, rfl, ?_⟩⟩
    have := h.cells (g := g) rfl k (.int .i64 (l.getD k 0)) (by simp [ints, List.getD, hk])
    rwa [Addr.add_lit] at this
def PlacesRel (w : World) (B g1 g6 : Nat) (s : ByteArray) (c0 n : Int) (K : Nat) (v i : Value) (W : World) : Prop :=
  ∃ (k : Nat) (c : Int) (l : List Int) (a : Option Addr) (cap : Nat), (k = 0 ∨ (k : Int) ≤ n) ∧ v = .slice a l.length cap ∧ i = .int .i64 k ∧ (-9223372036854775808 ≤ c ∧ c ≤ 9223372036854775807) ∧ Below w.heap.size w W ∧ B ≤ W.heap.size ∧ Duo W g1 (.string s) (.int .i64 c) ∧ Duo W g6 (.string ⟨#[]⟩) (.int .i64 0) ∧ W.ownsRow B 3 1 v l.length (ints l) ∧ placesD s c0 K k = (c, l)
theorem placesD_step {s : ByteArray} {c0 c : Int} {K k : Nat} {l : List Int} (h : placesD s c0 K k = (c, l)) : placesD s c0 K (k + 1) = (up c, l ++ [numB (sqB s c) 0 % (2 ^ K : Nat)]) := by rw [placesD, h]
set_option maxRecDepth 100000 in
set_option maxHeartbeats 4000000 in
theorem rplaces_is (s : ByteArray) (c0 n R : Int) (K : Nat) (L : List Int) (w : World) (hs : s.size ≤ 10000) (hc : -9223372036854775808 ≤ c0 ∧ c0 ≤ 9223372036854775807) (hn : -9223372036854775808 ≤ n ∧ n ≤ 1000) (hK : K ≤ 62) (hr : placesD s c0 K n.toNat = (R, L)) :
    Calls Tryd.prog 11 #[spong s c0, .int .i64 n, .int .i64 K] w (PlacesPost w s R L) := by
  obtain ⟨i0, hi, hz0, hz1, hz2⟩ := info_parts infoInt
  have HR : Hid (∀ a : Int × List Int, a = placesD s c0 K n.toNat → a.1 = R ∧ a.2 = L) := Lib.hid fun a h => by rw [hr] at h; subst h; exact ⟨rfl, rfl⟩
  clear hr
  have e1 := wrapu_62 hK
  have hMp : (0 : Int) < ((2 ^ K : Nat) : Int) := by have := Nat.pow_pos (n := K) (show 0 < 2 by decide); omega
  have hML : ((2 ^ K : Nat) : Int) ≤ 4611686018427387904 := by have := Nat.pow_le_pow_right (show 0 < 2 by decide) hK; simp only [show (2 : Nat) ^ 62 = 4611686018427387904 by decide] at this; omega
  have HPL := Lib.hid (fun c k l => @placesD_step s c0 c K k l)
  obtain ⟨M, hM⟩ : ∃ M, ((2 ^ K : Nat) : Int) = M := ⟨_, rfl⟩
  simp only [hM] at e1 hMp hML HPL
  go_enter Tryd.func11, Tryd.ntmps11
  go_upto_region 3 with fail
  refine wp_gen (fun W => Below w.heap.size w W ∧ w.heap.size + 1 + 1 ≤ W.heap.size ∧ Duo W w.heap.size (.string s) (.int .i64 c0) ∧ Duo W (w.heap.size + 1) (.string ⟨#[]⟩) (.int .i64 0)) ⟨(((Below.refl _ _).alloc (Nat.le_refl _) _).alloc (by simp) _), by simp, by simp [Duo, go_sem], by simp [Duo, go_sem]⟩ ?_
  obtain ⟨g1, hg1⟩ : ∃ g, w.heap.size = g := ⟨_, rfl⟩
  obtain ⟨g4, hg4⟩ : ∃ h, g1 + 1 = h := ⟨_, rfl⟩
  obtain ⟨B, hgB⟩ : ∃ h, g4 + 1 = h := ⟨_, rfl⟩
  rintro W1 ⟨hB, hBs, hD1, hD4⟩
  simp only [hg1] at hBs hD1 hD4 ⊢
  simp only [hg4] at hBs hD4 ⊢
  rw [hgB] at hBs
  have n14 : g1 ≠ g4 := by omega
  have l1 : w.heap.size ≤ g1 := by omega
  have l4 : w.heap.size ≤ g4 := by omega
  have lB1 : g1 < B := by omega
  have lB4 : g4 < B := by omega
  have lB : w.heap.size ≤ B := by omega
  clear hg1 hg4 hgB hM
  go_loopw [8, 9] (PlacesRel w B g1 g4 s c0 n K) (fun _ i _ => (n - intOf i).toNat)
  case atStart => exact ⟨0, c0, [], none, 0, Or.inl rfl, rfl, rfl, hc, hB, hBs, hD1, hD4, World.ownsRow_nil _ _ _ _, rfl⟩
  case round =>
    clear hB hBs hD1 hD4
    obtain ⟨k, c, l, a, cap, hk, rfl, rfl, hc', hB, hBs, hD1, hD4, hown, hres⟩ := hrel
    by_cases hlt : (k : Int) < n
    · have q1 := fun W => rsqz_is s c W hs
      have hup : IntKind.i64.wrap (c + 1) = up c := rfl
      rw [hup] at q1
      have hrb := up_bd c
      have hll : l.length ≤ 1000 := by
        have := placesD_len s c0 K k
        rw [hres] at this
        have : l.length = k := this
        omega
      have HY := Lib.hid (HPL.out _ _ _ hres)
      have hX := sqB_size s c
      have m1 := fun W => rnum_yes (sqB s c) (by omega) W
      have hu := numB_U (sqB s c) 0
      have hXI : ((sqB s c).size : Int) = 32 := by omega
      have h8 : ¬ ((sqB s c).size : Int) < 8 := by omega
      generalize hnx : numB (sqB s c) 0 = x at *
      have hrem : x.tmod M = x % M := Int.tmod_eq_emod_of_nonneg hu.1
      have hz0' := Int.emod_nonneg x (show M ≠ 0 by omega)
      have hz1' := Int.emod_lt_of_pos x hMp
      have hwz : IntKind.i64.wrap (x % M) = x % M := IntWalk.i64_in _ (by omega)
      have hwz' : wrap64 (x % M) = x % M := IntWalk.wrap64_in _ (by omega)
      have hMne : ¬ M = 0 := by omega
      generalize x % M = z at *
      generalize up c = r at *
      generalize sqB s c = X at *
      have HB := Lib.hid hB; have HD1 := Lib.hid hD1; have HD4 := Lib.hid hD4; have HO := Lib.hid hown
      obtain ⟨x0, x1, _, _⟩ := hD1
      clear hB hD4 hown hres hup hX hnx
      go_upto_region 6 with (go_at_call 20; (with_reducible refine (q1 _).mono ?_); rintro e w1 ⟨rfl, hb⟩)
      have hb' := bthen HB.out hb
      have hd1 := HD1.out.keep hb; have hd4 := HD4.out.keep hb; have ho := own_keep HO.out hb
      have hl1 := hd1.lt
      have hsz := hb.size
      have hb2 := ((Below.refl w1.heap.size w1).alloc (Nat.le_refl _) (.cells #[.string s, .int .i64 r] 23))
      refine wp_gen (fun W => (Below w.heap.size w W ∧ B ≤ W.heap.size) ∧ (Duo W g1 (.string s) (.int .i64 c) ∧ Duo W g4 (.string ⟨#[]⟩) (.int .i64 0) ∧ W.ownsRow B 3 1 (.slice a l.length cap) l.length (ints l)) ∧ Duo W w1.heap.size (.string s) (.int .i64 r)) ⟨⟨bthen hb' hb2, by have := hb2.size; omega⟩, ⟨hd1.keep hb2, hd4.keep hb2, own_keep ho hb2⟩, by simp [Duo, go_sem]⟩ ?_
      obtain ⟨g9, hg9⟩ : ∃ g, w1.heap.size = g := ⟨_, rfl⟩
      rintro W2 ⟨⟨hB, hBs2⟩, ⟨hD1, hD4, hown⟩, hD9⟩
      simp only [hg9] at hD9 ⊢
      have n91 : g9 ≠ g1 := by omega
      clear HB HD1 HD4 HO x0 x1 hb hb' hd1 hd4 ho hl1 q1 hb2 hg9 hsz
      have HB := Lib.hid hB; have HD1 := Lib.hid hD1; have HD4 := Lib.hid hD4; have HO := Lib.hid hown
      obtain ⟨x0, x1, x2, x3⟩ := hD1
      obtain ⟨y0, y1, _, _⟩ := hD9
      clear hB hD4 hown
      go_upto_region 7 with fail
      refine wp_gen (fun W => (Below w.heap.size w W ∧ B ≤ W.heap.size) ∧ Duo W g1 (.string s) (.int .i64 r) ∧ Duo W g4 (.string ⟨#[]⟩) (.int .i64 0) ∧ W.ownsRow B 3 1 (.slice a l.length cap) l.length (ints l)) ⟨⟨(HB.out.setCell l1 _).setCell l1 _, by simp [World.setCell]; omega⟩, HD1.out.set _ _, (HD4.out.far n14 _ _).far n14 _ _, own_set (own_set HO.out lB1) lB1⟩ ?_
      clear HB HD1 HD4 HO x0 x1 x2 x3 y0 y1 hBs hBs2
      rintro W3 ⟨⟨hB, hBs⟩, hD1, hD4, hown⟩
      have HB := Lib.hid hB; have HD1 := Lib.hid hD1; have HD4 := Lib.hid hD4
      clear hB hD1 hD4
      go_upto_region 8 with (go_at_call 21; (with_reducible refine (m1 _).mono ?_); rintro e w2 ⟨rfl, rfl⟩)
      have hfl : ints (l ++ [z]) = ints l ++ [.int .i64 z] := by simp [ints]
      have HFL := Lib.hid hfl
      have hle : B ≤ w2.heap.size := hBs
      have HNE := Lib.hid (own_ne hown lB1); have HNE4 := Lib.hid (own_ne hown lB4)
      generalize hfx : ints l = fl at *
      clear HR hfx hfl
      go_upto_region 4 with (at_builtin; refine wpList_append_own _ rfl _ _ 30 rfl B 3 i0 (.int .i64 0) 1 8 Tryd.underlying30 hi hz0 hz1 hz2 rfl (by decide) _ _ _ rfl (hown.alloc _) ⟨w2.heap.size, 0, none⟩ 1 1 [.int .i64 z] rfl rfl ?c1 ?c2 ?c3 ?c4 ?c5 ?_)
      case c1 => exact one_src (by simp [go_sem])
      case c2 => first | rfl | (intro u hu; simp at hu; subst hu; rfl)
      case c3 => unfold maxLen; omega
      case c4 => omega
      case c5 => first | omega | (simp; omega)
      · intro v' w4 hown' hgrow _
        have hb4 := own_row_below (hown.alloc (.cells #[.int .i64 z] 3)) (HB.out.alloc HB.out.size _) hgrow lB (by have := HB.out.size; simp; omega)
        have hd1 := ((HD1.out.keep ((Below.refl _ _).alloc (Nat.le_refl _) (.cells #[.int .i64 z] 3))).grown hgrow HNE.out)
        have hd4 := ((HD4.out.keep ((Below.refl _ _).alloc (Nat.le_refl _) (.cells #[.int .i64 z] 3))).grown hgrow HNE4.out)
        have hsz := hgrow.size
        have HB4 := Lib.hid hb4; have HD1 := Lib.hid hd1; have HD4 := Lib.hid hd4
        have HO := Lib.hid hown'
        clear hb4 hd1 hd4 hgrow hown hown' HB HNE HNE4
        have hle2 : B ≤ w4.heap.size := by have : (w2.alloc (.cells #[.int .i64 z] 3)).heap.size = w2.heap.size + 1 := by simp
                                           omega
        clear hsz
        go_wp2
        go_roundw
        case rel =>
          obtain ⟨a', cap', rfl⟩ := own_form HO.out
          refine ⟨k + 1, r, l ++ [z], a', cap', Or.inr (by omega), by simp, by go_num, hrb, HB4.out, hle2, HD1.out, HD4.out, ?_, HY.out⟩
          rw [HFL.out]
          have := HO.out
          simpa using this
        case measure => simp [intOf]; omega
    · have hkn : n.toNat = k := by omega
      obtain ⟨e1, e2⟩ := HR.out (c, l) (by rw [hkn]; exact hres.symm)
      have e1 : c = R := e1
      have e2 : l = L := e2
      subst e1 e2
      have HB := Lib.hid hB
      obtain ⟨x0, x1, _, _⟩ := hD1
      obtain ⟨z0, z1, z2, z3⟩ := hD4
      have HQ := Lib.hid (own_irow (own_set (x := .int .i64 c) (o := 1) (own_set (x := .string s) (o := 0) hown lB4) lB4))
      have HA : Hid (∀ (a' : Option Addr) (c' : Nat), Value.slice a l.length cap = .slice a' l.length c' → a' = a) := Lib.hid fun a' c' h => by cases h; rfl
      clear hB hown HR hres
      go_wp2_with fail
      exact bodyPost_ret (v := .tuple #[.agg #[.string s, .int .i64 c], .slice a l.length cap]) (by simp [results, Tryd.results11, go_sem, z0, z1]) rfl ⟨(HB.out.setCell l4 _).setCell l4 _, a, cap, rfl, by
        obtain ⟨a', c', h1, h2⟩ := HQ.out
        obtain rfl := HA.out _ _ h1
        exact h2⟩
end Go.Proofs.YtgnnliablgbgkaaDoor
