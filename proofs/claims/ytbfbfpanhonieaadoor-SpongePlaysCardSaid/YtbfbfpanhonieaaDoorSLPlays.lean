/-
  The walk of SpongePlays: it answers true, where the program's calls do what is asked of them. (Written by gen_slaws.py.)
-/
import Derived.Test.YtbfbfpanhonieaaDoorSpAw
namespace Go.Proofs.YtbfbfpanhonieaaDoor
open Go Go.RowKit Go.Sort Go.BigFrame
set_option linter.unusedVariables false

theorem sexit_gen {K : Act → World → Prop} {Q : Exit → Act → World → Prop} {e : Exit} {a : Act} {w : World} (S : World → Prop) (h : S w) (k : ∀ W, S W → Exit.then K Q e a W) : Exit.then K Q e a w := k w h
/-- A slice of steps. -/
def ActA (W : World) (a : Option Addr) (n : Nat) (o : Nat → Bool) (t : Nat → ByteArray) : Prop :=
  n ≤ maxLen ∧ ∀ k, k < n → ∃ b off : Nat, a = some ⟨b, off, none⟩ ∧ W.cell? ⟨b, off + k * 2, none⟩ = some (.bool (o k)) ∧ W.cell? ⟨b, off + k * 2 + 1, none⟩ = some (.string (t k))
theorem i64_wrap (x : Int) : -9223372036854775808 ≤ IntKind.i64.wrap x ∧ IntKind.i64.wrap x ≤ 9223372036854775807 := by rw [IntKind.wrap_i64]; omega
theorem absorb_L {G : World → Prop} (hA : AskSponge G) (s t : ByteArray) (c : Int) (W : World) (b : Nat) (hs : s.size ≤ 10000) (ht : t.size ≤ 10000) (h : StrA W (some ⟨b, 0, none⟩) 1 (tx [t])) (hg : G W) :
    Calls Tryd.prog 9 #[.agg #[.string s, .int .i64 c], .slice (some ⟨b, 0, none⟩) 1 1] W fun e w' => e = .returned (.agg #[.string (absB s t), .int .i64 0]) ∧ Below W.heap.size W w' :=
  hA.absorb s c (some ⟨b, 0, none⟩) 1 1 (tx [t]) W h (Nat.le_refl _) (by unfold maxLen; omega) (fun h => by cases h) (by decide) (fun k hk => by
    have : k = 0 := by omega
    subst this
    exact ht) hs hg
theorem rabs_L (s t : ByteArray) (c : Int) (W : World) (b : Nat) (hs : s.size ≤ 10000) (ht : t.size ≤ 10000) (h : StrA W (some ⟨b, 0, none⟩) 1 (tx [t])) :
    Calls Tryd.prog 10 #[.agg #[.string s, .int .i64 c], .slice (some ⟨b, 0, none⟩) 1 1] W fun e w' => e = .returned (.agg #[.string (absB s t), .int .i64 0]) ∧ Below W.heap.size W w' :=
  rabs_is s c (some ⟨b, 0, none⟩) 1 1 (tx [t]) W h (by decide) (fun k hk => by
    have : k = 0 := by omega
    subst this
    exact ht) hs
def Pl1R (g7 bp op n cap k : Nat) (s1 T Z : ByteArray) (C : Int) (sl : Nat) (v : Value) (W : World) : Prop :=
  match sl with
  | 58 => v = .agg #[.string s1, .int .i64 C]
  | 59 => v = .slice (some ⟨bp, op, none⟩) n cap
  | 60 => v = .int .i64 k
  | 61 => v = .pointer (some ⟨bp, op + k * 2, none⟩)
  | 62 => v = .pointer (some ⟨bp, op + k * 2 + 1, none⟩)
  | 63 => v = .string T
  | 64 => StrL W v 1 [T]
  | 65 => v = .agg #[.string Z, .int .i64 0]
  | _ => v = .bool true
theorem Pl1R.keep {g7 bp op n cap k : Nat} {s1 T Z : ByteArray} {C : Int} {sl : Nat} {v : Value} {W W' : World} (h : Pl1R g7 bp op n cap k s1 T Z C sl v W) (hb : Below W.heap.size W W') : Pl1R g7 bp op n cap k s1 T Z C sl v W' := by
  unfold Pl1R at *
  split at h
  all_goals first | exact h | (exact StrL.keep h hb)
def Pl2R (g8 bp op n cap k : Nat) (s1 T Z : ByteArray) (C : Int) (sl : Nat) (v : Value) (W : World) : Prop :=
  match sl with
  | 66 => v = .agg #[.string s1, .int .i64 C]
  | 67 => v = .slice (some ⟨bp, op, none⟩) n cap
  | 68 => v = .int .i64 k
  | 69 => v = .pointer (some ⟨bp, op + k * 2, none⟩)
  | 70 => v = .pointer (some ⟨bp, op + k * 2 + 1, none⟩)
  | 71 => v = .string T
  | 72 => StrL W v 1 [T]
  | 73 => v = .agg #[.string Z, .int .i64 0]
  | _ => v = .bool true
theorem Pl2R.keep {g8 bp op n cap k : Nat} {s1 T Z : ByteArray} {C : Int} {sl : Nat} {v : Value} {W W' : World} (h : Pl2R g8 bp op n cap k s1 T Z C sl v W) (hb : Below W.heap.size W W') : Pl2R g8 bp op n cap k s1 T Z C sl v W' := by
  unfold Pl2R at *
  split at h
  all_goals first | exact h | (exact StrL.keep h hb)
def PlaysRel (w : World) (g7 g8 n : Nat) (i : Value) (W : World) : Prop := ∃ (k : Nat) (s1 : ByteArray) (C : Int), k ≤ n ∧ i = .int .i64 k ∧ Below w.heap.size w W ∧ Duo W g7 (.string s1) (.int .i64 C) ∧ Duo W g8 (.string s1) (.int .i64 C) ∧ s1.size ≤ 200 ∧ (-9223372036854775808 ≤ C ∧ C ≤ 9223372036854775807)
set_option maxRecDepth 100000 in
set_option maxHeartbeats 8000000 in
theorem splays_body (G : World → Prop) (hA : AskSponge G) (aw : ∀ W, G W → Calls Tryd.prog 6 #[] W fun e w' => e = .returned (.bool true) ∧ Below W.heap.size W w') (s : ByteArray) (c : Int) (lab : ByteArray) (a : Option Addr) (n cap : Nat) (o : Nat → Bool) (t : Nat → ByteArray) (w : World) (hG0 : G w) (hs : s.size ≤ maxLen) (hlab : lab.size ≤ maxLen) (hc : -9223372036854775808 ≤ c ∧ c ≤ 9223372036854775807) (hL : ActA w a n o t) (hts : ∀ k, k < n → (t k).size ≤ maxLen) :
    Calls Tryd.prog 3 #[.agg #[.string s, .int .i64 c], .string lab, .slice a n cap] w fun e w' => e = .returned (.bool true) ∧ Below w.heap.size w w' := by
  have HK := Lib.hid (fun (W W' : World) => @AskSponge.keep G hA W W')
  have HG0 := Lib.hid hG0
  have hAh := Lib.hid hA
  have HL := Lib.hid hL
  have hnm := hL.1
  have hL0 : ∀ bp op, a = some ⟨bp, op, none⟩ → 0 < n → bp < w.heap.size := by
    intro bp op e h0
    obtain ⟨b, off, e', c0, _⟩ := hL.2 0 h0
    rw [e] at e'
    cases e'
    exact World.block_lt_of_cell? w _ c0
  have HT := Lib.hid hts
  unfold maxLen at hs hlab hnm
  clear hA hG0 hL hts
  go_enter Tryd.func3, Tryd.ntmps3
  go_upto_region 1 with fail
  refine wp_gen (fun W => Below w.heap.size w W ∧ Duo W w.heap.size (.string s) (.int .i64 c)) ⟨(Below.refl _ _).alloc (Nat.le_refl _) _, by simp [Duo, go_sem]⟩ ?_
  obtain ⟨g3, hg3⟩ : ∃ g, w.heap.size = g := ⟨_, rfl⟩
  rintro W1 ⟨hB, hD⟩
  rw [hg3] at hD
  simp only [hg3]
  have hlt3 := hD.lt
  have HB := Lib.hid hB
  obtain ⟨z0, z1, _, _⟩ := hD
  have hg3' : w.heap.size ≤ g3 := by omega
  clear hB hg3
  by_cases b1 : (200 : Int) < (s.size : Int)
  · go_wp2_with (go_at_call 6; (with_reducible refine (aw _ (HK.out _ _ HG0.out HB.out)).mono ?_); rintro e w1 ⟨rfl, hb⟩; replace HB := Lib.hid (bthen HB.out hb); clear hb)
    go_ret
    exact ⟨rfl, HB.out⟩
  by_cases b2 : (500 : Int) < (lab.size : Int)
  · go_wp2_with (go_at_call 6; (with_reducible refine (aw _ (HK.out _ _ HG0.out HB.out)).mono ?_); rintro e w1 ⟨rfl, hb⟩; replace HB := Lib.hid (bthen HB.out hb); clear hb)
    go_ret
    exact ⟨rfl, HB.out⟩
  by_cases b3 : (50 : Int) < (n : Int)
  · go_wp2_with (go_at_call 6; (with_reducible refine (aw _ (HK.out _ _ HG0.out HB.out)).mono ?_); rintro e w1 ⟨rfl, hb⟩; replace HB := Lib.hid (bthen HB.out hb); clear hb)
    go_ret
    exact ⟨rfl, HB.out⟩
  have n1 := fun W hg => hAh.out.new lab W (by omega) hg
  have n2 := fun W => rnew_is lab W (by omega)
  generalize newB lab = NL at *
  go_upto_region 3 with fail
  have hb12 : Below w.heap.size w ((W1.alloc (.cells #[.string s, .int .i64 c] 23)).alloc (.cells #[.string s, .int .i64 c] 23)) := (HB.out.alloc HB.out.size _).alloc (by have := HB.out.size; simp; omega) _
  go_region
  · refine sexit_gen (fun W => Below w.heap.size w W ∧ Duo W (W1.heap.size) (.string s) (.int .i64 c) ∧ Duo W (W1.heap.size + 1) (.string s) (.int .i64 c)) ⟨by first | exact hb12 | exact hb12.drew, by simp [Duo, go_sem], by simp [Duo, go_sem]⟩ ?_
    obtain ⟨g7, hg7⟩ : ∃ g, W1.heap.size = g := ⟨_, rfl⟩
    obtain ⟨g8, hg8⟩ : ∃ g, W1.heap.size + 1 = g := ⟨_, rfl⟩
    rintro W2 ⟨hB, hD7, hD8⟩
    have hs1 := HB.out.size
    have hne : g7 ≠ g8 := by omega
    have hne' : g8 ≠ g7 := by omega
    have hg7' : w.heap.size ≤ g7 := by omega
    have hg8' : w.heap.size ≤ g8 := by omega
    simp only [hg8] at hD7 hD8 ⊢
    simp only [hg7] at hD7 hD8 ⊢
    clear hg7 hg8 HB hb12 hs1 z0 z1 hlt3
    have hg7 := hg7'
    have hg8 := hg8'
    clear hg7' hg8'
    go_upto_region 5 with fail
    go_loopw [9] (PlaysRel w g7 g8 n) (fun i _ => n - (intOf i).toNat)
    case atStart => exact ⟨0, s, c, Nat.zero_le _, rfl, hB, hD7, hD8, by omega, hc⟩
    case round =>
      clear hB hD7 hD8
      obtain ⟨k, s1, C, hk, rfl, hB, hD7, hD8, hz, hC⟩ := hrel
      by_cases hlt : k < n
      · have hlt' : (k : Int) < (n : Int) := by omega
        have hk0 : (0 : Int) ≤ (k : Int) := by omega
        obtain ⟨bp, op, rfl, o00, t00⟩ := HL.out.2 k hlt
        have o0 := bkeep hB o00
        have t0 := bkeep hB t00
        clear o00 t00
        have HB := Lib.hid hB; have HD7 := Lib.hid hD7; have HD8 := Lib.hid hD8
        have hts := HT.out k hlt
        clear hB hD7 hD8
        generalize t k = T at *
        generalize o k = O at *
        by_cases hT : (300 : Int) < (T.size : Int)
        · go_wp2_with (go_at_call 6; (with_reducible refine (aw _ (HK.out _ _ HG0.out HB.out)).mono ?_); rintro e w1 ⟨rfl, hb⟩; replace HB := Lib.hid (bthen HB.out hb); clear hb)
          go_ret
          exact ⟨rfl, HB.out⟩
        · go_upto_region 10 with fail
          cases O with
          | true =>
            have q1 := fun W hg => hAh.out.squeeze s1 C W (by omega) hC hg
            have q2 := fun W => rsqz_is s1 C W (by omega)
            have hC' := i64_wrap (C + 1)
            generalize sqB s1 C = X at *
            generalize IntKind.i64.wrap (C + 1) = C' at *
            obtain ⟨x0, x1, x2, x3⟩ := HD7.out
            go_upto_region 12 with (go_at_call 7; (with_reducible refine (q1 _ (HK.out _ _ HG0.out HB.out)).mono ?_); rintro e w1 ⟨rfl, hb⟩; replace x2 := bfree hb x0 x2; replace x3 := bfree hb x1 x3; replace x0 := bkeep hb x0; replace x1 := bkeep hb x1)
            refine wp_gen (fun W => Below w.heap.size w W ∧ Duo W g7 (.string s1) (.int .i64 C') ∧ Duo W g8 (.string s1) (.int .i64 C)) ⟨((bthen HB.out hb).setCell hg7 _).setCell hg7 _, (HD7.out.keep hb).set _ _, ((HD8.out.keep hb).far hne _ _).far hne _ _⟩ ?_
            clear HB HD7 HD8 x0 x1 x2 x3 hb o0 t0
            rintro W2 ⟨hB, hD7, hD8⟩
            have HB := Lib.hid hB; have HD7 := Lib.hid hD7; have HD8 := Lib.hid hD8
            obtain ⟨x0, x1, x2, x3⟩ := hD8
            clear hB hD7
            go_upto_region 15 with (go_at_call 8; (with_reducible refine (q2 _).mono ?_); rintro e w1 ⟨rfl, hb⟩; replace x2 := bfree hb x0 x2; replace x3 := bfree hb x1 x3; replace x0 := bkeep hb x0; replace x1 := bkeep hb x1)
            refine wp_gen (fun W => Below w.heap.size w W ∧ Duo W g7 (.string s1) (.int .i64 C') ∧ Duo W g8 (.string s1) (.int .i64 C')) ⟨((bthen HB.out hb).setCell hg8 _).setCell hg8 _, ((HD7.out.keep hb).far hne' _ _).far hne' _ _, (HD8.out.keep hb).set _ _⟩ ?_
            clear HB HD7 HD8 x0 x1 x2 x3 hb
            rintro W3 ⟨hB, hD7, hD8⟩
            have HB := Lib.hid hB; have HD7 := Lib.hid hD7; have HD8 := Lib.hid hD8
            obtain ⟨x0, x1, _, _⟩ := hD7
            obtain ⟨y0, y1, _, _⟩ := hD8
            clear hB
            go_wp2_with fail
            go_roundw
            case rel => exact ⟨k + 1, s1, C', by omega, by go_num, HB.out, HD7.out, HD8.out, hz, hC'⟩
            case measure => simp [intOf]; omega
          | false =>
            have ka := fun W b hs hg => absorb_L hAh.out s1 T C W b (by omega) (by omega) hs hg
            have kr := fun W b hs => rabs_L s1 T C W b (by omega) (by omega) hs
            have hzz := absB_size s1 T
            generalize absB s1 T = Z at *
            obtain ⟨x0, x1, x2, x3⟩ := HD7.out
            go_upto_region 13 with fail
            refine wp_loose [(58, []), (59, []), (60, []), (61, [59, 60]), (62, [61]), (63, [62]), (64, [63]), (65, [58, 64])]
              (Pl1R g7 bp op n cap k s1 T Z C) (fun d => false) (by kernel_rfl) (by kernel_rfl) (fun _ _ _ _ h hb => h.keep hb) ?_ ?_
            · refine opsrun_cons ?_ (opsrun_cons ?_ (opsrun_cons ?_ (opsrun_cons ?_ (opsrun_cons ?_ (opsrun_cons ?_ (opsrun_cons ?_ (opsrun_cons ?_ opsrun_nil)))))))
              all_goals
                refine OpRuns.any ?_
                intro Q0 σ W' K hb hn hK
                simp only [fill, List.map, Act.put, List.setIfInBounds_toArray, List.set_cons_zero, List.set_cons_succ] at hK ⊢
              · clear hn
                have x0' := bkeep hb x0
                have x1' := bkeep hb x1
                clear x0 x1
                go_simp
                exact hK _ _ rfl (Below.refl _ _) (fun h => absurd h (by decide))
              · clear hn
                go_simp
                exact hK _ _ rfl (Below.refl _ _) (fun h => absurd h (by decide))
              · clear hn
                go_simp
                exact hK _ _ rfl (Below.refl _ _) (fun h => absurd h (by decide))
              · have h59 : σ 59 = _ := hn 59 (by decide)
                have h60 : σ 60 = _ := hn 60 (by decide)
                clear hn
                simp only [h59, h60] at hK
                go_simp
                exact hK _ _ rfl (Below.refl _ _) (fun h => absurd h (by decide))
              · have h61 : σ 61 = _ := hn 61 (by decide)
                clear hn
                simp only [h61] at hK
                go_simp
                exact hK _ _ rfl (Below.refl _ _) (fun h => absurd h (by decide))
              · have h62 : σ 62 = _ := hn 62 (by decide)
                clear hn
                simp only [h62] at hK
                have t0' := bkeep hb t0
                clear t0
                go_simp
                exact hK _ _ rfl (Below.refl _ _) (fun h => absurd h (by decide))
              · have h63 : σ 63 = _ := hn 63 (by decide)
                clear hn
                simp only [h63] at hK
                go_simp
                exact hK _ _ (StrL.new _ [T] 1 _ rfl (by decide)) ((Below.refl _ _).alloc (Nat.le_refl _) _) (fun h => absurd h (by decide))
              · have h58 : σ 58 = _ := hn 58 (by decide)
                have p64 : StrL W' (σ 64) 1 [T] := hn 64 (by decide)
                clear hn
                simp only [h58] at hK
                obtain ⟨b, e, hs⟩ := p64
                simp only [e] at hK
                go_simp
                go_at_call 9
                refine (ka _ b hs (HK.out _ _ HG0.out (bthen HB.out hb))).mono ?_
                rintro e w1 ⟨rfl, hb1⟩
                exact hK _ _ rfl hb1 (fun h => absurd h (by decide))
            · intro σ W' hb hR' hF
              have h65 : σ 65 = _ := hR' 65 (by decide)
              have HB' := Lib.hid (bthen HB.out hb)
              have HD7' := Lib.hid (HD7.out.keep hb); have HD8' := Lib.hid (HD8.out.keep hb)
              replace x2 := bfree hb x0 x2; replace x3 := bfree hb x1 x3; replace x0 := bkeep hb x0; replace x1 := bkeep hb x1; replace t0 := bkeep hb t0
              clear hR' hF hb HB HD7 HD8
              simp only [fill, List.map, Act.put, List.setIfInBounds_toArray, List.set_cons_zero, List.set_cons_succ, List.length_cons, List.length_nil, List.drop_succ_cons, List.drop_zero, Nat.reduceAdd, h65]
              clear h65
              go_upto_region 14 with fail
              refine wp_gen (fun W => Below w.heap.size w W ∧ Duo W g7 (.string Z) (.int .i64 0) ∧ Duo W g8 (.string s1) (.int .i64 C) ∧ W.cell? ⟨bp, op + k * 2 + 1, none⟩ = some (.string T)) ⟨(HB'.out.setCell hg7 _).setCell hg7 _, HD7'.out.set _ _, (HD8'.out.far hne _ _).far hne _ _, ?_⟩ ?_
              · have hf : bp < w.heap.size := hL0 bp op rfl (by omega)
                rw [World.cell?_setCell_far _ _ _ _ (by show g7 ≠ bp; omega), World.cell?_setCell_far _ _ _ _ (by show g7 ≠ bp; omega)]
                exact t0
              clear HB' HD7' HD8' x0 x1 x2 x3 o0 t0
              rintro W2 ⟨hB, hD7, hD8, t0⟩
              have HB := Lib.hid hB; have HD7 := Lib.hid hD7; have HD8 := Lib.hid hD8
              obtain ⟨x0, x1, x2, x3⟩ := hD8
              clear hB hD7
              refine wp_loose [(66, []), (67, []), (68, []), (69, [67, 68]), (70, [69]), (71, [70]), (72, [71]), (73, [66, 72])]
                (Pl2R g8 bp op n cap k s1 T Z C) (fun d => false) (by kernel_rfl) (by kernel_rfl) (fun _ _ _ _ h hb => h.keep hb) ?_ ?_
              · refine opsrun_cons ?_ (opsrun_cons ?_ (opsrun_cons ?_ (opsrun_cons ?_ (opsrun_cons ?_ (opsrun_cons ?_ (opsrun_cons ?_ (opsrun_cons ?_ opsrun_nil)))))))
                all_goals
                  refine OpRuns.any ?_
                  intro Q0 σ W' K hb hn hK
                  simp only [fill, List.map, Act.put, List.setIfInBounds_toArray, List.set_cons_zero, List.set_cons_succ] at hK ⊢
                · clear hn
                  have x0' := bkeep hb x0
                  have x1' := bkeep hb x1
                  clear x0 x1
                  go_simp
                  exact hK _ _ rfl (Below.refl _ _) (fun h => absurd h (by decide))
                · clear hn
                  go_simp
                  exact hK _ _ rfl (Below.refl _ _) (fun h => absurd h (by decide))
                · clear hn
                  go_simp
                  exact hK _ _ rfl (Below.refl _ _) (fun h => absurd h (by decide))
                · have h67 : σ 67 = _ := hn 67 (by decide)
                  have h68 : σ 68 = _ := hn 68 (by decide)
                  clear hn
                  simp only [h67, h68] at hK
                  go_simp
                  exact hK _ _ rfl (Below.refl _ _) (fun h => absurd h (by decide))
                · have h69 : σ 69 = _ := hn 69 (by decide)
                  clear hn
                  simp only [h69] at hK
                  go_simp
                  exact hK _ _ rfl (Below.refl _ _) (fun h => absurd h (by decide))
                · have h70 : σ 70 = _ := hn 70 (by decide)
                  clear hn
                  simp only [h70] at hK
                  have t0' := bkeep hb t0
                  clear t0
                  go_simp
                  exact hK _ _ rfl (Below.refl _ _) (fun h => absurd h (by decide))
                · have h71 : σ 71 = _ := hn 71 (by decide)
                  clear hn
                  simp only [h71] at hK
                  go_simp
                  exact hK _ _ (StrL.new _ [T] 1 _ rfl (by decide)) ((Below.refl _ _).alloc (Nat.le_refl _) _) (fun h => absurd h (by decide))
                · have h66 : σ 66 = _ := hn 66 (by decide)
                  have p72 : StrL W' (σ 72) 1 [T] := hn 72 (by decide)
                  clear hn
                  simp only [h66] at hK
                  obtain ⟨b, e, hs⟩ := p72
                  simp only [e] at hK
                  go_simp
                  go_at_call 10
                  refine (kr _ b hs).mono ?_
                  rintro e w1 ⟨rfl, hb1⟩
                  exact hK _ _ rfl hb1 (fun h => absurd h (by decide))
              · intro σ W' hb hR' hF
                have h73 : σ 73 = _ := hR' 73 (by decide)
                have HB' := Lib.hid (bthen HB.out hb)
                have HD7' := Lib.hid (HD7.out.keep hb); have HD8' := Lib.hid (HD8.out.keep hb)
                replace x2 := bfree hb x0 x2; replace x3 := bfree hb x1 x3; replace x0 := bkeep hb x0; replace x1 := bkeep hb x1
                clear hR' hF hb HB HD7 HD8
                simp only [fill, List.map, Act.put, List.setIfInBounds_toArray, List.set_cons_zero, List.set_cons_succ, List.length_cons, List.length_nil, List.drop_succ_cons, List.drop_zero, Nat.reduceAdd, h73]
                clear h73
                go_upto_region 15 with fail
                refine wp_gen (fun W => Below w.heap.size w W ∧ Duo W g7 (.string Z) (.int .i64 0) ∧ Duo W g8 (.string Z) (.int .i64 0)) ⟨(HB'.out.setCell hg8 _).setCell hg8 _, (HD7'.out.far hne' _ _).far hne' _ _, HD8'.out.set _ _⟩ ?_
                clear HB' HD7' HD8' x0 x1 x2 x3 t0
                rintro W3 ⟨hB, hD7, hD8⟩
                have HB := Lib.hid hB; have HD7 := Lib.hid hD7; have HD8 := Lib.hid hD8
                obtain ⟨x0, x1, _, _⟩ := hD7
                obtain ⟨y0, y1, _, _⟩ := hD8
                clear hB
                go_wp2_with fail
                go_roundw
                case rel => exact ⟨k + 1, Z, 0, by omega, by go_num, HB.out, HD7.out, HD8.out, by omega, by decide⟩
                case measure => simp [intOf]; omega
      · obtain rfl : k = n := by omega
        have HB := Lib.hid hB
        clear hB hD7 hD8
        go_wp2_with (first
          | (go_at_call 6; (with_reducible refine (aw _ (HK.out _ _ HG0.out HB.out)).mono ?_); rintro e w1 ⟨rfl, hb⟩; replace HB := Lib.hid (bthen HB.out hb); clear hb)
          | (go_at_call 11; (with_reducible refine (n1 _ (HK.out _ _ HG0.out HB.out)).mono ?_); rintro e w1 ⟨rfl, hb⟩; replace HB := Lib.hid (bthen HB.out hb); clear hb)
          | (go_at_call 12; (with_reducible refine (n2 _).mono ?_); rintro e w1 ⟨rfl, hb⟩; replace HB := Lib.hid (bthen HB.out hb); clear hb))
        go_ret
        exact ⟨rfl, HB.out⟩
  · refine sexit_gen (fun W => Below w.heap.size w W ∧ Duo W (W1.heap.size + 1) (.string s) (.int .i64 c) ∧ Duo W (W1.heap.size) (.string s) (.int .i64 c)) ⟨by first | exact hb12 | exact hb12.drew, by simp [Duo, go_sem], by simp [Duo, go_sem]⟩ ?_
    obtain ⟨g7, hg7⟩ : ∃ g, W1.heap.size + 1 = g := ⟨_, rfl⟩
    obtain ⟨g8, hg8⟩ : ∃ g, W1.heap.size = g := ⟨_, rfl⟩
    rintro W2 ⟨hB, hD7, hD8⟩
    have hs1 := HB.out.size
    have hne : g7 ≠ g8 := by omega
    have hne' : g8 ≠ g7 := by omega
    have hg7' : w.heap.size ≤ g7 := by omega
    have hg8' : w.heap.size ≤ g8 := by omega
    simp only [hg7] at hD7 hD8 ⊢
    simp only [hg8] at hD7 hD8 ⊢
    clear hg7 hg8 HB hb12 hs1 z0 z1 hlt3
    have hg7 := hg7'
    have hg8 := hg8'
    clear hg7' hg8'
    go_upto_region 5 with fail
    go_loopw [9] (PlaysRel w g7 g8 n) (fun i _ => n - (intOf i).toNat)
    case atStart => exact ⟨0, s, c, Nat.zero_le _, rfl, hB, hD7, hD8, by omega, hc⟩
    case round =>
      clear hB hD7 hD8
      obtain ⟨k, s1, C, hk, rfl, hB, hD7, hD8, hz, hC⟩ := hrel
      by_cases hlt : k < n
      · have hlt' : (k : Int) < (n : Int) := by omega
        have hk0 : (0 : Int) ≤ (k : Int) := by omega
        obtain ⟨bp, op, rfl, o00, t00⟩ := HL.out.2 k hlt
        have o0 := bkeep hB o00
        have t0 := bkeep hB t00
        clear o00 t00
        have HB := Lib.hid hB; have HD7 := Lib.hid hD7; have HD8 := Lib.hid hD8
        have hts := HT.out k hlt
        clear hB hD7 hD8
        generalize t k = T at *
        generalize o k = O at *
        by_cases hT : (300 : Int) < (T.size : Int)
        · go_wp2_with (go_at_call 6; (with_reducible refine (aw _ (HK.out _ _ HG0.out HB.out)).mono ?_); rintro e w1 ⟨rfl, hb⟩; replace HB := Lib.hid (bthen HB.out hb); clear hb)
          go_ret
          exact ⟨rfl, HB.out⟩
        · go_upto_region 10 with fail
          cases O with
          | true =>
            have q1 := fun W hg => hAh.out.squeeze s1 C W (by omega) hC hg
            have q2 := fun W => rsqz_is s1 C W (by omega)
            have hC' := i64_wrap (C + 1)
            generalize sqB s1 C = X at *
            generalize IntKind.i64.wrap (C + 1) = C' at *
            obtain ⟨x0, x1, x2, x3⟩ := HD7.out
            go_upto_region 12 with (go_at_call 7; (with_reducible refine (q1 _ (HK.out _ _ HG0.out HB.out)).mono ?_); rintro e w1 ⟨rfl, hb⟩; replace x2 := bfree hb x0 x2; replace x3 := bfree hb x1 x3; replace x0 := bkeep hb x0; replace x1 := bkeep hb x1)
            refine wp_gen (fun W => Below w.heap.size w W ∧ Duo W g7 (.string s1) (.int .i64 C') ∧ Duo W g8 (.string s1) (.int .i64 C)) ⟨((bthen HB.out hb).setCell hg7 _).setCell hg7 _, (HD7.out.keep hb).set _ _, ((HD8.out.keep hb).far hne _ _).far hne _ _⟩ ?_
            clear HB HD7 HD8 x0 x1 x2 x3 hb o0 t0
            rintro W2 ⟨hB, hD7, hD8⟩
            have HB := Lib.hid hB; have HD7 := Lib.hid hD7; have HD8 := Lib.hid hD8
            obtain ⟨x0, x1, x2, x3⟩ := hD8
            clear hB hD7
            go_upto_region 15 with (go_at_call 8; (with_reducible refine (q2 _).mono ?_); rintro e w1 ⟨rfl, hb⟩; replace x2 := bfree hb x0 x2; replace x3 := bfree hb x1 x3; replace x0 := bkeep hb x0; replace x1 := bkeep hb x1)
            refine wp_gen (fun W => Below w.heap.size w W ∧ Duo W g7 (.string s1) (.int .i64 C') ∧ Duo W g8 (.string s1) (.int .i64 C')) ⟨((bthen HB.out hb).setCell hg8 _).setCell hg8 _, ((HD7.out.keep hb).far hne' _ _).far hne' _ _, (HD8.out.keep hb).set _ _⟩ ?_
            clear HB HD7 HD8 x0 x1 x2 x3 hb
            rintro W3 ⟨hB, hD7, hD8⟩
            have HB := Lib.hid hB; have HD7 := Lib.hid hD7; have HD8 := Lib.hid hD8
            obtain ⟨x0, x1, _, _⟩ := hD7
            obtain ⟨y0, y1, _, _⟩ := hD8
            clear hB
            go_wp2_with fail
            go_roundw
            case rel => exact ⟨k + 1, s1, C', by omega, by go_num, HB.out, HD7.out, HD8.out, hz, hC'⟩
            case measure => simp [intOf]; omega
          | false =>
            have ka := fun W b hs hg => absorb_L hAh.out s1 T C W b (by omega) (by omega) hs hg
            have kr := fun W b hs => rabs_L s1 T C W b (by omega) (by omega) hs
            have hzz := absB_size s1 T
            generalize absB s1 T = Z at *
            obtain ⟨x0, x1, x2, x3⟩ := HD7.out
            go_upto_region 13 with fail
            refine wp_loose [(58, []), (59, []), (60, []), (61, [59, 60]), (62, [61]), (63, [62]), (64, [63]), (65, [58, 64])]
              (Pl1R g7 bp op n cap k s1 T Z C) (fun d => false) (by kernel_rfl) (by kernel_rfl) (fun _ _ _ _ h hb => h.keep hb) ?_ ?_
            · refine opsrun_cons ?_ (opsrun_cons ?_ (opsrun_cons ?_ (opsrun_cons ?_ (opsrun_cons ?_ (opsrun_cons ?_ (opsrun_cons ?_ (opsrun_cons ?_ opsrun_nil)))))))
              all_goals
                refine OpRuns.any ?_
                intro Q0 σ W' K hb hn hK
                simp only [fill, List.map, Act.put, List.setIfInBounds_toArray, List.set_cons_zero, List.set_cons_succ] at hK ⊢
              · clear hn
                have x0' := bkeep hb x0
                have x1' := bkeep hb x1
                clear x0 x1
                go_simp
                exact hK _ _ rfl (Below.refl _ _) (fun h => absurd h (by decide))
              · clear hn
                go_simp
                exact hK _ _ rfl (Below.refl _ _) (fun h => absurd h (by decide))
              · clear hn
                go_simp
                exact hK _ _ rfl (Below.refl _ _) (fun h => absurd h (by decide))
              · have h59 : σ 59 = _ := hn 59 (by decide)
                have h60 : σ 60 = _ := hn 60 (by decide)
                clear hn
                simp only [h59, h60] at hK
                go_simp
                exact hK _ _ rfl (Below.refl _ _) (fun h => absurd h (by decide))
              · have h61 : σ 61 = _ := hn 61 (by decide)
                clear hn
                simp only [h61] at hK
                go_simp
                exact hK _ _ rfl (Below.refl _ _) (fun h => absurd h (by decide))
              · have h62 : σ 62 = _ := hn 62 (by decide)
                clear hn
                simp only [h62] at hK
                have t0' := bkeep hb t0
                clear t0
                go_simp
                exact hK _ _ rfl (Below.refl _ _) (fun h => absurd h (by decide))
              · have h63 : σ 63 = _ := hn 63 (by decide)
                clear hn
                simp only [h63] at hK
                go_simp
                exact hK _ _ (StrL.new _ [T] 1 _ rfl (by decide)) ((Below.refl _ _).alloc (Nat.le_refl _) _) (fun h => absurd h (by decide))
              · have h58 : σ 58 = _ := hn 58 (by decide)
                have p64 : StrL W' (σ 64) 1 [T] := hn 64 (by decide)
                clear hn
                simp only [h58] at hK
                obtain ⟨b, e, hs⟩ := p64
                simp only [e] at hK
                go_simp
                go_at_call 9
                refine (ka _ b hs (HK.out _ _ HG0.out (bthen HB.out hb))).mono ?_
                rintro e w1 ⟨rfl, hb1⟩
                exact hK _ _ rfl hb1 (fun h => absurd h (by decide))
            · intro σ W' hb hR' hF
              have h65 : σ 65 = _ := hR' 65 (by decide)
              have HB' := Lib.hid (bthen HB.out hb)
              have HD7' := Lib.hid (HD7.out.keep hb); have HD8' := Lib.hid (HD8.out.keep hb)
              replace x2 := bfree hb x0 x2; replace x3 := bfree hb x1 x3; replace x0 := bkeep hb x0; replace x1 := bkeep hb x1; replace t0 := bkeep hb t0
              clear hR' hF hb HB HD7 HD8
              simp only [fill, List.map, Act.put, List.setIfInBounds_toArray, List.set_cons_zero, List.set_cons_succ, List.length_cons, List.length_nil, List.drop_succ_cons, List.drop_zero, Nat.reduceAdd, h65]
              clear h65
              go_upto_region 14 with fail
              refine wp_gen (fun W => Below w.heap.size w W ∧ Duo W g7 (.string Z) (.int .i64 0) ∧ Duo W g8 (.string s1) (.int .i64 C) ∧ W.cell? ⟨bp, op + k * 2 + 1, none⟩ = some (.string T)) ⟨(HB'.out.setCell hg7 _).setCell hg7 _, HD7'.out.set _ _, (HD8'.out.far hne _ _).far hne _ _, ?_⟩ ?_
              · have hf : bp < w.heap.size := hL0 bp op rfl (by omega)
                rw [World.cell?_setCell_far _ _ _ _ (by show g7 ≠ bp; omega), World.cell?_setCell_far _ _ _ _ (by show g7 ≠ bp; omega)]
                exact t0
              clear HB' HD7' HD8' x0 x1 x2 x3 o0 t0
              rintro W2 ⟨hB, hD7, hD8, t0⟩
              have HB := Lib.hid hB; have HD7 := Lib.hid hD7; have HD8 := Lib.hid hD8
              obtain ⟨x0, x1, x2, x3⟩ := hD8
              clear hB hD7
              refine wp_loose [(66, []), (67, []), (68, []), (69, [67, 68]), (70, [69]), (71, [70]), (72, [71]), (73, [66, 72])]
                (Pl2R g8 bp op n cap k s1 T Z C) (fun d => false) (by kernel_rfl) (by kernel_rfl) (fun _ _ _ _ h hb => h.keep hb) ?_ ?_
              · refine opsrun_cons ?_ (opsrun_cons ?_ (opsrun_cons ?_ (opsrun_cons ?_ (opsrun_cons ?_ (opsrun_cons ?_ (opsrun_cons ?_ (opsrun_cons ?_ opsrun_nil)))))))
                all_goals
                  refine OpRuns.any ?_
                  intro Q0 σ W' K hb hn hK
                  simp only [fill, List.map, Act.put, List.setIfInBounds_toArray, List.set_cons_zero, List.set_cons_succ] at hK ⊢
                · clear hn
                  have x0' := bkeep hb x0
                  have x1' := bkeep hb x1
                  clear x0 x1
                  go_simp
                  exact hK _ _ rfl (Below.refl _ _) (fun h => absurd h (by decide))
                · clear hn
                  go_simp
                  exact hK _ _ rfl (Below.refl _ _) (fun h => absurd h (by decide))
                · clear hn
                  go_simp
                  exact hK _ _ rfl (Below.refl _ _) (fun h => absurd h (by decide))
                · have h67 : σ 67 = _ := hn 67 (by decide)
                  have h68 : σ 68 = _ := hn 68 (by decide)
                  clear hn
                  simp only [h67, h68] at hK
                  go_simp
                  exact hK _ _ rfl (Below.refl _ _) (fun h => absurd h (by decide))
                · have h69 : σ 69 = _ := hn 69 (by decide)
                  clear hn
                  simp only [h69] at hK
                  go_simp
                  exact hK _ _ rfl (Below.refl _ _) (fun h => absurd h (by decide))
                · have h70 : σ 70 = _ := hn 70 (by decide)
                  clear hn
                  simp only [h70] at hK
                  have t0' := bkeep hb t0
                  clear t0
                  go_simp
                  exact hK _ _ rfl (Below.refl _ _) (fun h => absurd h (by decide))
                · have h71 : σ 71 = _ := hn 71 (by decide)
                  clear hn
                  simp only [h71] at hK
                  go_simp
                  exact hK _ _ (StrL.new _ [T] 1 _ rfl (by decide)) ((Below.refl _ _).alloc (Nat.le_refl _) _) (fun h => absurd h (by decide))
                · have h66 : σ 66 = _ := hn 66 (by decide)
                  have p72 : StrL W' (σ 72) 1 [T] := hn 72 (by decide)
                  clear hn
                  simp only [h66] at hK
                  obtain ⟨b, e, hs⟩ := p72
                  simp only [e] at hK
                  go_simp
                  go_at_call 10
                  refine (kr _ b hs).mono ?_
                  rintro e w1 ⟨rfl, hb1⟩
                  exact hK _ _ rfl hb1 (fun h => absurd h (by decide))
              · intro σ W' hb hR' hF
                have h73 : σ 73 = _ := hR' 73 (by decide)
                have HB' := Lib.hid (bthen HB.out hb)
                have HD7' := Lib.hid (HD7.out.keep hb); have HD8' := Lib.hid (HD8.out.keep hb)
                replace x2 := bfree hb x0 x2; replace x3 := bfree hb x1 x3; replace x0 := bkeep hb x0; replace x1 := bkeep hb x1
                clear hR' hF hb HB HD7 HD8
                simp only [fill, List.map, Act.put, List.setIfInBounds_toArray, List.set_cons_zero, List.set_cons_succ, List.length_cons, List.length_nil, List.drop_succ_cons, List.drop_zero, Nat.reduceAdd, h73]
                clear h73
                go_upto_region 15 with fail
                refine wp_gen (fun W => Below w.heap.size w W ∧ Duo W g7 (.string Z) (.int .i64 0) ∧ Duo W g8 (.string Z) (.int .i64 0)) ⟨(HB'.out.setCell hg8 _).setCell hg8 _, (HD7'.out.far hne' _ _).far hne' _ _, HD8'.out.set _ _⟩ ?_
                clear HB' HD7' HD8' x0 x1 x2 x3 t0
                rintro W3 ⟨hB, hD7, hD8⟩
                have HB := Lib.hid hB; have HD7 := Lib.hid hD7; have HD8 := Lib.hid hD8
                obtain ⟨x0, x1, _, _⟩ := hD7
                obtain ⟨y0, y1, _, _⟩ := hD8
                clear hB
                go_wp2_with fail
                go_roundw
                case rel => exact ⟨k + 1, Z, 0, by omega, by go_num, HB.out, HD7.out, HD8.out, by omega, by decide⟩
                case measure => simp [intOf]; omega
      · obtain rfl : k = n := by omega
        have HB := Lib.hid hB
        clear hB hD7 hD8
        go_wp2_with (first
          | (go_at_call 6; (with_reducible refine (aw _ (HK.out _ _ HG0.out HB.out)).mono ?_); rintro e w1 ⟨rfl, hb⟩; replace HB := Lib.hid (bthen HB.out hb); clear hb)
          | (go_at_call 11; (with_reducible refine (n1 _ (HK.out _ _ HG0.out HB.out)).mono ?_); rintro e w1 ⟨rfl, hb⟩; replace HB := Lib.hid (bthen HB.out hb); clear hb)
          | (go_at_call 12; (with_reducible refine (n2 _).mono ?_); rintro e w1 ⟨rfl, hb⟩; replace HB := Lib.hid (bthen HB.out hb); clear hb))
        go_ret
        exact ⟨rfl, HB.out⟩
end Go.Proofs.YtbfbfpanhonieaaDoor
