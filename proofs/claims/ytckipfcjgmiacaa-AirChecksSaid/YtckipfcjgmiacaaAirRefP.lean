/-
  What the document's Parts, text and Print of layer 18 come to. (Written by gen_airprint.py.)
-/
import Derived.Test.YtckipfcjgmiacaaAirRefD
import Derived.Test.YtckipfcjgmiacaaGNum
import Derived.Test.YtckipfcjgmiacaaGOct
namespace Go.Proofs.Ytckipfcjgmiacaa
open Go Go.RowKit
set_option linter.unusedVariables false

theorem degMax_pos : ∀ (ls : List (List Opn)), 1 ≤ degMax ls := by
  have : ∀ (ls : List (List Opn)) (n : Nat), n ≤ ls.foldl (fun n l => max n (degO l)) n := by
    intro ls
    induction ls with
    | nil => intro n; exact Nat.le_refl _
    | cons l ls ih => intro n; have := ih (max n (degO l)); simp only [List.foldl_cons]; omega
  exact fun ls => this ls 1
theorem degMax_le {m : Nat} (hm : 1 ≤ m) : ∀ (ls : List (List Opn)), (∀ l ∈ ls, degO l ≤ m) → degMax ls ≤ m := by
  have : ∀ (ls : List (List Opn)) (n : Nat), n ≤ m → (∀ l ∈ ls, degO l ≤ m) → ls.foldl (fun n l => max n (degO l)) n ≤ m := by
    intro ls
    induction ls with
    | nil => intro n hn _; exact hn
    | cons l ls ih => intro n hn h; simp only [List.foldl_cons]; exact ih _ (by have := h l (by simp); omega) (fun x hx => h x (by simp [hx]))
  exact fun ls h => this ls 1 hm h
theorem AirP.degree_bd {A : AirP} (h : A.all.2 = 0) : 1 ≤ A.degree ∧ A.degree ≤ 4 := by
  refine ⟨degMax_pos _, degMax_le (by decide) _ fun l hl => ?_⟩
  obtain ⟨i, hi, rfl⟩ := List.getElem_of_mem hl
  obtain ⟨d, hd, h1, _⟩ := AirP.deg_ok h (i := i) (by rw [← AirP.all_len h]; exact hi)
  have e : A.all.1.getD i [] = A.all.1[i] := by simp [List.getD, hi]
  rw [e] at h1
  unfold degO
  rw [h1]
  exact hd
theorem raparts_is (A : AirP) (p : AirAt) (w : World) (hA : AirA w A p) (hk : OkAir A) (hf : FewAir A) (hr : A.all.2 = 0) : Calls Try.prog 20 #[A.val p] w fun e w' => e = .returned (.int .i64 (A.parts : Int)) ∧ Below w.heap.size w w' := by
  obtain ⟨h1, h4⟩ := AirP.degree_bd hr
  have kd := fun W (h : AirA W A p) => radegree_is A p W h hk hf hr
  have hp : A.parts = max 1 (A.degree - 1) := rfl
  have hm : max (1 : Int) ((A.degree : Int) - 1) = (A.parts : Int) := by rw [hp]; omega
  have hw : IntKind.i64.wrap ((A.degree : Int) - 1) = (A.degree : Int) - 1 := IntWalk.i64_in _ (by omega)
  clear hp
  generalize A.parts = q at *
  generalize A.degree = d at *
  have HA := Lib.hid hA
  clear hA hk hf hr
  go_enter Try.func20, Try.ntmps20
  go_upto_region 1 with fail
  refine wp_gen (fun W => Below w.heap.size w W ∧ AirC W w.heap.size A p) ⟨(Below.refl _ _).alloc (Nat.le_refl _) _, AirC.new _ _ _ _⟩ ?_
  obtain ⟨g, hg⟩ : ∃ g, w.heap.size = g := ⟨_, rfl⟩
  rintro w0 ⟨hB0, hC0⟩
  rw [hg] at hC0
  simp only [hg]
  have HA0 := Lib.hid (HA.out.keep hB0)
  have HB0 := Lib.hid hB0
  clear hB0 hg HA
  obtain ⟨x0, x1, x2, x3, x4⟩ := hC0
  go_wp2_with (go_at_call 18; (with_reducible refine (kd _ HA0.out).mono ?_); rintro e w1 ⟨rfl, hb⟩)
  go_ret
  exact ⟨rfl, bthen HB0.out hb⟩
theorem ratext_is (t : ByteArray) (z : ByteArray) (w : World) (ht : t.size ≤ 10000) (hz : textB t = z) : Calls Try.prog 39 #[.string t] w fun e w' => e = .returned (.string z) ∧ Below w.heap.size w w' := by
  have hu : IntKind.u64.wrap (t.size : Int) = (t.size : Int) := by rw [IntKind.wrap_u64]; omega
  have ke := fun W => reight_is (t.size : Int) (by unfold U; omega) W
  have hs := eightB_size (t.size : Int)
  subst hz
  unfold textB
  generalize eightB (t.size : Int) = E at *
  go_enter Try.func39, Try.ntmps39
  go_wp2_with (go_at_call 56; (with_reducible refine (ke _).mono ?_); rintro e w1 ⟨rfl, hb⟩)
  go_ret
  exact ⟨rfl, hb⟩
/-! ### Its bytes -/
section
variable {α : Type}
theorem addB_take (f : α → ByteArray) (s : ByteArray) (l : List α) (k : Nat) (d : α) (h : k < l.length) : addB f s (l.take (k + 1)) = addB f s (l.take k) ++ f (l.getD k d) := by
  rw [List.take_succ_eq_append_getElem h, addB_snoc]
  congr 2
  simp [List.getD, h]
theorem addB_size (f : α → ByteArray) (m : Nat) (s : ByteArray) : ∀ (l : List α), (∀ x ∈ l, (f x).size ≤ m) → (addB f s l).size ≤ s.size + m * l.length := by
  refine snoc_ind (fun _ => by show s.size ≤ _; omega) fun l x ih h => ?_
  rw [addB_snoc, ByteArray.size_append, List.length_append]
  have h1 := ih fun y hy => h y (by simp [hy])
  have h2 := h x (by simp)
  show _ ≤ s.size + m * (l.length + 1)
  rw [Nat.mul_succ]
  omega
end
theorem row_lit2 (W : World) (x y : Int) (t : TypeId) : RowA (W.alloc (.cells #[.int .u64 x, .int .u64 y] t)) (some ⟨W.heap.size, 0, none⟩) 2 [x, y] := by
  refine ⟨rfl, by unfold maxLen; omega, fun k hk => ⟨W.heap.size, 0, rfl, ?_⟩⟩
  have : k = 0 ∨ k = 1 := by omega
  rcases this with rfl | rfl <;> simp [go_sem]
theorem row_lit5 (W : World) (a b c d e : Int) (t : TypeId) : RowA (W.alloc (.cells #[.int .u64 a, .int .u64 b, .int .u64 c, .int .u64 d, .int .u64 e] t)) (some ⟨W.heap.size, 0, none⟩) 5 [a, b, c, d, e] := by
  refine ⟨rfl, by unfold maxLen; omega, fun k hk => ⟨W.heap.size, 0, rfl, ?_⟩⟩
  have : k = 0 ∨ k = 1 ∨ k = 2 ∨ k = 3 ∨ k = 4 := by omega
  rcases this with rfl | rfl | rfl | rfl | rfl <;> simp [go_sem]
theorem textB_size (t : ByteArray) : (textB t).size = 8 + t.size := by unfold textB; rw [ByteArray.size_append, eightB_size]
theorem placeB_size (b : Int × Int) : (placeB b).size = 16 := by unfold placeB; rw [rowB_size]; rfl
def TextRel18 (w0 : World) (S0 : ByteArray) (l : List ByteArray) (s i : Value) (W : World) : Prop := ∃ k : Nat, k ≤ l.length ∧ s = .string (addB textB S0 (l.take k)) ∧ i = .int .i64 k ∧ Below w0.heap.size w0 W
def PlaceRel18 (w0 : World) (S0 : ByteArray) (l : List (Int × Int)) (s i : Value) (W : World) : Prop := ∃ k : Nat, k ≤ l.length ∧ s = .string (addB placeB S0 (l.take k)) ∧ i = .int .i64 k ∧ Below w0.heap.size w0 W
def PrintR18 (g b o : Nat) (k x y : Int) (vb : Value) (s r : ByteArray) (sl : Nat) (v : Value) (W : World) : Prop :=
  match sl with
  | 64 => v = .string s
  | 65 => v = .pointer (some ⟨g, 4, none⟩)
  | 66 => v = vb
  | 67 => v = .int .i64 k
  | 68 => v = .pointer (some ⟨b, o, none⟩)
  | 69 => v = .pointer (some ⟨b, o, none⟩)
  | 70 => v = .int .i64 x
  | 71 => v = .int .u64 x
  | 72 => v = .pointer (some ⟨g, 4, none⟩)
  | 73 => v = vb
  | 74 => v = .int .i64 k
  | 75 => v = .pointer (some ⟨b, o, none⟩)
  | 76 => v = .pointer (some ⟨b, o + 1, none⟩)
  | 77 => v = .int .i64 y
  | 78 => v = .int .u64 y
  | 80 => v = .string r
  | 81 => v = .string (s ++ r)
  | _ => ∃ q : Nat, v = .slice (some ⟨q, 0, none⟩) 2 2 ∧ RowA W (some ⟨q, 0, none⟩) 2 [x, y]
theorem PrintR18.keep {g b o : Nat} {k x y : Int} {vb : Value} {s r : ByteArray} {sl : Nat} {v : Value} {W W' : World} (h : PrintR18 g b o k x y vb s r sl v W) (hb : Below W.heap.size W W') : PrintR18 g b o k x y vb s r sl v W' := by
  unfold PrintR18 at h ⊢
  split at h <;> first | exact h | (obtain ⟨q, h1, h2⟩ := h; exact ⟨q, h1, h2.keep hb⟩)
set_option maxRecDepth 100000 in
set_option maxHeartbeats 8000000 in
theorem raprint_is (A : AirP) (p : AirAt) (w : World) (hA : AirA w A p) (hk : OkAir A) (hr : A.check = 0) : Calls Try.prog 25 #[A.val p] w fun e w' => e = .returned (.string A.print) ∧ Below w.heap.size w w' := by
  obtain ⟨n1, n2, n3, n4, n5⟩ := AirP.check_ok hr
  have hall : A.all.2 = 0 := by rw [n3]; exact n4
  obtain ⟨t1, t2⟩ := AirP.text_size hall
  have hpl := AirP.place_bd hr
  have HPL := Lib.hid hpl
  have HT1 := Lib.hid t1; have HT2 := Lib.hid t2
  obtain ⟨l0, l1, l2⟩ := n1
  obtain ⟨c0, c1, c2, c3⟩ := n2
  have hsl : A.steps.length ≤ 8 := by omega
  obtain ⟨S0, hS0⟩ : ∃ S, rowB A.head = S := ⟨_, rfl⟩
  have hS0s : S0.size = 40 := by rw [← hS0, rowB_size]; rfl
  obtain ⟨S1, hS1⟩ : ∃ S, addB textB S0 A.steps = S := ⟨_, rfl⟩
  obtain ⟨S2, hS2⟩ : ∃ S, addB textB S1 A.rules = S := ⟨_, rfl⟩
  have hpr : A.print = addB placeB S2 A.bounds := by unfold AirP.print; rw [hS0, hS1, hS2]
  have hS1s : S1.size ≤ 40 + 2312 * 8 := by
    have := addB_size textB 2312 S0 A.steps (fun x hx => by rw [textB_size]; have := t1 x hx; omega)
    rw [hS1] at this
    omega
  have hS2s : S2.size ≤ 40 + 2312 * 24 := by
    have := addB_size textB 2312 S1 A.rules (fun x hx => by rw [textB_size]; have := t2 x hx; omega)
    rw [hS2] at this
    omega
  rw [hpr]
  have HSZ1 : Hid (S0.size + 2312 * A.steps.length ≤ 100000) := Lib.hid (by omega)
  have HSZ2 : Hid (S1.size + 2312 * A.rules.length ≤ 100000) := Lib.hid (by omega)
  have HE1 := Lib.hid hS1; have HE2 := Lib.hid hS2
  have HHEAD : Hid (A.head = [A.cols, A.log, A.steps.length, A.rules.length, A.bounds.length]) := Lib.hid rfl
  have w1 : IntKind.u64.wrap A.cols = A.cols := by rw [IntKind.wrap_u64]; omega
  have w2 : IntKind.u64.wrap A.log = A.log := by rw [IntKind.wrap_u64]; omega
  have w3 : IntKind.u64.wrap (A.steps.length : Int) = (A.steps.length : Int) := by rw [IntKind.wrap_u64]; omega
  have w4 : IntKind.u64.wrap (A.rules.length : Int) = (A.rules.length : Int) := by rw [IntKind.wrap_u64]; omega
  have w5 : IntKind.u64.wrap (A.bounds.length : Int) = (A.bounds.length : Int) := by rw [IntKind.wrap_u64]; omega
  have krow5 : ∀ W a, RowA W a 5 [A.cols, A.log, (A.steps.length : Int), (A.rules.length : Int), (A.bounds.length : Int)] → Calls Try.prog 38 #[.slice a 5 5] W fun e w' => e = .returned (.string S0) ∧ Below W.heap.size W w' := fun W a h => by
    rw [← hS0, HHEAD.out]
    exact rrow_is a 5 5 _ W h (by intro n hn; unfold U; simp at hn; omega) (by decide)
  have hbl : A.bounds.length ≤ 16 := l2
  have HA0' := Lib.hid hA
  clear hA hr n3 n4 n5 hall t1 t2 hpl hS0 hS1 hS2 hpr hk c2
  go_enter Try.func25, Try.ntmps25
  go_upto_region 1 with fail
  refine wp_gen (fun W => Below w.heap.size w W ∧ AirC W w.heap.size A p) ⟨(Below.refl _ _).alloc (Nat.le_refl _) _, AirC.new _ _ _ _⟩ ?_
  obtain ⟨g, hg⟩ : ∃ g, w.heap.size = g := ⟨_, rfl⟩
  rintro w0 ⟨hB0, hC0⟩
  rw [hg] at hC0
  simp only [hg]
  have HA0 := Lib.hid (HA0'.out.keep hB0)
  have HB0 := Lib.hid hB0
  have HC0 := Lib.hid hC0
  clear hB0 hg HA0'
  obtain ⟨x0, x1, x2, x3, x4⟩ := hC0
  go_upto_region 2 with (go_at_call 38; (with_reducible refine (krow5 _ _ (row_lit5 _ _ _ _ _ _ _)).mono ?_); rintro e w1' ⟨rfl, hb⟩)
  refine wp_gen (fun W => Below w0.heap.size w0 W) (bthen ((Below.refl _ _).alloc (Nat.le_refl _) _) hb) ?_
  clear hb krow5 w1 w2 w3 w4 w5 x0 x1 x2 x3 x4 HHEAD
  rintro ws hBs
  go_upto_region 3 with fail
  go_loopw [3, 4] (TextRel18 w0 S0 A.steps) (fun _ i _ => A.steps.length - (intOf i).toNat)
  case atStart => exact ⟨0, Nat.zero_le _, by rw [List.take_zero]; rfl, rfl, hBs⟩
  case round =>
    clear hBs
    obtain ⟨k, hk2, rfl, rfl, hB⟩ := hrel
    obtain ⟨x0, x1, x2, x3, x4⟩ := HC0.out.keep hB
    by_cases hlt : k < A.steps.length
    · have hltI : (k : Int) < (A.steps.length : Int) := by omega
      have hk0 : (0 : Int) ≤ (k : Int) := by omega
      obtain ⟨b, off, hpa, cs⟩ := ((HA0.out.keep hB).1).2 k hlt
      rw [hpa] at x2
      clear hpa
      have hmem := HT1.out _ (tx_mem hlt)
      have hS := addB_take textB S0 A.steps k noText hlt
      have hsz := addB_size textB 2312 S0 (A.steps.take k) (fun x hx => by rw [textB_size]; have := HT1.out x (List.mem_of_mem_take hx); omega)
      rw [List.length_take] at hsz
      have hszb : (addB textB S0 (A.steps.take k)).size ≤ 100000 := by have := HSZ1.out; omega
      have htd : A.steps.getD k noText = tx A.steps k := rfl
      rw [htd] at hS
      have HS := Lib.hid hS
      have kt := fun W => ratext_is (tx A.steps k) _ W (by omega) rfl
      have hts := textB_size (tx A.steps k)
      have HB := Lib.hid hB
      clear hB hS htd hsz
      generalize addB textB S0 (A.steps.take k) = sk at *
      generalize textB (tx A.steps k) = tk at *
      generalize tx A.steps k = T at *
      go_wp2_with (go_at_call 39; (with_reducible refine (kt _).mono ?_); rintro e w1 ⟨rfl, hb⟩)
      go_roundw
      case rel => exact ⟨k + 1, by omega, by rw [HS.out], by go_num, bthen HB.out hb⟩
      case measure => simp [intOf]; omega
    · obtain rfl : k = A.steps.length := by omega
      rw [List.take_length]
      rw [HE1.out]
      have hBs := hB
      go_upto_region 7 with fail
      clear hB x0 x1 x2 x3 x4
      go_loopw [3, 5] (TextRel18 w0 S1 A.rules) (fun _ i _ => A.rules.length - (intOf i).toNat)
      case atStart => exact ⟨0, Nat.zero_le _, by rw [List.take_zero]; rfl, rfl, hBs⟩
      case round =>
        clear hBs
        obtain ⟨k, hk2, rfl, rfl, hB⟩ := hrel
        obtain ⟨x0, x1, x2, x3, x4⟩ := HC0.out.keep hB
        by_cases hlt : k < A.rules.length
        · have hltI : (k : Int) < (A.rules.length : Int) := by omega
          have hk0 : (0 : Int) ≤ (k : Int) := by omega
          obtain ⟨b, off, hpa, cs⟩ := ((HA0.out.keep hB).2.1).2 k hlt
          rw [hpa] at x3
          clear hpa
          have hmem := HT2.out _ (tx_mem hlt)
          have hS := addB_take textB S1 A.rules k noText hlt
          have hsz := addB_size textB 2312 S1 (A.rules.take k) (fun x hx => by rw [textB_size]; have := HT2.out x (List.mem_of_mem_take hx); omega)
          rw [List.length_take] at hsz
          have hszb : (addB textB S1 (A.rules.take k)).size ≤ 100000 := by have := HSZ2.out; omega
          have htd : A.rules.getD k noText = tx A.rules k := rfl
          rw [htd] at hS
          have HS := Lib.hid hS
          have kt := fun W => ratext_is (tx A.rules k) _ W (by omega) rfl
          have hts := textB_size (tx A.rules k)
          have HB := Lib.hid hB
          clear hB hS htd hsz
          generalize addB textB S1 (A.rules.take k) = sk at *
          generalize textB (tx A.rules k) = tk at *
          generalize tx A.rules k = T at *
          go_wp2_with (go_at_call 39; (with_reducible refine (kt _).mono ?_); rintro e w1 ⟨rfl, hb⟩)
          go_roundw
          case rel => exact ⟨k + 1, by omega, by rw [HS.out], by go_num, bthen HB.out hb⟩
          case measure => simp [intOf]; omega
        · obtain rfl : k = A.rules.length := by omega
          rw [List.take_length]
          rw [HE2.out]
          have hBs := hB
          go_upto_region 11 with fail
          clear hB x0 x1 x2 x3 x4
          go_loopw [3, 6] (PlaceRel18 w0 S2 A.bounds) (fun _ i _ => A.bounds.length - (intOf i).toNat)
          case atStart => exact ⟨0, Nat.zero_le _, by rw [List.take_zero]; rfl, rfl, hBs⟩
          case round =>
            clear hBs
            obtain ⟨k, hk2, rfl, rfl, hB⟩ := hrel
            obtain ⟨x0, x1, x2, x3, x4⟩ := HC0.out.keep hB
            by_cases hlt : k < A.bounds.length
            · have hltI : (k : Int) < (A.bounds.length : Int) := by omega
              have hk0 : (0 : Int) ≤ (k : Int) := by omega
              obtain ⟨b, off, hpa, c0, c1⟩ := (HA0.out.keep hB).2.2.1.2.2 k hlt
              rw [hpa] at x4
              clear hpa
              have hmem := HPL.out (A.bounds.getD k (0, 0)) (by simp [List.getD, hlt])
              have hS := addB_take placeB S2 A.bounds k (0, 0) hlt
              have hsz := addB_size placeB 16 S2 (A.bounds.take k) (fun x hx => by rw [placeB_size]; exact Nat.le_refl _)
              rw [List.length_take] at hsz
              have hszb : (addB placeB S2 (A.bounds.take k)).size ≤ 100000 := by omega
              have HS := Lib.hid hS
              clear hS hsz
              generalize A.bounds.getD k (0, 0) = bk at *
              obtain ⟨x, y⟩ := bk
              dsimp only at c0 c1 hmem
              have hwx : IntKind.u64.wrap x = x := by rw [IntKind.wrap_u64]; omega
              have hwy : IntKind.u64.wrap y = y := by rw [IntKind.wrap_u64]; omega
              obtain ⟨r, hr⟩ : ∃ r, placeB (x, y) = r := ⟨_, rfl⟩
              have hrs : r.size = 16 := by rw [← hr, placeB_size]
              have krow : ∀ (W : World) (q : Nat), RowA W (some ⟨q, 0, none⟩) 2 [x, y] → Calls Try.prog 38 #[.slice (some ⟨q, 0, none⟩) 2 2] W fun e w' => e = .returned (.string r) ∧ Below W.heap.size W w' := fun W q h => by
                rw [← hr]
                exact rrow_is _ 2 2 _ W h (by intro n hn; unfold U; simp at hn; omega) (by decide)
              rw [hr] at HS
              have HB := Lib.hid hB
              clear hB hr hmem x0 x1 x2 x3
              generalize addB placeB S2 (A.bounds.take k) = s at *
              have hcat : ¬ 9223372036854775807 < s.size + r.size := by omega
              clear hrs
              go_upto_region 13 with fail
              refine wp_loose [(64, []), (65, []), (66, [65]), (67, []), (68, [66, 67]), (69, [68]), (70, [69]), (71, [70]), (72, []), (73, [72]), (74, []), (75, [73, 74]), (76, [75]), (77, [76]), (78, [77]), (79, [71, 78]), (80, [79]), (81, [64, 80])]
                (PrintR18 g b (off + k * 2) (k : Int) x y (.slice (some ⟨b, off, none⟩) A.bounds.length p.bc) s r) (fun d => false) (by kernel_rfl) (by kernel_rfl) (fun _ _ _ _ h hb => h.keep hb) ?_ ?_
              · refine opsrun_cons ?_ (opsrun_cons ?_ (opsrun_cons ?_ (opsrun_cons ?_ (opsrun_cons ?_ (opsrun_cons ?_ (opsrun_cons ?_ (opsrun_cons ?_ (opsrun_cons ?_ (opsrun_cons ?_ (opsrun_cons ?_ (opsrun_cons ?_ (opsrun_cons ?_ (opsrun_cons ?_ (opsrun_cons ?_ (opsrun_cons ?_ (opsrun_cons ?_ (opsrun_cons ?_ opsrun_nil)))))))))))))))))
                all_goals
                  refine OpRuns.any ?_
                  intro Q0 σ W' K hb hn hK
                  simp only [fill, List.map, Act.put, List.setIfInBounds_toArray, List.set_cons_zero, List.set_cons_succ] at hK ⊢
                · clear hn
                  go_simp
                  exact hK _ _ rfl (Below.refl _ _) (fun h => absurd h (by decide))
                · clear hn
                  go_simp
                  exact hK _ _ rfl (Below.refl _ _) (fun h => absurd h (by decide))
                · have h65 : σ 65 = _ := hn 65 (by decide)
                  clear hn
                  simp only [h65] at hK
                  have x4' := bkeep hb x4
                  clear x4
                  go_simp
                  exact hK _ _ rfl (Below.refl _ _) (fun h => absurd h (by decide))
                · clear hn
                  go_simp
                  exact hK _ _ rfl (Below.refl _ _) (fun h => absurd h (by decide))
                · have h66 : σ 66 = _ := hn 66 (by decide)
                  have h67 : σ 67 = _ := hn 67 (by decide)
                  clear hn
                  simp only [h66, h67] at hK
                  go_simp
                  exact hK _ _ rfl (Below.refl _ _) (fun h => absurd h (by decide))
                · have h68 : σ 68 = _ := hn 68 (by decide)
                  clear hn
                  simp only [h68] at hK
                  go_simp
                  exact hK _ _ rfl (Below.refl _ _) (fun h => absurd h (by decide))
                · have h69 : σ 69 = _ := hn 69 (by decide)
                  clear hn
                  simp only [h69] at hK
                  have c0' := bkeep hb c0
                  clear c0
                  go_simp
                  exact hK _ _ rfl (Below.refl _ _) (fun h => absurd h (by decide))
                · have h70 : σ 70 = _ := hn 70 (by decide)
                  clear hn
                  simp only [h70] at hK
                  go_simp
                  exact hK _ _ rfl (Below.refl _ _) (fun h => absurd h (by decide))
                · clear hn
                  go_simp
                  exact hK _ _ rfl (Below.refl _ _) (fun h => absurd h (by decide))
                · have h72 : σ 72 = _ := hn 72 (by decide)
                  clear hn
                  simp only [h72] at hK
                  have x4' := bkeep hb x4
                  clear x4
                  go_simp
                  exact hK _ _ rfl (Below.refl _ _) (fun h => absurd h (by decide))
                · clear hn
                  go_simp
                  exact hK _ _ rfl (Below.refl _ _) (fun h => absurd h (by decide))
                · have h73 : σ 73 = _ := hn 73 (by decide)
                  have h74 : σ 74 = _ := hn 74 (by decide)
                  clear hn
                  simp only [h73, h74] at hK
                  go_simp
                  exact hK _ _ rfl (Below.refl _ _) (fun h => absurd h (by decide))
                · have h75 : σ 75 = _ := hn 75 (by decide)
                  clear hn
                  simp only [h75] at hK
                  go_simp
                  exact hK _ _ rfl (Below.refl _ _) (fun h => absurd h (by decide))
                · have h76 : σ 76 = _ := hn 76 (by decide)
                  clear hn
                  simp only [h76] at hK
                  have c1' := bkeep hb c1
                  clear c1
                  go_simp
                  exact hK _ _ rfl (Below.refl _ _) (fun h => absurd h (by decide))
                · have h77 : σ 77 = _ := hn 77 (by decide)
                  clear hn
                  simp only [h77] at hK
                  go_simp
                  exact hK _ _ rfl (Below.refl _ _) (fun h => absurd h (by decide))
                · have h71 : σ 71 = _ := hn 71 (by decide)
                  have h78 : σ 78 = _ := hn 78 (by decide)
                  clear hn
                  simp only [h71, h78] at hK
                  go_simp
                  exact hK _ _ ⟨W'.heap.size, rfl, row_lit2 W' x y _⟩ ((Below.refl _ _).alloc (Nat.le_refl _) _) (fun h => absurd h (by decide))
                · have H79 := hn 79 (by decide)
                  clear hn
                  skip
                  obtain ⟨q, hq, hrow⟩ : ∃ q : Nat, σ 79 = .slice (some ⟨q, 0, none⟩) 2 2 ∧ RowA W' (some ⟨q, 0, none⟩) 2 [x, y] := H79
                  simp only [hq] at hK
                  have HROW := Lib.hid hrow
                  clear hrow
                  go_simp
                  go_at_call 38
                  with_reducible refine (krow _ _ HROW.out).mono ?_
                  rintro e w1 ⟨rfl, hb1⟩
                  exact hK _ _ rfl hb1 (fun h => absurd h (by decide))
                · have h64 : σ 64 = _ := hn 64 (by decide)
                  have h80 : σ 80 = _ := hn 80 (by decide)
                  clear hn
                  simp only [h64, h80] at hK
                  go_simp
                  exact hK _ _ rfl (Below.refl _ _) (fun h => absurd h (by decide))
              · intro σ W' hb hR' hF
                have h81 : σ 81 = .string (s ++ r) := hR' 81 (by decide)
                have HBW := Lib.hid (bthen HB.out hb)
                clear hR' hF hb krow c0 c1 x4
                simp only [fill, List.map, Act.put, List.setIfInBounds_toArray, List.set_cons_zero, List.set_cons_succ, List.length_cons, List.length_nil, List.drop_succ_cons, List.drop_zero, Nat.reduceAdd, h81]
                go_wp2_with fail
                go_roundw
                case rel => exact ⟨k + 1, by omega, by rw [HS.out], by go_num, HBW.out⟩
                case measure => simp [intOf]; omega
            · obtain rfl : k = A.bounds.length := by omega
              rw [List.take_length]
              have HBE := Lib.hid (bthen HB0.out hB)
              clear hB
              go_wp2_with fail
              go_ret
              exact ⟨rfl, HBE.out⟩
end Go.Proofs.Ytckipfcjgmiacaa
