/-
  Concat: slices.Concat: the cells of slices, one behind the other, in a row of its own. (Written by gen_concat.py.)
  AirPro1: The program's Size, Rules, Degree and Parts of layer 18.
  AirPro2: The program's rules of layer 18, and what stands on it: Rules, Degree, Parts.
  AirPro3: The program's Check of layer 18.
-/
import Derived.Test.YtjcgakmhpblanaaGShape
import Derived.Lib.AppendZerosOnto
import Derived.Lib.SliceRun
import Derived.Test.YtjcgakmhpblanaaGAirM
import Derived.Test.YtjcgakmhpblanaaGCode
import Derived.BigQuiet
namespace Go.Proofs.Ytjcgakmhpblanaa
open Go Go.RowKit
set_option linter.unusedVariables false

theorem run_append_none_any {P : Program} (w : World) (base : Nat) (t ty e : TypeId) (i : TypeInfo) (size : Nat) (ht : P.underlying t = some (.slice e)) (hi : P.info? e = some i)
    (v : Value) (n c : Nat) (xs : List Value) (hown : w.ownsRow base e size v n xs) : (Builtin.append_ #[t, t] ty #[v, .slice none 0 c]).run P w = .ok v w := by
  rcases hown.2 with ⟨rfl, rfl⟩ | ⟨g, cap, cur, rfl, _, _, hnc, _⟩
  · simp [Builtin.append_, run_underlying ht, sizeOf, typeInfo, hi, Builtin.lenOf, Builtin.firstCells]
  · simp [Builtin.append_, run_underlying ht, sizeOf, typeInfo, hi, Builtin.lenOf, Builtin.firstCells, hnc, storeCells]
/-- append of a whole slice, nil or not. -/
theorem wpList_append4 {P : Program} {w : World} {ops : Array Oper} {rest : List Oper} {o : Oper} {a : Act} {Q : Exit → Act → World → Prop} (hgd : o.guard = none) (s x : Operand) (t : TypeId)
    (ho : o.op = .call { callee := .builtin .append, args := #[s, x], argTypes := #[t, t] })
    (base : Nat) (e : TypeId) (i : TypeInfo) (z : Value) (size bytes : Nat) (ht : P.underlying t = some (.slice e)) (hi : P.info? e = some i) (hz : i.zero = some z)
    (hsize : i.size = size) (hby : i.bytes = bytes) (hzs : z.cells.size = size) (hsz : 0 < size)
    (v : Value) (n : Nat) (xs : List Value) (hs : a.eval s = v) (hown : w.ownsRow base e size v n xs)
    (ax : Option Addr) (m c : Nat) (news : List Value) (hx : a.eval x = .slice ax m c) (hl : news.length = m * size) (hm0 : ax = none → m = 0)
    (hnews : ∀ ad, ax = some ad → ∀ j u, news[j]? = some u → w.cell? (ad.add j) = some u) (h1 : ∀ u ∈ news, u.oneCell' = true)
    (h63 : n + m ≤ maxLen) (hbytes : (n + m) * bytes ≤ 140737488355328) (hbase : base ≤ w.heap.size)
    (h : ∀ v' w', w'.ownsRow base e size v' (n + m) (xs ++ news) → w.grownBy w' v.ownBlock → (v'.ownBlock = v.ownBlock ∨ v'.ownBlock = some w.heap.size) → wpList P ops Q rest (a.put o.dst v') w') : wpList P ops Q (o :: rest) a w := by
  cases ax with
  | some ad => exact wpList_append3 hgd s x t ho base e i z size bytes ht hi hz hsize hby hzs hsz v n xs hs hown (some ad) m c news hx hl (by simp) (by simp) hnews h1 h63 hbytes hbase h
  | none =>
    refine wpList_plain hgd fun K hK => ?_
    obtain rfl := hm0 rfl
    obtain rfl : news = [] := List.length_eq_zero_iff.1 (by simpa using hl)
    have hrun := run_append_none_any (P := P) w base t o.type e i size ht hi v n c xs hown
    unfold Oper.wp execOp
    simp only [ho, resolve, invoke, builtin, Sem.run_bind, Sem.run_pure, Result.andThen_ok, List.map_toArray, List.map_cons, List.map_nil, hs, hx, hrun]
    exact hK _ _ (h v w (by simpa using hown) (World.grownBy.refl _ _) (.inl rfl))
/-- A slice that comes in: where it lies, its length and room, its cells. -/
structure Srcd where
  a : Option Addr
  n : Nat
  c : Nat
  vs : List Value
def srcZ : Srcd := ⟨none, 0, 0, []⟩
structure SrcA (W : World) (s : Nat) (x : Srcd) : Prop where
  len : x.vs.length = x.n * s
  n0 : x.a = none → x.n = 0
  cells : ∀ ad, x.a = some ad → ∀ j u, x.vs[j]? = some u → W.cell? (ad.add j) = some u
  one : ∀ u ∈ x.vs, u.oneCell' = true
theorem SrcA.keep {W W' : World} {s : Nat} {x : Srcd} (h : SrcA W s x) (hb : Below W.heap.size W W') : SrcA W' s x := ⟨h.len, h.n0, fun ad e j u hu => bkeep hb (h.cells ad e j u hu), h.one⟩
def sumSrc (l : List Srcd) : Nat := (l.map (·.n)).sum
def catSrc (l : List Srcd) : List Value := l.flatMap (·.vs)
theorem take_snoc {α : Type} (l : List α) (d : α) (k : Nat) (h : k < l.length) : l.take (k + 1) = l.take k ++ [l.getD k d] := by
  rw [List.take_succ_eq_append_getElem h]
  simp [List.getD, h]
theorem sumSrc_take {l : List Srcd} {k : Nat} (h : k < l.length) : sumSrc (l.take (k + 1)) = sumSrc (l.take k) + (l.getD k srcZ).n := by
  rw [take_snoc l srcZ k h]; simp [sumSrc]
theorem catSrc_take {l : List Srcd} {k : Nat} (h : k < l.length) : catSrc (l.take (k + 1)) = catSrc (l.take k) ++ (l.getD k srcZ).vs := by
  rw [take_snoc l srcZ k h]; simp [catSrc]
theorem sumSrc_app (l m : List Srcd) : sumSrc (l ++ m) = sumSrc l + sumSrc m := by simp [sumSrc]
theorem sumSrc_le (l : List Srcd) (k : Nat) : sumSrc (l.take k) ≤ sumSrc l := by
  have h := congrArg sumSrc (List.take_append_drop k l)
  rw [sumSrc_app] at h
  omega
structure SrcRow (W : World) (s b : Nat) (L : List Srcd) : Prop where
  cell : ∀ k, k < L.length → W.cell? ⟨b, k, none⟩ = some (.slice (L.getD k srcZ).a (L.getD k srcZ).n (L.getD k srcZ).c)
  src : ∀ k, k < L.length → SrcA W s (L.getD k srcZ)
theorem SrcRow.keep {W W' : World} {s b : Nat} {L : List Srcd} (h : SrcRow W s b L) (hb : Below W.heap.size W W') : SrcRow W' s b L := ⟨fun k hk => bkeep hb (h.cell k hk), fun k hk => (h.src k hk).keep hb⟩
/-- A literal of slices. -/
theorem SrcRow.lit {w : World} {s : Nat} {L : List Srcd} {cs : Array Value} {T : TypeId} (h : ∀ k, k < L.length → SrcA w s (L.getD k srcZ)) (hc : cs.toList = L.map fun x => .slice x.a x.n x.c) : SrcRow (w.alloc (.cells cs T)) s w.heap.size L := by
  refine ⟨fun k hk => ?_, fun k hk => (h k hk).keep ((Below.refl _ _).alloc (Nat.le_refl _) _)⟩
  have e : cs[k]? = some (.slice (L.getD k srcZ).a (L.getD k srcZ).n (L.getD k srcZ).c) := by
    rw [← Array.getElem?_toList, hc, List.getElem?_map]
    simp [List.getD, hk]
  simp [go_sem, e]
theorem ctsinfo : (Try.prog.info? 9).map (fun i => (i.zero, i.size, i.bytes)) = some (some (.string ⟨#[]⟩), 1, 16) := by kernel_rfl
set_option maxHeartbeats 2000000 in
set_option maxRecDepth 100000 in
theorem ctsgrow_is (n : Nat) (w : World) (hn : n ≤ 1000000) : Calls Try.prog 78 #[.slice none 0 0, .int .i64 n] w fun e w' => Below w.heap.size w w' ∧ ∃ v, e = .returned v ∧ w'.ownsRow w.heap.size 9 1 v 0 [] := by
  obtain ⟨i0, hi, hz0, hz1, hz2⟩ := info_parts ctsinfo
  by_cases h0 : n = 0
  · subst h0
    go_enter Try.func78, Try.ntmps78
    go_wp2
    go_ret
    exact ⟨Below.refl _ _, _, rfl, World.ownsRow_nil _ _ _ _⟩
  have h1 : ¬ ((n : Int) < 0) := by omega
  have h4 : (n : Int) > 0 := by omega
  have hrz : ∀ ty, (Builtin.append_ #[22, 3] ty #[.slice none 0 0, .int .i64 (n : Int)]).run Try.prog w =
      .ok (.slice (some ⟨w.heap.size, 0, none⟩) n (grownCap w n 0 9)) (w.drew.alloc (.cells (([] : List Value).toArray ++ Builtin.zeroCells (Value.cells (.string ⟨#[]⟩)) n ++ Builtin.zeroCells (Value.cells (.string ⟨#[]⟩)) (grownCap w n 0 9 - n)) 9)) := fun ty => by
    have h := Lib.run_append_grow_zeros w 22 3 ty 9 i0 (.string ⟨#[]⟩) .i64 .i64 Try.underlying22 Try.underlying3 hi hz0 none 0 0 [] (run_firstCells_none w.drew i0.size 0 0 0) n (by omega) (by omega) (by omega) (by omega) (by rw [hz2]; omega)
      (by rw [Nat.zero_add]; exact growslice_fits (by omega) (by rw [hz2]; omega))
    rw [Nat.zero_add] at h
    exact h
  have hGn : n ≤ grownCap w n 0 9 := grownCap_ge w _ _ _
  have hGm := grownCap_le_maxLen w n 0 9 (by unfold maxLen; omega)
  obtain ⟨G, hG⟩ : ∃ G, G = grownCap w n 0 9 := ⟨_, rfl⟩
  rw [← hG] at hrz hGn hGm
  clear hG
  have HOWN : Hid ((w.drew.alloc (.cells (([] : List Value).toArray ++ Builtin.zeroCells (Value.cells (.string ⟨#[]⟩)) n ++ Builtin.zeroCells (Value.cells (.string ⟨#[]⟩)) (G - n)) 9)).ownsRow w.heap.size 9 1 (.slice (some ⟨w.heap.size, 0, none⟩) 0 G) 0 []) := Lib.hid ⟨rfl, .inr ⟨w.heap.size, G, _, rfl, Nat.le_refl _, by have := heap_alloc_new w.drew (.cells (([] : List Value).toArray ++ Builtin.zeroCells (Value.cells (.string ⟨#[]⟩)) n ++ Builtin.zeroCells (Value.cells (.string ⟨#[]⟩)) (G - n)) 9); exact this, Nat.zero_le _, hGm, by
    simp only [Array.size_append, size_zeroCells, List.size_toArray, List.length_nil]
    show 0 + n * 1 + (G - n) * 1 = G * 1
    omega, by simp⟩⟩
  have hB : Hid (∀ o, Below w.heap.size w (w.drew.alloc o)) := Lib.hid fun o => (Below.drew (Below.refl _ _)).alloc (Nat.le_refl _) o
  have hG63 : G ≤ 9223372036854775807 := by unfold maxLen at hGm; omega
  clear hi hz0 hz1 hz2 hGm
  obtain ⟨C, hC⟩ : ∃ C, (([] : List Value).toArray ++ Builtin.zeroCells (Value.cells (.string ⟨#[]⟩)) n ++ Builtin.zeroCells (Value.cells (.string ⟨#[]⟩)) (G - n)) = C := ⟨_, rfl⟩
  rw [hC] at HOWN
  simp only [hC] at hrz
  clear hC
  go_enter Try.func78, Try.ntmps78
  go_wp2_with (at_builtin; refine Lib.wpList_append_run _ rfl _ _ _ _ rfl _ _ rfl rfl _ _ (hrz _) ?_)
  all_goals (go_ret; exact ⟨hB.out _, _, rfl, HOWN.out⟩)
def ctsCatSum (w : World) (L : List Srcd) (acc i : Value) (W : World) : Prop := ∃ k : Nat, k ≤ L.length ∧ i = .int .i64 k ∧ acc = .int .i64 (sumSrc (L.take k) : Nat) ∧ W = w
def ctsCatRel (w : World) (L : List Srcd) (v i : Value) (W : World) : Prop := ∃ k : Nat, k ≤ L.length ∧ i = .int .i64 k ∧ Below w.heap.size w W ∧ W.ownsRow w.heap.size 9 1 v (sumSrc (L.take k)) (catSrc (L.take k))
set_option maxHeartbeats 4000000 in
set_option maxRecDepth 100000 in
theorem ctsconcat_is (b cap : Nat) (L : List Srcd) (w : World) (h : SrcRow w 1 b L) (hl : L.length ≤ 1000) (hs : sumSrc L ≤ 1000000) :
    Calls Try.prog 65 #[.slice (some ⟨b, 0, none⟩) L.length cap] w fun e w' => Below w.heap.size w w' ∧ ∃ v, e = .returned v ∧ w'.ownsRow w.heap.size 9 1 v (sumSrc L) (catSrc L) := by
  obtain ⟨i0, hi, hz0, hz1, hz2⟩ := info_parts ctsinfo
  have H := Lib.hid h
  clear h
  go_enter Try.func65, Try.ntmps65
  go_upto_region 3 with fail
  go_loopw [3, 11] (ctsCatSum w L) (fun _ i _ => L.length - (intOf i).toNat)
  case atStart => exact ⟨0, Nat.zero_le _, rfl, rfl, rfl⟩
  case round =>
    obtain ⟨k, hk, rfl, rfl, hW⟩ := hrel
    subst wr
    by_cases hlt : k < L.length
    · have hltI : (k : Int) < (L.length : Int) := by omega
      have hk0 : (0 : Int) ≤ (k : Int) := by omega
      have c := H.out.cell k hlt
      have hS := sumSrc_take hlt
      have hle := sumSrc_le L (k + 1)
      obtain ⟨S1, hS1⟩ : ∃ S, sumSrc (L.take (k + 1)) = S := ⟨_, rfl⟩
      have HS1 := Lib.hid hS1
      rw [hS1] at hS hle
      clear hS1
      generalize sumSrc (L.take k) = S0 at *
      generalize (L.getD k srcZ) = x at *
      obtain ⟨xa, xn, xc, xv⟩ := x
      dsimp only at c hS
      have hneg : ¬ ((S0 : Int) + (xn : Int) < 0) := by omega
      have hw : wrap64 ((S0 : Int) + (xn : Int)) = (S0 : Int) + (xn : Int) := by unfold wrap64; omega
      have HN := Lib.hid (show ((S1 : Nat) : Int) = (S0 : Int) + (xn : Int) by omega)
      clear hS
      go_wp2
      go_roundw
      case rel => exact ⟨k + 1, by omega, by go_num, by rw [HS1.out, HN.out, hw], rfl⟩
      case measure => simp [intOf]; omega
    · obtain rfl : k = L.length := by omega
      rw [List.take_length]
      have kg := ctsgrow_is (sumSrc L) w hs
      have HS := Lib.hid hs
      generalize hSL : sumSrc L = S at *
      have HSL := Lib.hid hSL
      clear hSL
      go_upto_region 11 with (go_at_call 78; (with_reducible refine kg.mono ?_); rintro e w1 ⟨hb, v, rfl, hown⟩; obtain ⟨a0, c0, rfl⟩ := own_form hown)
      have HB := Lib.hid hb; have HO := Lib.hid hown
      clear hb hown kg hk hlt
      go_loopw [6, 27] (ctsCatRel w L) (fun _ i _ => L.length - (intOf i).toNat)
      case atStart => exact ⟨0, Nat.zero_le _, rfl, HB.out, HO.out⟩
      case round =>
        clear HB HO
        obtain ⟨k, hk, rfl, hb, hown⟩ := hrel
        obtain ⟨av, cv, rfl⟩ := own_form hown
        by_cases hlt : k < L.length
        · have hltI : (k : Int) < (L.length : Int) := by omega
          have hk0 : (0 : Int) ≤ (k : Int) := by omega
          have H2 := H.out.keep hb
          have c := H2.cell k hlt
          have HX := Lib.hid (H2.src k hlt)
          have hS := sumSrc_take hlt
          have hle := sumSrc_le L (k + 1)
          have HC := Lib.hid (catSrc_take hlt)
          have hsz := hb.size
          have HB := Lib.hid hb; have HO := Lib.hid hown
          rw [HSL.out] at hle
          have hS2 := HS.out
          have HSS := Lib.hid hS
          rw [hS] at hle
          clear hS hb hown H2
          generalize sumSrc (L.take k) = S0 at *
          generalize (L.getD k srcZ) = x at *
          obtain ⟨xa, xn, xc, xv⟩ := x
          dsimp only at c hle
          go_wp2_with (at_builtin; refine wpList_append4 rfl _ _ 22 rfl w.heap.size 9 i0 (.string ⟨#[]⟩) 1 16 Try.underlying22 hi hz0 hz1 hz2 rfl (by decide) _ _ _ rfl HO.out xa xn xc xv rfl HX.out.len HX.out.n0 HX.out.cells HX.out.one (by unfold maxLen; omega) (by omega) hsz ?_; intro v2 w2 q1 q2 _; obtain ⟨a2, c2, rfl⟩ := own_form q1; have HB2 := Lib.hid (own_row_below HO.out HB.out q2 (Nat.le_refl _) HB.out.size); have HO2 := Lib.hid q1; clear q1 q2)
          go_roundw
          case rel => exact ⟨k + 1, by omega, by go_num, HB2.out, by rw [HSS.out, HC.out]; exact HO2.out⟩
          case measure => simp [intOf]; omega
        · obtain rfl : k = L.length := by omega
          rw [List.take_length, HSL.out] at hown ⊢
          have HB := Lib.hid hb; have HO := Lib.hid hown
          clear hb hown
          go_wp2
          go_ret
          exact ⟨HB.out, _, rfl, HSL.out ▸ HO.out⟩
theorem ctoinfo : (Try.prog.info? 66).map (fun i => (i.zero, i.size, i.bytes)) = some (some (.agg #[.int .i64 0, .int .u64 0]), 2, 16) := by kernel_rfl
set_option maxHeartbeats 2000000 in
set_option maxRecDepth 100000 in
theorem ctogrow_is (n : Nat) (w : World) (hn : n ≤ 1000000) : Calls Try.prog 85 #[.slice none 0 0, .int .i64 n] w fun e w' => Below w.heap.size w w' ∧ ∃ v, e = .returned v ∧ w'.ownsRow w.heap.size 66 2 v 0 [] := by
  obtain ⟨i0, hi, hz0, hz1, hz2⟩ := info_parts ctoinfo
  by_cases h0 : n = 0
  · subst h0
    go_enter Try.func85, Try.ntmps85
    go_wp2
    go_ret
    exact ⟨Below.refl _ _, _, rfl, World.ownsRow_nil _ _ _ _⟩
  have h1 : ¬ ((n : Int) < 0) := by omega
  have h4 : (n : Int) > 0 := by omega
  have hrz : ∀ ty, (Builtin.append_ #[48, 3] ty #[.slice none 0 0, .int .i64 (n : Int)]).run Try.prog w =
      .ok (.slice (some ⟨w.heap.size, 0, none⟩) n (grownCap w n 0 66)) (w.drew.alloc (.cells (([] : List Value).toArray ++ Builtin.zeroCells (Value.cells (.agg #[.int .i64 0, .int .u64 0])) n ++ Builtin.zeroCells (Value.cells (.agg #[.int .i64 0, .int .u64 0])) (grownCap w n 0 66 - n)) 66)) := fun ty => by
    have h := Lib.run_append_grow_zeros w 48 3 ty 66 i0 (.agg #[.int .i64 0, .int .u64 0]) .i64 .i64 Try.underlying48 Try.underlying3 hi hz0 none 0 0 [] (run_firstCells_none w.drew i0.size 0 0 0) n (by omega) (by omega) (by omega) (by omega) (by rw [hz2]; omega)
      (by rw [Nat.zero_add]; exact growslice_fits (by omega) (by rw [hz2]; omega))
    rw [Nat.zero_add] at h
    exact h
  have hGn : n ≤ grownCap w n 0 66 := grownCap_ge w _ _ _
  have hGm := grownCap_le_maxLen w n 0 66 (by unfold maxLen; omega)
  obtain ⟨G, hG⟩ : ∃ G, G = grownCap w n 0 66 := ⟨_, rfl⟩
  rw [← hG] at hrz hGn hGm
  clear hG
  have HOWN : Hid ((w.drew.alloc (.cells (([] : List Value).toArray ++ Builtin.zeroCells (Value.cells (.agg #[.int .i64 0, .int .u64 0])) n ++ Builtin.zeroCells (Value.cells (.agg #[.int .i64 0, .int .u64 0])) (G - n)) 66)).ownsRow w.heap.size 66 2 (.slice (some ⟨w.heap.size, 0, none⟩) 0 G) 0 []) := Lib.hid ⟨rfl, .inr ⟨w.heap.size, G, _, rfl, Nat.le_refl _, by have := heap_alloc_new w.drew (.cells (([] : List Value).toArray ++ Builtin.zeroCells (Value.cells (.agg #[.int .i64 0, .int .u64 0])) n ++ Builtin.zeroCells (Value.cells (.agg #[.int .i64 0, .int .u64 0])) (G - n)) 66); exact this, Nat.zero_le _, hGm, by
    simp only [Array.size_append, size_zeroCells, List.size_toArray, List.length_nil]
    show 0 + n * 2 + (G - n) * 2 = G * 2
    omega, by simp⟩⟩
  have hB : Hid (∀ o, Below w.heap.size w (w.drew.alloc o)) := Lib.hid fun o => (Below.drew (Below.refl _ _)).alloc (Nat.le_refl _) o
  have hG63 : G ≤ 9223372036854775807 := by unfold maxLen at hGm; omega
  clear hi hz0 hz1 hz2 hGm
  obtain ⟨C, hC⟩ : ∃ C, (([] : List Value).toArray ++ Builtin.zeroCells (Value.cells (.agg #[.int .i64 0, .int .u64 0])) n ++ Builtin.zeroCells (Value.cells (.agg #[.int .i64 0, .int .u64 0])) (G - n)) = C := ⟨_, rfl⟩
  rw [hC] at HOWN
  simp only [hC] at hrz
  clear hC
  go_enter Try.func85, Try.ntmps85
  go_wp2_with (at_builtin; refine Lib.wpList_append_run _ rfl _ _ _ _ rfl _ _ rfl rfl _ _ (hrz _) ?_)
  all_goals (go_ret; exact ⟨hB.out _, _, rfl, HOWN.out⟩)
def ctoCatSum (w : World) (L : List Srcd) (acc i : Value) (W : World) : Prop := ∃ k : Nat, k ≤ L.length ∧ i = .int .i64 k ∧ acc = .int .i64 (sumSrc (L.take k) : Nat) ∧ W = w
def ctoCatRel (w : World) (L : List Srcd) (v i : Value) (W : World) : Prop := ∃ k : Nat, k ≤ L.length ∧ i = .int .i64 k ∧ Below w.heap.size w W ∧ W.ownsRow w.heap.size 66 2 v (sumSrc (L.take k)) (catSrc (L.take k))
set_option maxHeartbeats 4000000 in
set_option maxRecDepth 100000 in
theorem ctoconcat_is (b cap : Nat) (L : List Srcd) (w : World) (h : SrcRow w 2 b L) (hl : L.length ≤ 1000) (hs : sumSrc L ≤ 1000000) :
    Calls Try.prog 80 #[.slice (some ⟨b, 0, none⟩) L.length cap] w fun e w' => Below w.heap.size w w' ∧ ∃ v, e = .returned v ∧ w'.ownsRow w.heap.size 66 2 v (sumSrc L) (catSrc L) := by
  obtain ⟨i0, hi, hz0, hz1, hz2⟩ := info_parts ctoinfo
  have H := Lib.hid h
  clear h
  go_enter Try.func80, Try.ntmps80
  go_upto_region 3 with fail
  go_loopw [3, 11] (ctoCatSum w L) (fun _ i _ => L.length - (intOf i).toNat)
  case atStart => exact ⟨0, Nat.zero_le _, rfl, rfl, rfl⟩
  case round =>
    obtain ⟨k, hk, rfl, rfl, hW⟩ := hrel
    subst wr
    by_cases hlt : k < L.length
    · have hltI : (k : Int) < (L.length : Int) := by omega
      have hk0 : (0 : Int) ≤ (k : Int) := by omega
      have c := H.out.cell k hlt
      have hS := sumSrc_take hlt
      have hle := sumSrc_le L (k + 1)
      obtain ⟨S1, hS1⟩ : ∃ S, sumSrc (L.take (k + 1)) = S := ⟨_, rfl⟩
      have HS1 := Lib.hid hS1
      rw [hS1] at hS hle
      clear hS1
      generalize sumSrc (L.take k) = S0 at *
      generalize (L.getD k srcZ) = x at *
      obtain ⟨xa, xn, xc, xv⟩ := x
      dsimp only at c hS
      have hneg : ¬ ((S0 : Int) + (xn : Int) < 0) := by omega
      have hw : wrap64 ((S0 : Int) + (xn : Int)) = (S0 : Int) + (xn : Int) := by unfold wrap64; omega
      have HN := Lib.hid (show ((S1 : Nat) : Int) = (S0 : Int) + (xn : Int) by omega)
      clear hS
      go_wp2
      go_roundw
      case rel => exact ⟨k + 1, by omega, by go_num, by rw [HS1.out, HN.out, hw], rfl⟩
      case measure => simp [intOf]; omega
    · obtain rfl : k = L.length := by omega
      rw [List.take_length]
      have kg := ctogrow_is (sumSrc L) w hs
      have HS := Lib.hid hs
      generalize hSL : sumSrc L = S at *
      have HSL := Lib.hid hSL
      clear hSL
      go_upto_region 11 with (go_at_call 85; (with_reducible refine kg.mono ?_); rintro e w1 ⟨hb, v, rfl, hown⟩; obtain ⟨a0, c0, rfl⟩ := own_form hown)
      have HB := Lib.hid hb; have HO := Lib.hid hown
      clear hb hown kg hk hlt
      go_loopw [6, 27] (ctoCatRel w L) (fun _ i _ => L.length - (intOf i).toNat)
      case atStart => exact ⟨0, Nat.zero_le _, rfl, HB.out, HO.out⟩
      case round =>
        clear HB HO
        obtain ⟨k, hk, rfl, hb, hown⟩ := hrel
        obtain ⟨av, cv, rfl⟩ := own_form hown
        by_cases hlt : k < L.length
        · have hltI : (k : Int) < (L.length : Int) := by omega
          have hk0 : (0 : Int) ≤ (k : Int) := by omega
          have H2 := H.out.keep hb
          have c := H2.cell k hlt
          have HX := Lib.hid (H2.src k hlt)
          have hS := sumSrc_take hlt
          have hle := sumSrc_le L (k + 1)
          have HC := Lib.hid (catSrc_take hlt)
          have hsz := hb.size
          have HB := Lib.hid hb; have HO := Lib.hid hown
          rw [HSL.out] at hle
          have hS2 := HS.out
          have HSS := Lib.hid hS
          rw [hS] at hle
          clear hS hb hown H2
          generalize sumSrc (L.take k) = S0 at *
          generalize (L.getD k srcZ) = x at *
          obtain ⟨xa, xn, xc, xv⟩ := x
          dsimp only at c hle
          go_wp2_with (at_builtin; refine wpList_append4 rfl _ _ 48 rfl w.heap.size 66 i0 (.agg #[.int .i64 0, .int .u64 0]) 2 16 Try.underlying48 hi hz0 hz1 hz2 rfl (by decide) _ _ _ rfl HO.out xa xn xc xv rfl HX.out.len HX.out.n0 HX.out.cells HX.out.one (by unfold maxLen; omega) (by omega) hsz ?_; intro v2 w2 q1 q2 _; obtain ⟨a2, c2, rfl⟩ := own_form q1; have HB2 := Lib.hid (own_row_below HO.out HB.out q2 (Nat.le_refl _) HB.out.size); have HO2 := Lib.hid q1; clear q1 q2)
          go_roundw
          case rel => exact ⟨k + 1, by omega, by go_num, HB2.out, by rw [HSS.out, HC.out]; exact HO2.out⟩
          case measure => simp [intOf]; omega
        · obtain rfl : k = L.length := by omega
          rw [List.take_length, HSL.out] at hown ⊢
          have HB := Lib.hid hb; have HO := Lib.hid hown
          clear hb hown
          go_wp2
          go_ret
          exact ⟨HB.out, _, rfl, HSL.out ▸ HO.out⟩
end Go.Proofs.Ytjcgakmhpblanaa
namespace Go.Proofs.Ytjcgakmhpblanaa
open Go Go.RowKit
set_option linter.unusedVariables false

theorem pasize_any (c l : Int) (sa : Option Addr) (sn sc : Nat) (ra : Option Addr) (rn rc : Nat) (ba : Option Addr) (bn bc : Nat) (w : World) (hl : 0 ≤ l ∧ l ≤ 62) :
    Calls Try.prog 27 #[.agg #[.int .i64 c, .int .i64 l, .slice sa sn sc, .slice ra rn rc, .slice ba bn bc]] w fun e w' => e = .returned (.int .i64 ((2 ^ l.toNat : Nat) : Int)) ∧ Below w.heap.size w w' := by
  obtain ⟨K, rfl⟩ := Int.eq_ofNat_of_zero_le hl.1
  have e1 := wrapi_62 (k := K) (by omega)
  rw [Int.toNat_natCast]
  have hneg : ¬ (K : Int) < 0 := by omega
  have hb := (Below.refl w.heap.size w).alloc (Nat.le_refl _)
  generalize ((2 ^ K : Nat) : Int) = M at *
  go_enter Try.func27, Try.ntmps27
  go_wp2
  go_ret
  exact ⟨rfl, hb _⟩
theorem pasize_is (A : AirP) (p : AirAt) (w : World) (hn : A.near) : Calls Try.prog 27 #[A.val p] w fun e w' => e = .returned (.int .i64 A.size) ∧ Below w.heap.size w w' :=
  pasize_any _ _ _ _ _ _ _ _ _ _ _ w ⟨hn.1, by have := hn.2.1; omega⟩
set_option maxHeartbeats 4000000 in
theorem pacount_is (A : AirP) (p : AirAt) (r : Bool) (w : World) (hr : decide A.fits = r) : Calls Try.prog 64 #[A.val p] w fun e w' => e = .returned (.bool r) ∧ Below w.heap.size w w' := by
  have hb := (Below.refl w.heap.size w).alloc (Nat.le_refl _)
  have hno : ¬ A.fits → r = false := fun h => by rw [← hr]; exact decide_eq_false h
  have hyes : A.fits → r = true := fun h => by rw [← hr]; exact decide_eq_true h
  clear hr
  by_cases h1 : 1 ≤ A.cols
  case neg =>
    obtain rfl := hno (fun h => h1 h.1)
    clear hno hyes
    go_enter Try.func64, Try.ntmps64
    go_wp2
    go_ret
    exact ⟨rfl, hb _⟩
  by_cases h2 : A.cols ≤ 8
  case neg =>
    obtain rfl := hno (fun h => h2 h.2.1)
    clear hno hyes
    go_enter Try.func64, Try.ntmps64
    go_wp2
    go_ret
    exact ⟨rfl, hb _⟩
  by_cases h3 : (A.steps.length : Int) = 0
  · by_cases h4 : (A.rules.length : Int) ≤ 16
    · obtain rfl := hyes ⟨h1, h2, .inl (by omega), by omega⟩
      clear hno hyes
      go_enter Try.func64, Try.ntmps64
      go_wp2
      go_ret
      exact ⟨rfl, hb _⟩
    · obtain rfl := hno (fun h => h4 (by have := h.2.2.2; omega))
      clear hno hyes
      go_enter Try.func64, Try.ntmps64
      go_wp2
      go_ret
      exact ⟨rfl, hb _⟩
  · have h3b : ((A.steps.length : Int) == 0) = false := by simpa using h3
    by_cases h5 : (A.steps.length : Int) = A.cols
    · have h5b : ((A.steps.length : Int) == A.cols) = true := by simpa using h5
      by_cases h4 : (A.rules.length : Int) ≤ 16
      · obtain rfl := hyes ⟨h1, h2, .inr h5, by omega⟩
        clear hno hyes h5
        go_enter Try.func64, Try.ntmps64
        go_wp2
        go_ret
        exact ⟨rfl, hb _⟩
      · obtain rfl := hno (fun h => h4 (by have := h.2.2.2; omega))
        clear hno hyes h5
        go_enter Try.func64, Try.ntmps64
        go_wp2
        go_ret
        exact ⟨rfl, hb _⟩
    · have h5b : ((A.steps.length : Int) == A.cols) = false := by simpa using h5
      obtain rfl := hno (fun h => by rcases h.2.2.1 with q | q <;> omega)
      clear hno hyes
      go_enter Try.func64, Try.ntmps64
      go_wp2
      go_ret
      exact ⟨rfl, hb _⟩
/-! ### One rule -/
set_option maxHeartbeats 2000000 in
theorem parule_err (s : ByteArray) (cols : Int) (nx : Bool) (l : List Opn) (e : Int) (w : World) (hs : s.size ≤ 9223372036854775807) (hp : parseB s = (l, e)) (he : e ≠ 0) :
    Calls Try.prog 66 #[.string s, .int .i64 cols, .bool nx] w fun E w' => E = .returned (.tuple #[.slice none 0 0, .int .i64 0, .int .i64 e]) ∧ Below w.heap.size w w' := by
  have kp := fun W => kparse_own s l e W hs hp
  clear hp hs
  go_enter Try.func66, Try.ntmps66
  go_wp2_with (go_at_call 44; (with_reducible refine (kp _).mono ?_); rintro E w1 ⟨hb, v1, rfl, ho1⟩; obtain ⟨a1, c1, rfl⟩ := own_form ho1; clear ho1)
  exact bodyPost_ret (v := .tuple #[.slice none 0 0, .int .i64 0, .int .i64 e]) (by simp [results, Try.results66, go_sem]) rfl ⟨rfl, hb⟩
set_option maxHeartbeats 2000000 in
theorem parule_is (s : ByteArray) (cols : Int) (nx : Bool) (l : List Opn) (d : Nat) (e : Int) (w : World) (hs : s.size ≤ 9223372036854775807) (hp : parseB s = (l, 0)) (hc : checkB l cols nx = (d, e)) :
    Calls Try.prog 66 #[.string s, .int .i64 cols, .bool nx] w fun E w' => Below w.heap.size w w' ∧ ∃ v, E = .returned (.tuple #[v, .int .i64 d, .int .i64 e]) ∧ w'.ownsRow w.heap.size 66 2 v l.length (flatO l) := by
  have kp := fun W => kparse_own s l 0 W hs hp
  have hm := parse_okO hp
  have kc := fun a cap W h => hcheck_is a cap l cols nx d e W h hm.1 hc
  clear hp hs hc hm
  go_enter Try.func66, Try.ntmps66
  go_wp2_with (first
    | (go_at_call 44; (with_reducible refine (kp _).mono ?_); rintro E w1 ⟨hb, v1, rfl, ho1⟩; obtain ⟨a1, c1, rfl, hO1, hN1⟩ := own_oprow ho1; have HB1 := Lib.hid hb; have HR1 := Lib.hid ho1; have HO1 := Lib.hid hO1; clear hb ho1 hO1 hN1)
    | (go_at_call 79; (with_reducible refine (kc _ _ _ HO1.out).mono ?_); rintro E w2 ⟨rfl, hb⟩; have HB2 := Lib.hid (bthen HB1.out hb); have HR2 := Lib.hid (own_keep HR1.out hb); clear hb))
  exact bodyPost_ret (v := .tuple #[.slice a1 l.length c1, .int .i64 d, .int .i64 e]) (by simp [results, Try.results66, go_sem]) rfl ⟨HB2.out, _, rfl, HR2.out⟩
/-! ### The rule of a step -/
set_option maxHeartbeats 2000000 in
theorem pawhole_is (k : Nat) (a : Option Addr) (c : Nat) (m : List Opn) (w : World) (hk : k ≤ 1000) (hO : OpA w a m.length m) (hm : m.length ≤ 256) :
    Calls Try.prog 67 #[.int .i64 k, .slice a m.length c] w fun e w' => Below w.heap.size w w' ∧ ∃ v, e = .returned v ∧ w'.ownsRow w.heap.size 66 2 v (stepO k m).length (flatO (stepO k m)) := by
  have hwk : IntKind.u64.wrap (k : Int) = (k : Int) := by rw [IntKind.wrap_u64]; omega
  have kc : ∀ w1 w2 w3 : World, w1 = w.alloc (.cells #[.int .i64 2, .int .u64 (k : Int)] 66) → w2 = w1.alloc (.cells #[.int .i64 5, .int .u64 0] 66) → w3 = w2.alloc (.cells #[.slice (some ⟨w.heap.size, 0, none⟩) 1 1, .slice a m.length c, .slice (some ⟨w1.heap.size, 0, none⟩) 1 1] 48) →
      Calls Try.prog 80 #[.slice (some ⟨w2.heap.size, 0, none⟩) 3 3] w3 fun e w' => Below w.heap.size w w' ∧ ∃ v, e = .returned v ∧ w'.ownsRow w.heap.size 66 2 v (stepO k m).length (flatO (stepO k m)) := by
    intro w1 w2 w3 e1 e2 e3
    have b1 : Below w.heap.size w w1 := by rw [e1]; exact (Below.refl _ _).alloc (Nat.le_refl _) _
    have b2 : Below w1.heap.size w1 w2 := by rw [e2]; exact (Below.refl _ _).alloc (Nat.le_refl _) _
    have b3 : Below w2.heap.size w2 w3 := by rw [e3]; exact (Below.refl _ _).alloc (Nat.le_refl _) _
    have B := bthen b1 (bthen b2 b3)
    have s0 : SrcA w2 2 ⟨some ⟨w.heap.size, 0, none⟩, 1, 1, [.int .i64 2, .int .u64 (k : Int)]⟩ :=
      SrcA.keep ⟨rfl, (by intro h; cases h), (by rintro ad h; cases h; rw [e1]; exact two_src (by simp [go_sem]) (by simp [go_sem])), (by intro u hu; simp at hu; rcases hu with rfl | rfl <;> rfl)⟩ b2
    have s1 : SrcA w2 2 ⟨a, m.length, c, flatO m⟩ :=
      SrcA.keep ⟨flatO_len2 m, opA_nil0 hO, opA_cells hO, flatO_one m⟩ (bthen b1 b2)
    have s2 : SrcA w2 2 ⟨some ⟨w1.heap.size, 0, none⟩, 1, 1, [.int .i64 5, .int .u64 0]⟩ :=
      ⟨rfl, (by intro h; cases h), (by rintro ad h; cases h; rw [e2]; exact two_src (by simp [go_sem]) (by simp [go_sem])), (by intro u hu; simp at hu; rcases hu with rfl | rfl <;> rfl)⟩
    have hrow : SrcRow w3 2 w2.heap.size [⟨some ⟨w.heap.size, 0, none⟩, 1, 1, [.int .i64 2, .int .u64 (k : Int)]⟩, ⟨a, m.length, c, flatO m⟩, ⟨some ⟨w1.heap.size, 0, none⟩, 1, 1, [.int .i64 5, .int .u64 0]⟩] := by
      rw [e3]
      refine SrcRow.lit (fun j hj => ?_) rfl
      match j, hj with
      | 0, _ => exact s0
      | 1, _ => exact s1
      | 2, _ => exact s2
    refine (ctoconcat_is w2.heap.size 3 _ w3 hrow (by simp) (by simp [sumSrc]; omega)).mono ?_
    rintro e w' ⟨hb, v, he, ho⟩
    refine ⟨bthen B hb, v, he, ?_⟩
    have ho2 := own_mono' ho B.size
    have l1 : sumSrc [⟨some ⟨w.heap.size, 0, none⟩, 1, 1, [.int .i64 2, .int .u64 (k : Int)]⟩, ⟨a, m.length, c, flatO m⟩, ⟨some ⟨w1.heap.size, 0, none⟩, 1, 1, [.int .i64 5, .int .u64 0]⟩] = (stepO k m).length := by simp [sumSrc, stepO]; omega
    have l2 : catSrc [⟨some ⟨w.heap.size, 0, none⟩, 1, 1, [.int .i64 2, .int .u64 (k : Int)]⟩, ⟨a, m.length, c, flatO m⟩, ⟨some ⟨w1.heap.size, 0, none⟩, 1, 1, [.int .i64 5, .int .u64 0]⟩] = flatO (stepO k m) := by simp [catSrc, stepO, flatO]
    rw [l1, l2] at ho2
    exact ho2
  have kc2 := kc _ _ _ rfl rfl rfl
  rw [show (w.alloc (.cells #[.int .i64 2, .int .u64 (k : Int)] 66)).heap.size = w.heap.size + 1 by simp] at kc2
  rw [show ((w.alloc (.cells #[.int .i64 2, .int .u64 (k : Int)] 66)).alloc (.cells #[.int .i64 5, .int .u64 0] 66)).heap.size = w.heap.size + 1 + 1 by simp] at kc2
  clear kc hO
  go_enter Try.func67, Try.ntmps67
  go_wp2_with (go_at_call 80; (with_reducible refine kc2.mono ?_); rintro e w4 ⟨hb, v, rfl, ho⟩; obtain ⟨a4, c4, rfl⟩ := own_form ho; have HB := Lib.hid hb; have HO := Lib.hid ho; clear hb ho)
  go_ret
  exact ⟨HB.out, _, rfl, HO.out⟩
end Go.Proofs.Ytjcgakmhpblanaa
namespace Go.Proofs.Ytjcgakmhpblanaa
open Go Go.RowKit
set_option linter.unusedVariables false

theorem srcA_str {W : World} {a : Option Addr} {l : List ByteArray} (h : StrA W a l.length (tx l)) (c : Nat) : SrcA W 1 ⟨a, l.length, c, l.map Value.string⟩ := by
  refine ⟨by simp, fun e => ?_, fun ad e j u hu => ?_, fun u hu => ?_⟩
  · show l.length = 0
    rcases Nat.eq_zero_or_pos l.length with h0 | h0
    · exact h0
    · obtain ⟨b, off, e', _⟩ := h.2 0 h0
      rw [show a = none from e] at e'; cases e'
  · have hj : j < l.length := by
      have := (List.getElem?_eq_some_iff.1 hu).1
      simpa using this
    obtain ⟨b, off, e', hc⟩ := h.2 j hj
    have e2 : a = some ad := e
    rw [e2] at e'; cases e'
    rw [List.getElem?_map] at hu
    have : (l[j]?).getD noText = tx l j := rfl
    simp [hj] at hu
    rw [Addr.add_mid, hc, ← hu]
    simp [tx, List.getD, hj]
  · obtain ⟨t, _, rfl⟩ := List.mem_map.1 hu; rfl
theorem text_at {A : AirP} {k : Nat} (h : k < A.count) : (((A.steps ++ A.rules).map Value.string).getD k undef) = .string (A.text k) := by
  have hl : k < (A.steps ++ A.rules).length := by simpa [AirP.count] using h
  rw [List.getD, List.getElem?_map, List.getElem?_eq_getElem hl]
  simp only [Option.map_some, Option.getD_some]
  unfold AirP.text
  by_cases c : k < A.steps.length
  · rw [if_pos c, List.getElem_append_left c]; simp [List.getD, c]
  · have h2 : k - A.steps.length < A.rules.length := by unfold AirP.count at h; omega
    rw [if_neg c, List.getElem_append_right (by omega)]; simp [List.getD, h2]
theorem text_size {A : AirP} {k : Nat} (h : k < A.count) (hk : OkAir A) : (A.text k).size ≤ 9223372036854775807 := by
  by_cases c : k < A.steps.length
  · rw [AirP.text_step c]; exact hk.steps _ (tx_mem c)
  · rw [AirP.text_rule c]; exact hk.rules _ (tx_mem (by unfold AirP.count at h; omega))
theorem degMax_one : ∀ ls : List (List Opn), 1 ≤ degMax ls := by
  intro ls
  have : ∀ (ls : List (List Opn)) (n : Nat), n ≤ ls.foldl (fun n l => max n (degO l)) n := by
    intro ls
    induction ls with
    | nil => intro n; exact Nat.le_refl _
    | cons l ls ih => intro n; exact Nat.le_trans (Nat.le_max_left _ _) (ih _)
  exact this ls 1
theorem deg_form {A : AirP} {k : Nat} {m : List Opn} {nx : Bool} {d : Nat} (ks : List (List Opn)) (h : checkB m A.cols nx = (d, 0)) : ((degMax (ks ++ [A.form k m]) : Nat) : Int) = max ((degMax ks : Nat) : Int) (d : Int) := by
  have h1 := degMax_one ks
  rw [degMax_snoc]
  unfold AirP.form
  split
  · unfold degO; rw [step_deg k h]; show ((max (degMax ks) (max 1 d) : Nat) : Int) = _; omega
  · rw [checkB_degO h]; omega
def PaPost (w : World) (ls : List (List Opn)) (r : Int) (e : Ending) (w' : World) : Prop :=
  Below w.heap.size w w' ∧ ∃ (a : Option Addr) (cap : Nat) (d : Int), e = .returned (.tuple #[.slice a ls.length cap, .int .i64 d, .int .i64 r]) ∧ OpsA w' a ls.length ls ∧ (a = none → cap = 0) ∧ (r = 0 → d = (degMax ls : Nat))
def PaRel (w0 : World) (A : AirP) (o g i : Value) (W : World) : Prop :=
  ∃ (k : Nat) (ks : List (List Opn)), k ≤ A.count ∧ ks.length = k ∧ i = .int .i64 k ∧ RulesUp w0 W o ks ∧ A.upto k = (ks, 0) ∧ g = .int .i64 (degMax ks : Nat)
set_option maxHeartbeats 4000000 in
theorem parules_no (A : AirP) (p : AirAt) (ls : List (List Opn)) (r : Int) (w : World) (hfit : ¬ A.fits) (hr : A.all = (ls, r)) : Calls Try.prog 53 #[A.val p] w (PaPost w ls r) := by
  have hno : A.all = ([], 1) := by unfold AirP.all; rw [if_neg hfit]
  obtain ⟨rfl, rfl⟩ := Prod.mk.inj (hno.symm.trans hr)
  have kn := fun W => pacount_is A p false W (decide_eq_false hfit)
  have hb0 := fun o => (Below.refl w.heap.size w).alloc (Nat.le_refl _) o
  have HB0 := Lib.hid hb0
  clear hno hr hfit hb0
  go_enter Try.func53, Try.ntmps53
  go_wp2_with (go_at_call 64; (with_reducible refine (kn _).mono ?_); rintro E w1 ⟨rfl, hb⟩; have HB1 := Lib.hid (bthen (HB0.out _) hb); clear hb)
  exact bodyPost_ret (v := .tuple #[.slice none 0 0, .int .i64 0, .int .i64 1]) (by simp [results, Try.results53, go_sem]) rfl ⟨HB1.out, none, 0, 0, rfl, opsA_nil _, fun _ => rfl, fun h => absurd h (by decide)⟩
theorem infoOpSS : (Try.prog.info? 48).map (fun i => (i.zero, i.size, i.bytes)) = some (some (.slice none 0 0), 1, 24) := by kernel_rfl
set_option maxRecDepth 100000 in
set_option maxHeartbeats 8000000 in
theorem parules_is (A : AirP) (p : AirAt) (ls : List (List Opn)) (r : Int) (w : World) (hA : AirA w A p) (hk : OkAir A) (hf : FewAir A) (hr : A.all = (ls, r)) : Calls Try.prog 53 #[A.val p] w (PaPost w ls r) := by
  by_cases hfit : A.fits
  case neg => exact parules_no A p ls r w hfit hr
  obtain ⟨i1, ki, kz0, kz1, kz2⟩ := info_parts infoOpSS
  have kn := fun W => pacount_is A p true W (decide_eq_true hfit)
  have HFIT := Lib.hid hfit; have HR := Lib.hid hr; have HA := Lib.hid hA; have HK := Lib.hid hk
  have hcnt : A.count ≤ 80 := by have := hf.1; have := hf.2.1; unfold AirP.count; omega
  clear hfit hr hA hk hf
  go_enter Try.func53, Try.ntmps53
  go_upto_region 1 with fail
  refine wp_gen (fun W => Below w.heap.size w W ∧ AirC W w.heap.size A p) ⟨(Below.refl _ _).alloc (Nat.le_refl _) _, AirC.new _ _ _ _⟩ ?_
  obtain ⟨g, hg⟩ : ∃ g, w.heap.size = g := ⟨_, rfl⟩
  rintro w0 ⟨hB0, hC0⟩
  rw [hg] at hC0
  simp only [hg]
  have HB0 := Lib.hid hB0; have HC0 := Lib.hid hC0
  clear hB0 hg
  obtain ⟨x0, x1, x2, x3, x4⟩ := hC0
  go_upto_region 5 with (go_at_call 64; (with_reducible refine (kn _).mono ?_); rintro E w1 ⟨rfl, hb⟩)
  have HB1 := Lib.hid (bthen HB0.out hb); have HC1 := Lib.hid (HC0.out.keep hb)
  have HA1 := Lib.hid (HA.out.keep HB1.out)
  clear hb x0 x1 x2 x3 x4 HC0 HB0 HA kn
  obtain ⟨x0, x1, x2, x3, x4⟩ := HC1.out
  have kc : Calls Try.prog 65 #[.slice (some ⟨w1.heap.size, 0, none⟩) 2 2] (w1.alloc (.cells #[.slice p.sa A.steps.length p.sc, .slice p.ra A.rules.length p.rc] 22)) fun e w' => Below w1.heap.size w1 w' ∧ ∃ v, e = .returned v ∧ w'.ownsRow w1.heap.size 9 1 v A.count ((A.steps ++ A.rules).map Value.string) := by
    have s0 := srcA_str HA1.out.1 p.sc
    have s1 := srcA_str HA1.out.2.1 p.rc
    have hrow : SrcRow (w1.alloc (.cells #[.slice p.sa A.steps.length p.sc, .slice p.ra A.rules.length p.rc] 22)) 1 w1.heap.size [⟨p.sa, A.steps.length, p.sc, A.steps.map Value.string⟩, ⟨p.ra, A.rules.length, p.rc, A.rules.map Value.string⟩] := by
      refine SrcRow.lit (fun j hj => ?_) rfl
      match j, hj with
      | 0, _ => exact s0
      | 1, _ => exact s1
    refine (ctsconcat_is w1.heap.size 2 _ _ hrow (by simp) (by simp [sumSrc]; unfold AirP.count at hcnt; omega)).mono ?_
    rintro e w' ⟨hb, v, he, ho⟩
    have hal : Below w1.heap.size w1 (w1.alloc (.cells #[.slice p.sa A.steps.length p.sc, .slice p.ra A.rules.length p.rc] 22)) := (Below.refl _ _).alloc (Nat.le_refl _) _
    refine ⟨bthen hal hb, v, he, ?_⟩
    have ho2 := own_mono' ho hal.size
    have l1 : sumSrc [⟨p.sa, A.steps.length, p.sc, A.steps.map Value.string⟩, ⟨p.ra, A.rules.length, p.rc, A.rules.map Value.string⟩] = A.count := by simp [sumSrc, AirP.count]
    have l2 : catSrc [⟨p.sa, A.steps.length, p.sc, A.steps.map Value.string⟩, ⟨p.ra, A.rules.length, p.rc, A.rules.map Value.string⟩] = (A.steps ++ A.rules).map Value.string := by simp [catSrc]
    rw [l1, l2] at ho2
    exact ho2
  go_upto_region 6 with (go_at_call 65; (with_reducible refine kc.mono ?_); rintro E w2 ⟨hb, vT, rfl, hoT⟩; obtain ⟨aT, cT, rfl⟩ := own_form hoT)
  have HB2 := Lib.hid (bthen HB1.out hb); have HC2 := Lib.hid (HC1.out.keep hb); have HOT := Lib.hid hoT
  clear hb hoT x0 x1 x2 x3 x4 HC1 HA1 HB1 kc
  go_loopw [5, 6, 23] (PaRel w2 A) (fun _ _ i _ => A.count - (intOf i).toNat)
  case atStart => exact ⟨0, [], Nat.zero_le _, rfl, rfl, RulesUp.start (Below.refl _ _), rfl, rfl⟩
  case round =>
    obtain ⟨k, ks, hk2, hlen, rfl, hU, hup, rfl⟩ := hrel
    have HU := Lib.hid hU; have HUP := Lib.hid hup; have HLN := Lib.hid hlen
    obtain ⟨x0, x1, x2, x3, x4⟩ := HC2.out.keep hU.below
    have HO2 := Lib.hid (own_keep HOT.out hU.below)
    obtain ⟨u5, c5, hu5⟩ : ∃ a c, _ = Value.slice a ks.length c := by obtain ⟨a, c, h, _⟩ := HU.out.told; exact ⟨a, c, h⟩
    subst hu5
    clear hU hup hlen
    by_cases hlt : k < A.count
    · have hltI : (k : Int) < (A.count : Int) := by omega
      have hk0 : (0 : Int) ≤ (k : Int) := by omega
      obtain ⟨gT, cT2, hT, _, _, _, hARR⟩ := own_arr HO2.out (by omega)
      cases hT
      have cs := (hARR k (by omega)).1
      dsimp only at cs
      rw [text_at hlt] at cs
      have hTS := text_size hlt HK.out
      have HTX : Hid (A.upto (k + 1) = if (ruleB (A.text k) A.cols (decide (¬ k < A.steps.length))).2 ≠ 0 then ([], (ruleB (A.text k) A.cols (decide (¬ k < A.steps.length))).2) else (ks ++ [A.form k (ruleB (A.text k) A.cols (decide (¬ k < A.steps.length))).1], 0)) := Lib.hid (by
        rw [AirP.upto, HUP.out, if_neg (by simp)]; rfl)
      have HFK := Lib.hid (fun l => (rfl : A.form k l = A.form k l))
      generalize A.text k = T at *
      clear hARR HO2 HOT
      obtain ⟨m, e, hp⟩ : ∃ m e, parseB T = (m, e) := ⟨_, _, rfl⟩
      have HP := Lib.hid hp
      obtain ⟨nx, hnx⟩ : ∃ nx, decide (¬ k < A.steps.length) = nx := ⟨_, rfl⟩
      rw [hnx] at HTX
      by_cases he : e = 0
      case neg =>
        have kr := fun W => parule_err T A.cols nx m e W hTS hp he
        have hD := (AirP.all_stop HFIT.out (show A.upto (k + 1) = ([], e) by rw [HTX.out, ruleB_parse HP.out he, if_pos he]) he (show k + 1 ≤ A.count by omega)).symm.trans HR.out
        obtain ⟨rfl, rfl⟩ := Prod.mk.inj hD
        clear hD HR HUP HTX hp HP HFK hTS
        by_cases hst : k < A.steps.length
        · have hstI : (k : Int) < (A.steps.length : Int) := by omega
          obtain rfl : nx = false := by rw [← hnx]; exact decide_eq_false (by simpa using hst)
          clear hnx
          go_wp2_with (go_at_call 66; (with_reducible refine (kr _).mono ?_); rintro E w3 ⟨rfl, hb⟩; have HBE := Lib.hid (bthen HB2.out (bthen HU.out.below hb)); clear hb)
          exact bodyPost_ret (v := .tuple #[.slice none 0 0, .int .i64 0, .int .i64 e]) (by simp [results, Try.results53, go_sem]) rfl ⟨HBE.out, none, 0, 0, rfl, opsA_nil _, fun _ => rfl, fun h => absurd h he⟩
        · have hstI : ¬ (k : Int) < (A.steps.length : Int) := by omega
          obtain rfl : nx = true := by rw [← hnx]; exact decide_eq_true hst
          clear hnx
          go_wp2_with (go_at_call 66; (with_reducible refine (kr _).mono ?_); rintro E w3 ⟨rfl, hb⟩; have HBE := Lib.hid (bthen HB2.out (bthen HU.out.below hb)); clear hb)
          exact bodyPost_ret (v := .tuple #[.slice none 0 0, .int .i64 0, .int .i64 e]) (by simp [results, Try.results53, go_sem]) rfl ⟨HBE.out, none, 0, 0, rfl, opsA_nil _, fun _ => rfl, fun h => absurd h he⟩
      subst he
      obtain ⟨d, e2, hz⟩ : ∃ d e2, checkB m A.cols nx = (d, e2) := ⟨_, _, rfl⟩
      have HZ := Lib.hid hz
      have kr := fun W => parule_is T A.cols nx m d e2 W hTS hp hz
      have hm := (parse_okO hp).2
      clear hp hz hTS
      by_cases he2 : e2 = 0
      case neg =>
        have hD := (AirP.all_stop HFIT.out (show A.upto (k + 1) = ([], e2) by rw [HTX.out, ruleB_check HP.out HZ.out he2, if_pos he2]) he2 (show k + 1 ≤ A.count by omega)).symm.trans HR.out
        obtain ⟨rfl, rfl⟩ := Prod.mk.inj hD
        clear hD HR HUP HTX HP HFK HZ
        by_cases hst : k < A.steps.length
        · have hstI : (k : Int) < (A.steps.length : Int) := by omega
          obtain rfl : nx = false := by rw [← hnx]; exact decide_eq_false (by simpa using hst)
          clear hnx
          go_wp2_with (go_at_call 66; (with_reducible refine (kr _).mono ?_); rintro E w3 ⟨hb, v3, rfl, ho⟩; obtain ⟨a3, c3, rfl⟩ := own_form ho; have HBE := Lib.hid (bthen HB2.out (bthen HU.out.below hb)); clear hb ho)
          exact bodyPost_ret (v := .tuple #[.slice none 0 0, .int .i64 0, .int .i64 e2]) (by simp [results, Try.results53, go_sem]) rfl ⟨HBE.out, none, 0, 0, rfl, opsA_nil _, fun _ => rfl, fun h => absurd h he2⟩
        · have hstI : ¬ (k : Int) < (A.steps.length : Int) := by omega
          obtain rfl : nx = true := by rw [← hnx]; exact decide_eq_true hst
          clear hnx
          go_wp2_with (go_at_call 66; (with_reducible refine (kr _).mono ?_); rintro E w3 ⟨hb, v3, rfl, ho⟩; obtain ⟨a3, c3, rfl⟩ := own_form ho; have HBE := Lib.hid (bthen HB2.out (bthen HU.out.below hb)); clear hb ho)
          exact bodyPost_ret (v := .tuple #[.slice none 0 0, .int .i64 0, .int .i64 e2]) (by simp [results, Try.results53, go_sem]) rfl ⟨HBE.out, none, 0, 0, rfl, opsA_nil _, fun _ => rfl, fun h => absurd h he2⟩
      subst he2
      have HS : Hid (A.upto (k + 1) = (ks ++ [A.form k m], 0)) := Lib.hid (by rw [HTX.out, ruleB_ok HP.out HZ.out, if_neg (by simp)])
      have HDG := Lib.hid (deg_form (k := k) ks HZ.out)
      clear HTX HP HZ HFK HUP
      have hfl : (A.form k m).length ≤ 300 := by
        unfold AirP.form
        split
        · unfold stepO; simp; omega
        · omega
      have HST : Hid (∀ W7, RulesUp w2 W7 (.slice u5 ks.length c5) ks → ∀ aL cL, W7.ownsRow w2.heap.size 66 2 (.slice aL (A.form k m).length cL) (A.form k m).length (flatO (A.form k m)) → Below w2.heap.size w2 W7 → True) := Lib.hid fun _ _ _ _ _ _ => trivial
      clear HST
      by_cases hst : k < A.steps.length
      · have hstI : (k : Int) < (A.steps.length : Int) := by omega
        obtain rfl : nx = false := by rw [← hnx]; exact decide_eq_false (by simpa using hst)
        have hform : A.form k m = stepO k m := if_pos hst
        rw [hform] at HS HDG hfl
        clear hnx hform
        go_upto_region 14 with (first
          | (go_at_call 66; (with_reducible refine (kr _).mono ?_); rintro E w3 ⟨hb, v3, rfl, ho⟩; obtain ⟨a3, c3, rfl⟩ := own_form ho; have HU3 := Lib.hid (HU.out.keep hb); obtain ⟨a3', c3', hv3, hO3, _⟩ := own_oprow ho; cases hv3; have kw := pawhole_is k a3 c3 m w3 (by omega) hO3 hm; have HO3 := Lib.hid hO3; clear hb ho hO3)
          | (go_at_call 67; (with_reducible refine kw.mono ?_); rintro E w4 ⟨hb, v4, rfl, ho⟩; obtain ⟨aL, cL, rfl⟩ := own_form ho; have HU4 := Lib.hid (HU3.out.keep hb); have HR4 := Lib.hid (own_mono' ho HU3.out.below.size); clear hb ho))
        refine wp_gen (fun W => RulesUp w2 W (.slice u5 ks.length c5) ks ∧ W.ownsRow w2.heap.size 66 2 (.slice aL (stepO k m).length cL) (stepO k m).length (flatO (stepO k m))) ⟨HU4.out, HR4.out⟩ ?_
        clear HU4 HR4 HU3 HO3 kw kr HU x0 x1 x2 x3 x4
        generalize stepO k m = L at *
        rintro W6 ⟨hu, hl⟩
        obtain ⟨rs, hm1, hm2⟩ := hu
        have hlen : ks.length ≤ 80 := by have := HLN.out; omega
        have hown := hm1.1
        rw [valsV_len] at hown
        have HM1 := Lib.hid hm1; have HM2 := Lib.hid hm2; have HL := Lib.hid hl; have HOWN := Lib.hid hown
        have hsz0 := hm1.2.size
        clear hm1 hm2 hl
        go_upto_region 15 with (at_builtin; refine wpList_append_own _ rfl _ _ 43 rfl w2.heap.size 48 i1 (.slice none 0 0) 1 24 Try.underlying43 ki kz0 kz1 kz2 rfl (by decide) _ _ _ rfl (hown.alloc _) ⟨W6.heap.size, 0, none⟩ 1 1 [.slice aL L.length cL] rfl rfl (one_src (by simp [go_sem])) (by intro u hu; simp at hu; subst hu; rfl) (by unfold maxLen; omega) (by omega) (by simp; omega) ?_)
        intro v7 w7 q1 q2 _
        have hal : Below W6.heap.size W6 (W6.alloc (.cells #[.slice aL L.length cL] 48)) := (Below.refl _ _).alloc (Nat.le_refl _) _
        have HUP2 := Lib.hid (RulesUp.more (HM1.out.keep hal) (fun j hj => own_keep (HM2.out j hj) hal) (own_keep HL.out hal) q2 (MadeG.grow (HM1.out.keep hal) (by rw [valsV_len]; exact q1) q2))
        clear q1 q2 hal hown HM1 HM2 HL HOWN
        go_wp2
        go_roundw
        case rel => exact ⟨k + 1, ks ++ [L], by omega, by rw [List.length_append, HLN.out]; rfl, by go_num, HUP2.out, HS.out, by rw [HDG.out]⟩
        case measure => simp [intOf]; omega
      · have hstI : ¬ (k : Int) < (A.steps.length : Int) := by omega
        obtain rfl : nx = true := by rw [← hnx]; exact decide_eq_true hst
        have hform : A.form k m = m := if_neg hst
        rw [hform] at HS HDG hfl
        clear hnx hform
        go_upto_region 14 with (go_at_call 66; (with_reducible refine (kr _).mono ?_); rintro E w3 ⟨hb, v3, rfl, ho⟩; obtain ⟨aL, cL, rfl⟩ := own_form ho; have HU4 := Lib.hid (HU.out.keep hb); have HR4 := Lib.hid (own_mono' ho HU.out.below.size); clear hb ho)
        refine wp_gen (fun W => RulesUp w2 W (.slice u5 ks.length c5) ks ∧ W.ownsRow w2.heap.size 66 2 (.slice aL m.length cL) m.length (flatO m)) ⟨HU4.out, HR4.out⟩ ?_
        clear HU4 HR4 kr HU x0 x1 x2 x3 x4
        generalize m = L at *
        rintro W6 ⟨hu, hl⟩
        obtain ⟨rs, hm1, hm2⟩ := hu
        have hlen : ks.length ≤ 80 := by have := HLN.out; omega
        have hown := hm1.1
        rw [valsV_len] at hown
        have HM1 := Lib.hid hm1; have HM2 := Lib.hid hm2; have HL := Lib.hid hl; have HOWN := Lib.hid hown
        have hsz0 := hm1.2.size
        clear hm1 hm2 hl
        go_upto_region 15 with (at_builtin; refine wpList_append_own _ rfl _ _ 43 rfl w2.heap.size 48 i1 (.slice none 0 0) 1 24 Try.underlying43 ki kz0 kz1 kz2 rfl (by decide) _ _ _ rfl (hown.alloc _) ⟨W6.heap.size, 0, none⟩ 1 1 [.slice aL L.length cL] rfl rfl (one_src (by simp [go_sem])) (by intro u hu; simp at hu; subst hu; rfl) (by unfold maxLen; omega) (by omega) (by simp; omega) ?_)
        intro v7 w7 q1 q2 _
        have hal : Below W6.heap.size W6 (W6.alloc (.cells #[.slice aL L.length cL] 48)) := (Below.refl _ _).alloc (Nat.le_refl _) _
        have HUP2 := Lib.hid (RulesUp.more (HM1.out.keep hal) (fun j hj => own_keep (HM2.out j hj) hal) (own_keep HL.out hal) q2 (MadeG.grow (HM1.out.keep hal) (by rw [valsV_len]; exact q1) q2))
        clear q1 q2 hal hown HM1 HM2 HL HOWN
        go_wp2
        go_roundw
        case rel => exact ⟨k + 1, ks ++ [L], by omega, by rw [List.length_append, HLN.out]; rfl, by go_num, HUP2.out, HS.out, by rw [HDG.out]⟩
        case measure => simp [intOf]; omega
    · obtain rfl : k = A.count := by omega
      have hD := (AirP.all_ok2 HFIT.out).symm.trans HR.out
      rw [HUP.out] at hD
      obtain ⟨rfl, rfl⟩ := Prod.mk.inj hD
      obtain ⟨a4, c4, hv4, hT4, hN4⟩ := HU.out.told
      cases hv4
      have HBE := Lib.hid (bthen HB2.out HU.out.below)
      have HT4 := Lib.hid hT4; have HN4 := Lib.hid hN4
      clear hD HR HUP HU hT4 hN4
      go_wp2_with fail
      exact bodyPost_ret (v := .tuple #[.slice u5 ks.length c5, .int .i64 (degMax ks : Nat), .int .i64 0]) (by simp [results, Try.results53, go_sem]) rfl ⟨HBE.out, u5, c5, _, rfl, HT4.out, HN4.out, fun _ => rfl⟩
theorem parules_pub (A : AirP) (p : AirAt) (ls : List (List Opn)) (r : Int) (w : World) (hA : AirA w A p) (hk : OkAir A) (hf : FewAir A) (hr : A.all = (ls, r)) : Calls Try.prog 40 #[A.val p] w (RulesPost w ls r) := by
  have kr := fun W (h : AirA W A p) => parules_is A p ls r W h hk hf hr
  unfold PaPost at kr
  have HA := Lib.hid (fun W' => hA.keep (W' := W'))
  have hb0 := fun o => (Below.refl w.heap.size w).alloc (Nat.le_refl _) o
  have HB0 := Lib.hid hb0
  clear hr hf hk hA hb0
  go_enter Try.func40, Try.ntmps40
  go_wp2_with (go_at_call 53; (with_reducible refine (kr _ (HA.out _ (HB0.out _))).mono ?_); rintro E w1 ⟨hb, a, cap, d, rfl, ho, hn, _⟩; have HB1 := Lib.hid (bthen (HB0.out _) hb); have HO := Lib.hid ho; have HN := Lib.hid hn; clear hb ho hn)
  exact bodyPost_ret (v := .tuple #[.slice a ls.length cap, .int .i64 r]) (by simp [results, Try.results40, go_sem]) rfl ⟨HB1.out, a, cap, rfl, HO.out, HN.out⟩
theorem check_all {A : AirP} (h : A.check = 0) : ∃ ls, A.all = (ls, 0) ∧ A.degree = degMax ls := by
  obtain ⟨_, _, h1, h2, _⟩ := A.check_ok h
  rw [← h1] at h2
  exact ⟨A.all.1, Prod.ext rfl h2, rfl⟩
end Go.Proofs.Ytjcgakmhpblanaa
namespace Go.Proofs.Ytjcgakmhpblanaa
open Go Go.RowKit
set_option linter.unusedVariables false

def PaIdx (w1 : World) (zs : List (Int × Int)) (c r : Int) (i : Value) (W : World) : Prop := ∃ j : Nat, j ≤ zs.length ∧ i = .int .i64 j ∧ Below w1.heap.size w1 W ∧ ∀ i, i < j → zs.getD i (0, 0) ≠ (c, r)
set_option maxHeartbeats 4000000 in
theorem paindex_is (a : Option Addr) (cap : Nat) (zs : List (Int × Int)) (c r : Int) (f : Bool) (w : World) (hB : BoundA w a zs.length zs) (hyes : ∀ j, j < zs.length → zs.getD j (0, 0) = (c, r) → f = true) (hno : (∀ j, j < zs.length → zs.getD j (0, 0) ≠ (c, r)) → f = false) :
    Calls Try.prog 68 #[.slice a zs.length cap, .agg #[.int .i64 c, .int .i64 r]] w fun e w' => ∃ z : Int, e = .returned (.int .i64 z) ∧ decide (0 ≤ z) = f ∧ Below w.heap.size w w' := by
  have HBA := Lib.hid hB; have HY := Lib.hid hyes; have HN := Lib.hid hno
  have hm := hB.2.1
  unfold maxLen at hm
  clear hB hyes hno
  go_enter Try.func68, Try.ntmps68
  go_upto_region 1 with fail
  refine wp_gen (fun W => Below w.heap.size w W ∧ W.cell? ⟨w.heap.size, 0, none⟩ = some (.int .i64 c) ∧ W.cell? ⟨w.heap.size, 1, none⟩ = some (.int .i64 r)) ⟨(Below.refl _ _).alloc (Nat.le_refl _) _, by simp [go_sem], by simp [go_sem]⟩ ?_
  obtain ⟨gb, hgb⟩ : ∃ g, w.heap.size = g := ⟨_, rfl⟩
  rintro w3 ⟨hb3, d0, d1⟩
  rw [hgb] at d0 d1
  simp only [hgb]
  have HB3 := Lib.hid hb3
  have HBA3 := Lib.hid (HBA.out.keep hb3)
  have HD0 := Lib.hid (And.intro d0 d1)
  clear hb3 d0 d1 HBA hgb
  go_upto_region 2 with fail
  go_loopw [8] (PaIdx w3 zs c r) (fun i _ => zs.length - (intOf i).toNat)
  case atStart => exact ⟨0, Nat.zero_le _, rfl, Below.refl _ _, fun j hj => by omega⟩
  case round =>
    obtain ⟨j, hj, rfl, hB, hne⟩ := hrel
    have HNE := Lib.hid hne; have HBI := Lib.hid hB
    clear hne
    by_cases hlt2 : j < zs.length
    · have hlt2I : (j : Int) < (zs.length : Int) := by omega
      have hj0 : (0 : Int) ≤ (j : Int) := by omega
      have d0 := bkeep hB HD0.out.1; have d1 := bkeep hB HD0.out.2
      obtain ⟨b', off', rfl, cj0, cj1⟩ := (HBA3.out.keep hB).at (k := j) (by omega)
      obtain ⟨cj, hcj⟩ : ∃ c, zs.getD j (0, 0) = c := ⟨_, rfl⟩
      have HCJ := Lib.hid hcj
      rw [hcj] at cj0 cj1
      obtain ⟨x, y⟩ := cj
      dsimp only at cj0 cj1
      clear hB hcj
      by_cases ex : x = c
      · by_cases ey : y = r
        · subst ex ey
          obtain rfl := HY.out j hlt2 HCJ.out
          have HBE := Lib.hid (bthen HB3.out HBI.out)
          clear HY HN HNE HBA3
          go_upto_region 4 with fail
          go_quiet (fail)
          go_wp2_with fail
          go_ret
          exact ⟨(j : Int), rfl, decide_eq_true hj0, by first | exact HBE.out | exact HBE.out.drew | exact below_drewN HBE.out _⟩
        · subst ex
          have HNE2 := Lib.hid (show ∀ i, i < j + 1 → zs.getD i (0, 0) ≠ (x, r) from fun i hi => by
            by_cases e : i = j
            · subst e; rw [HCJ.out]; exact fun h => ey (Prod.mk.inj h).2
            · exact HNE.out i (by omega))
          clear HNE
          go_upto_region 4 with fail
          go_quiet (fail)
          go_wp2_with fail
          go_roundw
          case rel => exact ⟨j + 1, by omega, by go_num, below_drewN HBI.out _, HNE2.out⟩
          case measure => simp [intOf]; omega
      · have HNE2 := Lib.hid (show ∀ i, i < j + 1 → zs.getD i (0, 0) ≠ (c, r) from fun i hi => by
          by_cases e : i = j
          · subst e; rw [HCJ.out]; exact fun h => ex (Prod.mk.inj h).1
          · exact HNE.out i (by omega))
        clear HNE
        go_upto_region 4 with fail
        go_quiet (fail)
        go_wp2_with fail
        go_roundw
        case rel => exact ⟨j + 1, by omega, by go_num, below_drewN HBI.out _, HNE2.out⟩
        case measure => simp [intOf]; omega
    · obtain rfl : j = zs.length := by omega
      obtain rfl := HN.out HNE.out
      have HBE := Lib.hid (bthen HB3.out HBI.out)
      clear HY HN HNE HBA3 hB
      go_wp2_with fail
      go_ret
      exact ⟨-1, rfl, by decide, HBE.out⟩
theorem pahas_is (a : Option Addr) (cap : Nat) (zs : List (Int × Int)) (c r : Int) (f : Bool) (w : World) (hB : BoundA w a zs.length zs) (hyes : ∀ j, j < zs.length → zs.getD j (0, 0) = (c, r) → f = true) (hno : (∀ j, j < zs.length → zs.getD j (0, 0) ≠ (c, r)) → f = false) :
    Calls Try.prog 54 #[.slice a zs.length cap, .agg #[.int .i64 c, .int .i64 r]] w fun e w' => e = .returned (.bool f) ∧ Below w.heap.size w w' := by
  have ki := fun W (h : BoundA W a zs.length zs) => paindex_is a cap zs c r f W h hyes hno
  have HBA := Lib.hid (hB.keep (w' := w.alloc (.cells #[.int .i64 c, .int .i64 r] 50)) ((Below.refl _ _).alloc (Nat.le_refl _) _))
  have HB0 := Lib.hid ((Below.refl w.heap.size w).alloc (Nat.le_refl _) (.cells #[.int .i64 c, .int .i64 r] 50))
  clear hB hyes hno
  go_enter Try.func54, Try.ntmps54
  go_wp2_with (go_at_call 68; (with_reducible refine (ki _ HBA.out).mono ?_); rintro E w1 ⟨z, rfl, hz, hb⟩; have HB1 := Lib.hid (bthen HB0.out hb); have HZ := Lib.hid hz; clear hb hz)
  go_ret
  exact ⟨by rw [← HZ.out]; rfl, HB1.out⟩
/-! ### Are all bounds of rows and columns that there are? -/
def PaPlace (w1 : World) (A : AirP) (i : Value) (W : World) : Prop := ∃ k : Nat, k ≤ A.bounds.length ∧ i = .int .i64 k ∧ Below w1.heap.size w1 W ∧ ∀ j, j < k → A.okAt j
theorem AirP.has_take {A : AirP} {k : Nat} (hk : k < A.bounds.length) {c r : Int} (h : A.bound k = (c, r)) {f : Bool} (hf : decide (∀ i, i < k → A.bound i ≠ A.bound k) = !f) :
    (∀ j, j < (A.bounds.take k).length → (A.bounds.take k).getD j (0, 0) = (c, r) → f = true) ∧ ((∀ j, j < (A.bounds.take k).length → (A.bounds.take k).getD j (0, 0) ≠ (c, r)) → f = false) := by
  have e : ∀ j, j < k → (A.bounds.take k).getD j (0, 0) = A.bound j := fun j hj => by
    unfold AirP.bound
    simp only [List.getD]
    rw [List.getElem?_take_of_lt hj]
  have hl : (A.bounds.take k).length = k := by rw [List.length_take]; omega
  rw [hl]
  refine ⟨fun j hj q => ?_, fun q => ?_⟩
  · rw [e j hj, ← h] at q
    cases f with
    | true => rfl
    | false => exact absurd q (of_decide_eq_true hf j hj)
  · have : decide (∀ i, i < k → A.bound i ≠ A.bound k) = true := decide_eq_true fun i hi => by have := q i hi; rw [e i hi] at this; rw [h]; exact this
    rw [this] at hf
    cases f with
    | true => cases hf
    | false => rfl
theorem BoundA.cut {W : World} {a : Option Addr} {zs : List (Int × Int)} (h : BoundA W a zs.length zs) (k : Nat) (hk : k ≤ zs.length) : BoundA W a (zs.take k).length (zs.take k) := by
  have hl : (zs.take k).length = k := by rw [List.length_take]; omega
  refine ⟨rfl, by rw [hl]; have := h.2.1; omega, fun j hj => ?_⟩
  rw [hl] at hj
  obtain ⟨b, off, e, c0, c1⟩ := h.at (k := j) (by omega)
  refine ⟨b, off, e, ?_, ?_⟩
  · rw [c0]; simp only [List.getD]; rw [List.getElem?_take_of_lt hj]
  · rw [c1]; simp only [List.getD]; rw [List.getElem?_take_of_lt hj]
set_option maxRecDepth 100000 in
set_option maxHeartbeats 8000000 in
theorem paplaced_is (A : AirP) (p : AirAt) (f : Bool) (w : World) (hA : AirA w A p) (hn : A.near) (hf : decide A.places = f) : Calls Try.prog 41 #[A.val p] w fun e w' => e = .returned (.bool f) ∧ Below w.heap.size w w' := by
  have HY : Hid (A.places → f = true) := Lib.hid fun h => hf ▸ decide_eq_true h
  have HNO : Hid (¬ A.places → f = false) := Lib.hid fun h => hf ▸ decide_eq_false h
  have hb16 : A.bounds.length ≤ 16 := hn.2.2
  have hcap : A.bounds.length ≤ p.bc := hA.2.2.2
  have ks := fun W => pasize_is A p W hn
  have HA := Lib.hid hA
  clear hA hf hn
  go_enter Try.func41, Try.ntmps41
  go_upto_region 1 with fail
  refine wp_gen (fun W => Below w.heap.size w W ∧ AirC W w.heap.size A p) ⟨(Below.refl _ _).alloc (Nat.le_refl _) _, AirC.new _ _ _ _⟩ ?_
  obtain ⟨g, hg⟩ : ∃ g, w.heap.size = g := ⟨_, rfl⟩
  rintro w1 ⟨hB0, hC0⟩
  rw [hg] at hC0
  simp only [hg]
  have HA1 := Lib.hid (HA.out.keep hB0)
  have HB1 := Lib.hid hB0
  have HC1 := Lib.hid hC0
  clear hB0 hg HA
  obtain ⟨x0, x1, x2, x3, x4⟩ := hC0
  go_upto_region 2 with fail
  clear x0 x1 x2 x3 x4
  go_loopw [8] (PaPlace w1 A) (fun i _ => A.bounds.length - (intOf i).toNat)
  case atStart => exact ⟨0, Nat.zero_le _, rfl, Below.refl _ _, fun j hj => by omega⟩
  case round =>
    obtain ⟨k, hk2, rfl, hB, hpl⟩ := hrel
    have HB := Lib.hid hB; have HPL := Lib.hid hpl
    have HX := Lib.hid (HC1.out.keep hB)
    have HBA := Lib.hid (HA1.out.keep hB).2.2.1
    clear hB hpl
    by_cases hlt : k < A.bounds.length
    · have hltI : (k : Int) < (A.bounds.length : Int) := by omega
      have hk0 : (0 : Int) ≤ (k : Int) := by omega
      obtain ⟨b, off, hpa, c0, c1⟩ := HBA.out.at hlt
      have hbk : A.bounds.getD k (0, 0) = A.bound k := rfl
      rw [hbk] at c0 c1
      have HPA := Lib.hid hpa
      clear hbk
      have HOA : Hid (∀ c r, A.bound k = (c, r) → (¬ (0 ≤ c ∧ c < A.cols ∧ 0 ≤ r ∧ r < A.size) → ¬ A.okAt k)) := Lib.hid fun c r h q hq => q (by have := hq.1; rw [h] at this; exact this)
      have HOB : Hid (∀ c r, A.bound k = (c, r) → (0 ≤ c ∧ c < A.cols ∧ 0 ≤ r ∧ r < A.size) → (∀ i, i < k → A.bound i ≠ A.bound k) → A.okAt k) := Lib.hid fun c r h q hq => ⟨by rw [h]; exact q, hq⟩
      obtain ⟨c, hcc⟩ : ∃ c, (A.bound k).1 = c := ⟨_, rfl⟩
      obtain ⟨rr, hrr⟩ : ∃ r, (A.bound k).2 = r := ⟨_, rfl⟩
      have HCR := Lib.hid (show A.bound k = (c, rr) by rw [← hcc, ← hrr])
      rw [hcc] at c0; rw [hrr] at c1
      clear hcc hrr
      replace HOA := Lib.hid (HOA.out _ _ HCR.out)
      replace HOB := Lib.hid (HOB.out _ _ HCR.out)
      obtain ⟨pba, hpba⟩ : ∃ x, p.ba = x := ⟨_, rfl⟩
      have hpx : p.ba = some ⟨b, off, none⟩ := hpa
      rw [hpa] at hpba
      subst hpba
      clear hpa
      have c0' := c0; have c1' := c1
      go_upto_region 4 with fail
      refine wp_gen (fun W => Below wr.heap.size wr W ∧ W.cell? ⟨wr.heap.size, 0, none⟩ = some (.int .i64 c) ∧ W.cell? ⟨wr.heap.size, 1, none⟩ = some (.int .i64 rr)) ⟨(Below.refl _ _).alloc (Nat.le_refl _) _, by simp [go_sem], by simp [go_sem]⟩ ?_
      obtain ⟨gb, hgb⟩ : ∃ g, wr.heap.size = g := ⟨_, rfl⟩
      rintro w2 ⟨hb2, d0, d1⟩
      rw [hgb] at d0 d1
      simp only [hgb]
      have HB2 := Lib.hid (bthen HB.out hb2)
      have HX2 := Lib.hid (HX.out.keep hb2)
      have HBA2 := Lib.hid (HBA.out.keep hb2)
      clear hb2 hgb c0 c1 c0' c1' HBA HB HX
      obtain ⟨x0, x1, x2, x3, x4⟩ := HX2.out
      obtain ⟨f2, hf2⟩ : ∃ f2, decide (∀ i, i < k → A.bound i ≠ A.bound k) = !f2 := ⟨!decide (∀ i, i < k → A.bound i ≠ A.bound k), by simp⟩
      obtain ⟨hh1, hh2⟩ := AirP.has_take hlt HCR.out hf2
      have hkl : (A.bounds.take k).length = k := by rw [List.length_take]; omega
      have kh : ∀ W, Below w2.heap.size w2 W → Calls Try.prog 54 #[.slice (some ⟨b, off, none⟩) k p.bc, .agg #[.int .i64 c, .int .i64 rr]] W fun e w' => e = .returned (.bool f2) ∧ Below W.heap.size W w' := fun W h => by
        have q := pahas_is (some ⟨b, off, none⟩) p.bc (A.bounds.take k) c rr f2 W ((BoundA.cut (hpx ▸ HBA2.out) k hk2).keep h) hh1 hh2
        rw [hkl] at q
        exact q
      have HF2 := Lib.hid hf2
      rw [hpx] at x4
      have hkc : (k : Int) ≤ (p.bc : Int) := by omega
      obtain ⟨S, hS⟩ : ∃ S, A.size = S := ⟨_, rfl⟩
      rw [hS] at HOA HOB
      simp only [hS, AirP.val, hpx] at ks
      clear hh1 hh2 hkl hf2 hpx HPA hS
      by_cases q1 : c < 0
      · obtain rfl := HNO.out (fun hp => HOA.out (by omega) (hp k hlt))
        clear HY HNO HPL HX2 HOA HOB kh
        replace x0 := fun q : Regrown => cell_regrown x0 q.d q.os
        replace x1 := fun q : Regrown => cell_regrown x1 q.d q.os
        replace x2 := fun q : Regrown => cell_regrown x2 q.d q.os
        replace x3 := fun q : Regrown => cell_regrown x3 q.d q.os
        replace x4 := fun q : Regrown => cell_regrown x4 q.d q.os
        replace d0 := fun q : Regrown => cell_regrown d0 q.d q.os
        replace d1 := fun q : Regrown => cell_regrown d1 q.d q.os
        refine wp_region_quiet_below (by kernel_rfl) (by kernel_rfl) ?_
        repeat (first | go_big_quiet_step ((first
          | (go_at_call 27; with_reducible exact Calls.regrown_of (ks _))
          | (go_at_call 54; with_reducible exact Calls.regrown_of (kh _ (below_regrown w2 _ _))))) | quiet_step (fail))
        refine wpQuiet_nil ?_
        rintro _ ⟨pq, rfl⟩
        have hbq := below_regrown w2 pq.d pq.os
        have HBE := Lib.hid (bthen HB1.out (bthen HB2.out hbq))
        clear x0 x1 x2 x3 x4 d0 d1
        go_wp2_with fail
        go_ret
        exact ⟨rfl, HBE.out⟩
      by_cases q2 : A.cols ≤ c
      · obtain rfl := HNO.out (fun hp => HOA.out (by omega) (hp k hlt))
        clear HY HNO HPL HX2 HOA HOB kh
        replace x0 := fun q : Regrown => cell_regrown x0 q.d q.os
        replace x1 := fun q : Regrown => cell_regrown x1 q.d q.os
        replace x2 := fun q : Regrown => cell_regrown x2 q.d q.os
        replace x3 := fun q : Regrown => cell_regrown x3 q.d q.os
        replace x4 := fun q : Regrown => cell_regrown x4 q.d q.os
        replace d0 := fun q : Regrown => cell_regrown d0 q.d q.os
        replace d1 := fun q : Regrown => cell_regrown d1 q.d q.os
        refine wp_region_quiet_below (by kernel_rfl) (by kernel_rfl) ?_
        repeat (first | go_big_quiet_step ((first
          | (go_at_call 27; with_reducible exact Calls.regrown_of (ks _))
          | (go_at_call 54; with_reducible exact Calls.regrown_of (kh _ (below_regrown w2 _ _))))) | quiet_step (fail))
        refine wpQuiet_nil ?_
        rintro _ ⟨pq, rfl⟩
        have hbq := below_regrown w2 pq.d pq.os
        have HBE := Lib.hid (bthen HB1.out (bthen HB2.out hbq))
        clear x0 x1 x2 x3 x4 d0 d1
        go_wp2_with fail
        go_ret
        exact ⟨rfl, HBE.out⟩
      by_cases q3 : rr < 0
      · obtain rfl := HNO.out (fun hp => HOA.out (by omega) (hp k hlt))
        clear HY HNO HPL HX2 HOA HOB kh
        replace x0 := fun q : Regrown => cell_regrown x0 q.d q.os
        replace x1 := fun q : Regrown => cell_regrown x1 q.d q.os
        replace x2 := fun q : Regrown => cell_regrown x2 q.d q.os
        replace x3 := fun q : Regrown => cell_regrown x3 q.d q.os
        replace x4 := fun q : Regrown => cell_regrown x4 q.d q.os
        replace d0 := fun q : Regrown => cell_regrown d0 q.d q.os
        replace d1 := fun q : Regrown => cell_regrown d1 q.d q.os
        refine wp_region_quiet_below (by kernel_rfl) (by kernel_rfl) ?_
        repeat (first | go_big_quiet_step ((first
          | (go_at_call 27; with_reducible exact Calls.regrown_of (ks _))
          | (go_at_call 54; with_reducible exact Calls.regrown_of (kh _ (below_regrown w2 _ _))))) | quiet_step (fail))
        refine wpQuiet_nil ?_
        rintro _ ⟨pq, rfl⟩
        have hbq := below_regrown w2 pq.d pq.os
        have HBE := Lib.hid (bthen HB1.out (bthen HB2.out hbq))
        clear x0 x1 x2 x3 x4 d0 d1
        go_wp2_with fail
        go_ret
        exact ⟨rfl, HBE.out⟩
      by_cases q4 : S ≤ rr
      · obtain rfl := HNO.out (fun hp => HOA.out (by omega) (hp k hlt))
        clear HY HNO HPL HX2 HOA HOB kh
        replace x0 := fun q : Regrown => cell_regrown x0 q.d q.os
        replace x1 := fun q : Regrown => cell_regrown x1 q.d q.os
        replace x2 := fun q : Regrown => cell_regrown x2 q.d q.os
        replace x3 := fun q : Regrown => cell_regrown x3 q.d q.os
        replace x4 := fun q : Regrown => cell_regrown x4 q.d q.os
        replace d0 := fun q : Regrown => cell_regrown d0 q.d q.os
        replace d1 := fun q : Regrown => cell_regrown d1 q.d q.os
        refine wp_region_quiet_below (by kernel_rfl) (by kernel_rfl) ?_
        repeat (first | go_big_quiet_step ((first
          | (go_at_call 27; with_reducible exact Calls.regrown_of (ks _))
          | (go_at_call 54; with_reducible exact Calls.regrown_of (kh _ (below_regrown w2 _ _))))) | quiet_step (fail))
        refine wpQuiet_nil ?_
        rintro _ ⟨pq, rfl⟩
        have hbq := below_regrown w2 pq.d pq.os
        have HBE := Lib.hid (bthen HB1.out (bthen HB2.out hbq))
        clear x0 x1 x2 x3 x4 d0 d1
        go_wp2_with fail
        go_ret
        exact ⟨rfl, HBE.out⟩
      replace HOB := Lib.hid (HOB.out ⟨by omega, by omega, by omega, by omega⟩)
      clear HOA
      cases f2 with
      | true =>
        obtain rfl := HNO.out (fun hp => by have := (hp k hlt).2; have h2 := HF2.out; rw [decide_eq_true this] at h2; cases h2)
        clear HY HNO HPL HX2 HOB
        replace x0 := fun q : Regrown => cell_regrown x0 q.d q.os
        replace x1 := fun q : Regrown => cell_regrown x1 q.d q.os
        replace x2 := fun q : Regrown => cell_regrown x2 q.d q.os
        replace x3 := fun q : Regrown => cell_regrown x3 q.d q.os
        replace x4 := fun q : Regrown => cell_regrown x4 q.d q.os
        replace d0 := fun q : Regrown => cell_regrown d0 q.d q.os
        replace d1 := fun q : Regrown => cell_regrown d1 q.d q.os
        refine wp_region_quiet_below (by kernel_rfl) (by kernel_rfl) ?_
        repeat (first | go_big_quiet_step ((first
          | (go_at_call 27; with_reducible exact Calls.regrown_of (ks _))
          | (go_at_call 54; with_reducible exact Calls.regrown_of (kh _ (below_regrown w2 _ _))))) | quiet_step (fail))
        refine wpQuiet_nil ?_
        rintro _ ⟨pq, rfl⟩
        have hbq := below_regrown w2 pq.d pq.os
        have HBE := Lib.hid (bthen HB1.out (bthen HB2.out hbq))
        clear x0 x1 x2 x3 x4 d0 d1
        go_wp2_with fail
        go_ret
        exact ⟨rfl, HBE.out⟩
      | false =>
        have HPL2 := Lib.hid (show ∀ i, i < k + 1 → A.okAt i from fun i hi => by
          by_cases e : i = k
          · subst e; exact HOB.out (of_decide_eq_true HF2.out)
          · exact HPL.out i (by omega))
        clear HPL HOB HX2
        replace x0 := fun q : Regrown => cell_regrown x0 q.d q.os
        replace x1 := fun q : Regrown => cell_regrown x1 q.d q.os
        replace x2 := fun q : Regrown => cell_regrown x2 q.d q.os
        replace x3 := fun q : Regrown => cell_regrown x3 q.d q.os
        replace x4 := fun q : Regrown => cell_regrown x4 q.d q.os
        replace d0 := fun q : Regrown => cell_regrown d0 q.d q.os
        replace d1 := fun q : Regrown => cell_regrown d1 q.d q.os
        refine wp_region_quiet_below (by kernel_rfl) (by kernel_rfl) ?_
        repeat (first | go_big_quiet_step ((first
          | (go_at_call 27; with_reducible exact Calls.regrown_of (ks _))
          | (go_at_call 54; with_reducible exact Calls.regrown_of (kh _ (below_regrown w2 _ _))))) | quiet_step (fail))
        refine wpQuiet_nil ?_
        rintro _ ⟨pq, rfl⟩
        have hbq := below_regrown w2 pq.d pq.os
        have HBN := Lib.hid (bthen HB2.out hbq)
        clear x0 x1 x2 x3 x4 d0 d1 hbq
        go_wp2_with fail
        go_roundw
        case rel => exact ⟨k + 1, by omega, by go_num, HBN.out, HPL2.out⟩
        case measure => simp [intOf]; omega
    · obtain rfl : k = A.bounds.length := by omega
      obtain rfl := HY.out (fun j hj => HPL.out j hj)
      have HBE := Lib.hid (bthen HB1.out HB.out)
      clear HY HNO HPL HX
      go_wp2_with fail
      go_ret
      exact ⟨rfl, HBE.out⟩
/-! ### Check -/
theorem pacheck_far (A : AirP) (p : AirAt) (w : World) (hf : FewAir A) (hn : ¬ A.near) : Calls Try.prog 23 #[A.val p] w fun e w' => e = .returned (.int .i64 1) ∧ Below w.heap.size w w' := by
  have hb0 := fun o => (Below.refl w.heap.size w).alloc (Nat.le_refl _) o
  by_cases h1 : A.log < 0
  · clear hn hf
    go_enter Try.func23, Try.ntmps23
    go_wp2
    go_ret
    exact ⟨rfl, hb0 _⟩
  by_cases h2 : 10 < A.log
  · clear hn hf
    go_enter Try.func23, Try.ntmps23
    go_wp2
    go_ret
    exact ⟨rfl, hb0 _⟩
  have h3 : (16 : Int) < (A.bounds.length : Int) := by
    refine Int.not_le.1 fun h => hn ⟨by omega, by omega, by omega⟩
  clear hn hf
  go_enter Try.func23, Try.ntmps23
  go_wp2
  go_ret
  exact ⟨rfl, hb0 _⟩
set_option maxHeartbeats 4000000 in
theorem pacheck_is (A : AirP) (p : AirAt) (r : Int) (w : World) (hA : AirA w A p) (hk : OkAir A) (hf : FewAir A) (hr : A.check = r) : Calls Try.prog 23 #[A.val p] w fun e w' => e = .returned (.int .i64 r) ∧ Below w.heap.size w w' := by
  by_cases hnear : A.near
  case neg =>
    rw [AirP.check_far hnear] at hr
    subst hr
    exact pacheck_far A p w hf hnear
  have HN := Lib.hid hnear; have HR := Lib.hid hr
  obtain ⟨g1, g2, g3⟩ := hnear
  have hg1 : ¬ A.log < 0 := by omega
  have hg2 : ¬ 10 < A.log := by omega
  have hg3 : ¬ (16 : Int) < (A.bounds.length : Int) := by omega
  obtain ⟨ls, e, hall⟩ : ∃ ls e, A.all = (ls, e) := ⟨_, _, rfl⟩
  have HALL := Lib.hid hall
  have kr := fun W (h : AirA W A p) => parules_pub A p ls e W h hk hf hall
  unfold RulesPost at kr
  obtain ⟨f, hpl⟩ : ∃ f, decide A.places = f := ⟨_, rfl⟩
  have kp := fun W (h : AirA W A p) => paplaced_is A p f W h HN.out hpl
  have HPL := Lib.hid hpl
  have HA := Lib.hid hA
  clear hr hA hall hk hf hpl
  go_enter Try.func23, Try.ntmps23
  go_upto_region 1 with fail
  refine wp_gen (fun W => Below w.heap.size w W ∧ AirC W w.heap.size A p) ⟨(Below.refl _ _).alloc (Nat.le_refl _) _, AirC.new _ _ _ _⟩ ?_
  obtain ⟨g, hg⟩ : ∃ g, w.heap.size = g := ⟨_, rfl⟩
  rintro w0 ⟨hB0, hC0⟩
  rw [hg] at hC0
  simp only [hg]
  have HA0 := Lib.hid (HA.out.keep hB0)
  have HB0 := Lib.hid hB0
  have HC0 := Lib.hid hC0
  clear hB0 hg HA
  obtain ⟨x0, x1, x2, x3, x4⟩ := hC0
  go_upto_region 4 with (go_at_call 40; (with_reducible refine (kr _ HA0.out).mono ?_); rintro E w1 ⟨hb, al, cl, rfl, _, _⟩)
  have HB1 := Lib.hid (bthen HB0.out hb)
  have HC1 := Lib.hid (HC0.out.keep hb); have HA1 := Lib.hid (HA0.out.keep hb)
  clear hb x0 x1 x2 x3 x4 kr HC0 HA0 HB0
  obtain ⟨x0, x1, x2, x3, x4⟩ := HC1.out
  by_cases he : e = 0
  · subst he
    have HOK := Lib.hid (show A.all.2 = 0 by rw [HALL.out])
    cases f with
    | true =>
      have hD := (AirP.check_is HN.out HOK.out (of_decide_eq_true HPL.out)).symm.trans HR.out
      subst hD
      clear HR HALL HPL
      go_wp2_with (go_at_call 41; (with_reducible refine (kp _ HA1.out).mono ?_); rintro E w2 ⟨rfl, hb⟩; have HB2 := Lib.hid (bthen HB1.out hb); clear hb)
      go_ret
      exact ⟨rfl, HB2.out⟩
    | false =>
      have hD := (AirP.check_places HN.out HOK.out (of_decide_eq_false HPL.out)).symm.trans HR.out
      subst hD
      clear HR HALL HPL
      go_wp2_with (go_at_call 41; (with_reducible refine (kp _ HA1.out).mono ?_); rintro E w2 ⟨rfl, hb⟩; have HB2 := Lib.hid (bthen HB1.out hb); clear hb)
      go_ret
      exact ⟨rfl, HB2.out⟩
  · have hD := (AirP.check_rules HN.out (show A.all.2 = e by rw [HALL.out]) he).symm.trans HR.out
    subst hD
    clear HR HALL
    go_wp2_with fail
    go_ret
    exact ⟨rfl, HB1.out⟩
end Go.Proofs.Ytjcgakmhpblanaa
