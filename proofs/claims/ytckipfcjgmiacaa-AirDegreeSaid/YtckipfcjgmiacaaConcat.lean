/-
  slices.Concat: the cells of slices, one behind the other, in a row of its own. (Written by gen_concat.py.)
-/
import Derived.Test.YtckipfcjgmiacaaRows3
import Derived.Lib.AppendZerosOnto
import Derived.Lib.SliceRun
namespace Go.Proofs.Ytckipfcjgmiacaa
open Go Go.RowKit
set_option linter.unusedVariables false

theorem run_append_none_any {P : Program} (w : World) (base : Nat) (t ty e : TypeId) (i : TypeInfo) (size : Nat) (ht : P.underlying t = some (.slice e)) (hi : P.info? e = some i)
    (v : Value) (n c : Nat) (xs : List Value) (hown : w.ownsRow base e size v n xs) : (Builtin.append_ #[t, t] ty #[v, .slice none 0 c]).run P w = .ok v w := by
  rcases hown.2 with ⟨rfl, rfl⟩ | ⟨g, cap, cur, rfl, _, _, hnc, _⟩
  · simp [Builtin.append_, run_underlying ht, sizeOf, typeInfo, hi, Builtin.lenOf, Builtin.firstCells]
  · simp [Builtin.append_, run_underlying ht, sizeOf, typeInfo, hi, Builtin.lenOf, Builtin.firstCells, hnc, storeCells]
/-- append of a whole slice, nil or not. -/
theorem wpList_append4 {P : Program} {w : World} {ops : Array Oper} {rest : List Oper} {o : Oper} {a : Act} {Q : Exit → Act → World → Prop} (hgd : o.guard = none) (s x : Operand) (t : TypeId)
    (ho : o.op = .call { callee := .builtin .append, args := #[s, x], argTypes := #[t, t] })
    (base : Nat) (e : TypeId) (i : TypeInfo) (z : Value) (size bytes : Nat) (ht : P.underlying t = some (.slice e)) (hi : P.info? e = some i) (hz : i.zero = some z)
    (hsize : i.size = size) (hby : i.bytes = bytes) (hzs : z.cells.size = size) (hsz : 0 < size)
    (v : Value) (n : Nat) (xs : List Value) (hs : a.eval s = v) (hown : w.ownsRow base e size v n xs)
    (ax : Option Addr) (m c : Nat) (news : List Value) (hx : a.eval x = .slice ax m c) (hl : news.length = m * size) (hm0 : ax = none → m = 0)
    (hnews : ∀ ad, ax = some ad → ∀ j u, news[j]? = some u → w.cell? (ad.add j) = some u) (h1 : ∀ u ∈ news, u.oneCell' = true)
    (h63 : n + m ≤ maxLen) (hbytes : (n + m) * bytes ≤ 140737488355328) (hbase : base ≤ w.heap.size)
    (h : ∀ v' w', w'.ownsRow base e size v' (n + m) (xs ++ news) → w.grownBy w' v.ownBlock → (v'.ownBlock = v.ownBlock ∨ v'.ownBlock = some w.heap.size) → wpList P ops Q rest (a.put o.dst v') w') : wpList P ops Q (o :: rest) a w := by
  cases ax with
  | some ad => exact wpList_append3 hgd s x t ho base e i z size bytes ht hi hz hsize hby hzs hsz v n xs hs hown (some ad) m c news hx hl (by simp) (by simp) hnews h1 h63 hbytes hbase h
  | none =>
    refine wpList_plain hgd fun K hK => ?_
    obtain rfl := hm0 rfl
    obtain rfl : news = [] := List.length_eq_zero_iff.1 (by simpa using hl)
    have hrun := run_append_none_any (P := P) w base t o.type e i size ht hi v n c xs hown
    unfold Oper.wp execOp
    simp only [ho, resolve, invoke, builtin, Sem.run_bind, Sem.run_pure, Result.andThen_ok, List.map_toArray, List.map_cons, List.map_nil, hs, hx, hrun]
    exact hK _ _ (h v w (by simpa using hown) (World.grownBy.refl _ _) (.inl rfl))
/-- A slice that comes in: where it lies, its length and room, its cells. -/
structure Srcd where
  a : Option Addr
  n : Nat
  c : Nat
  vs : List Value
def srcZ : Srcd := ⟨none, 0, 0, []⟩
structure SrcA (W : World) (s : Nat) (x : Srcd) : Prop where
  len : x.vs.length = x.n * s
  n0 : x.a = none → x.n = 0
  cells : ∀ ad, x.a = some ad → ∀ j u, x.vs[j]? = some u → W.cell? (ad.add j) = some u
  one : ∀ u ∈ x.vs, u.oneCell' = true
theorem SrcA.keep {W W' : World} {s : Nat} {x : Srcd} (h : SrcA W s x) (hb : Below W.heap.size W W') : SrcA W' s x := ⟨h.len, h.n0, fun ad e j u hu => bkeep hb (h.cells ad e j u hu), h.one⟩
def sumSrc (l : List Srcd) : Nat := (l.map (·.n)).sum
def catSrc (l : List Srcd) : List Value := l.flatMap (·.vs)
theorem take_snoc {α : Type} (l : List α) (d : α) (k : Nat) (h : k < l.length) : l.take (k + 1) = l.take k ++ [l.getD k d] := by
  rw [List.take_succ_eq_append_getElem h]
  simp [List.getD, h]
theorem sumSrc_take {l : List Srcd} {k : Nat} (h : k < l.length) : sumSrc (l.take (k + 1)) = sumSrc (l.take k) + (l.getD k srcZ).n := by
  rw [take_snoc l srcZ k h]; simp [sumSrc]
theorem catSrc_take {l : List Srcd} {k : Nat} (h : k < l.length) : catSrc (l.take (k + 1)) = catSrc (l.take k) ++ (l.getD k srcZ).vs := by
  rw [take_snoc l srcZ k h]; simp [catSrc]
theorem sumSrc_app (l m : List Srcd) : sumSrc (l ++ m) = sumSrc l + sumSrc m := by simp [sumSrc]
theorem sumSrc_le (l : List Srcd) (k : Nat) : sumSrc (l.take k) ≤ sumSrc l := by
  have h := congrArg sumSrc (List.take_append_drop k l)
  rw [sumSrc_app] at h
  omega
structure SrcRow (W : World) (s b : Nat) (L : List Srcd) : Prop where
  cell : ∀ k, k < L.length → W.cell? ⟨b, k, none⟩ = some (.slice (L.getD k srcZ).a (L.getD k srcZ).n (L.getD k srcZ).c)
  src : ∀ k, k < L.length → SrcA W s (L.getD k srcZ)
theorem SrcRow.keep {W W' : World} {s b : Nat} {L : List Srcd} (h : SrcRow W s b L) (hb : Below W.heap.size W W') : SrcRow W' s b L := ⟨fun k hk => bkeep hb (h.cell k hk), fun k hk => (h.src k hk).keep hb⟩
/-- A literal of slices. -/
theorem SrcRow.lit {w : World} {s : Nat} {L : List Srcd} {cs : Array Value} {T : TypeId} (h : ∀ k, k < L.length → SrcA w s (L.getD k srcZ)) (hc : cs.toList = L.map fun x => .slice x.a x.n x.c) : SrcRow (w.alloc (.cells cs T)) s w.heap.size L := by
  refine ⟨fun k hk => ?_, fun k hk => (h k hk).keep ((Below.refl _ _).alloc (Nat.le_refl _) _)⟩
  have e : cs[k]? = some (.slice (L.getD k srcZ).a (L.getD k srcZ).n (L.getD k srcZ).c) := by
    rw [← Array.getElem?_toList, hc, List.getElem?_map]
    simp [List.getD, hk]
  simp [go_sem, e]
theorem ctsinfo : (Try.prog.info? 9).map (fun i => (i.zero, i.size, i.bytes)) = some (some (.string ⟨#[]⟩), 1, 16) := by kernel_rfl
set_option maxHeartbeats 2000000 in
set_option maxRecDepth 100000 in
theorem ctsgrow_is (n : Nat) (w : World) (hn : n ≤ 1000000) : Calls Try.prog 54 #[.slice none 0 0, .int .i64 n] w fun e w' => Below w.heap.size w w' ∧ ∃ v, e = .returned v ∧ w'.ownsRow w.heap.size 9 1 v 0 [] := by
  obtain ⟨i0, hi, hz0, hz1, hz2⟩ := info_parts ctsinfo
  by_cases h0 : n = 0
  · subst h0
    go_enter Try.func54, Try.ntmps54
    go_wp2
    go_ret
    exact ⟨Below.refl _ _, _, rfl, World.ownsRow_nil _ _ _ _⟩
  have h1 : ¬ ((n : Int) < 0) := by omega
  have h4 : (n : Int) > 0 := by omega
  have hrz : ∀ ty, (Builtin.append_ #[22, 3] ty #[.slice none 0 0, .int .i64 (n : Int)]).run Try.prog w =
      .ok (.slice (some ⟨w.heap.size, 0, none⟩) n (grownCap w n 0 9)) (w.drew.alloc (.cells (([] : List Value).toArray ++ Builtin.zeroCells (Value.cells (.string ⟨#[]⟩)) n ++ Builtin.zeroCells (Value.cells (.string ⟨#[]⟩)) (grownCap w n 0 9 - n)) 9)) := fun ty => by
    have h := Lib.run_append_grow_zeros w 22 3 ty 9 i0 (.string ⟨#[]⟩) .i64 .i64 Try.underlying22 Try.underlying3 hi hz0 none 0 0 [] (run_firstCells_none w.drew i0.size 0 0 0) n (by omega) (by omega) (by omega) (by omega) (by rw [hz2]; omega)
      (by rw [Nat.zero_add]; exact growslice_fits (by omega) (by rw [hz2]; omega))
    rw [Nat.zero_add] at h
    exact h
  have hGn : n ≤ grownCap w n 0 9 := grownCap_ge w _ _ _
  have hGm := grownCap_le_maxLen w n 0 9 (by unfold maxLen; omega)
  obtain ⟨G, hG⟩ : ∃ G, G = grownCap w n 0 9 := ⟨_, rfl⟩
  rw [← hG] at hrz hGn hGm
  clear hG
  have HOWN : Hid ((w.drew.alloc (.cells (([] : List Value).toArray ++ Builtin.zeroCells (Value.cells (.string ⟨#[]⟩)) n ++ Builtin.zeroCells (Value.cells (.string ⟨#[]⟩)) (G - n)) 9)).ownsRow w.heap.size 9 1 (.slice (some ⟨w.heap.size, 0, none⟩) 0 G) 0 []) := Lib.hid ⟨rfl, .inr ⟨w.heap.size, G, _, rfl, Nat.le_refl _, by have := heap_alloc_new w.drew (.cells (([] : List Value).toArray ++ Builtin.zeroCells (Value.cells (.string ⟨#[]⟩)) n ++ Builtin.zeroCells (Value.cells (.string ⟨#[]⟩)) (G - n)) 9); exact this, Nat.zero_le _, hGm, by
    simp only [Array.size_append, size_zeroCells, List.size_toArray, List.length_nil]
    show 0 + n * 1 + (G - n) * 1 = G * 1
    omega, by simp⟩⟩
  have hB : Hid (∀ o, Below w.heap.size w (w.drew.alloc o)) := Lib.hid fun o => (Below.drew (Below.refl _ _)).alloc (Nat.le_refl _) o
  have hG63 : G ≤ 9223372036854775807 := by unfold maxLen at hGm; omega
  clear hi hz0 hz1 hz2 hGm
  obtain ⟨C, hC⟩ : ∃ C, (([] : List Value).toArray ++ Builtin.zeroCells (Value.cells (.string ⟨#[]⟩)) n ++ Builtin.zeroCells (Value.cells (.string ⟨#[]⟩)) (G - n)) = C := ⟨_, rfl⟩
  rw [hC] at HOWN
  simp only [hC] at hrz
  clear hC
  go_enter Try.func54, Try.ntmps54
  go_wp2_with (at_builtin; refine Lib.wpList_append_run _ rfl _ _ _ _ rfl _ _ rfl rfl _ _ (hrz _) ?_)
  all_goals (go_ret; exact ⟨hB.out _, _, rfl, HOWN.out⟩)
def ctsCatSum (w : World) (L : List Srcd) (acc i : Value) (W : World) : Prop := ∃ k : Nat, k ≤ L.length ∧ i = .int .i64 k ∧ acc = .int .i64 (sumSrc (L.take k) : Nat) ∧ W = w
def ctsCatRel (w : World) (L : List Srcd) (v i : Value) (W : World) : Prop := ∃ k : Nat, k ≤ L.length ∧ i = .int .i64 k ∧ Below w.heap.size w W ∧ W.ownsRow w.heap.size 9 1 v (sumSrc (L.take k)) (catSrc (L.take k))
set_option maxHeartbeats 4000000 in
set_option maxRecDepth 100000 in
theorem ctsconcat_is (b cap : Nat) (L : List Srcd) (w : World) (h : SrcRow w 1 b L) (hl : L.length ≤ 1000) (hs : sumSrc L ≤ 1000000) :
    Calls Try.prog 35 #[.slice (some ⟨b, 0, none⟩) L.length cap] w fun e w' => Below w.heap.size w w' ∧ ∃ v, e = .returned v ∧ w'.ownsRow w.heap.size 9 1 v (sumSrc L) (catSrc L) := by
  obtain ⟨i0, hi, hz0, hz1, hz2⟩ := info_parts ctsinfo
  have H := Lib.hid h
  clear h
  go_enter Try.func35, Try.ntmps35
  go_upto_region 3 with fail
  go_loopw [3, 11] (ctsCatSum w L) (fun _ i _ => L.length - (intOf i).toNat)
  case atStart => exact ⟨0, Nat.zero_le _, rfl, rfl, rfl⟩
  case round =>
    obtain ⟨k, hk, rfl, rfl, hW⟩ := hrel
    subst wr
    by_cases hlt : k < L.length
    · have hltI : (k : Int) < (L.length : Int) := by omega
      have hk0 : (0 : Int) ≤ (k : Int) := by omega
      have c := H.out.cell k hlt
      have hS := sumSrc_take hlt
      have hle := sumSrc_le L (k + 1)
      obtain ⟨S1, hS1⟩ : ∃ S, sumSrc (L.take (k + 1)) = S := ⟨_, rfl⟩
      have HS1 := Lib.hid hS1
      rw [hS1] at hS hle
      clear hS1
      generalize sumSrc (L.take k) = S0 at *
      generalize (L.getD k srcZ) = x at *
      obtain ⟨xa, xn, xc, xv⟩ := x
      dsimp only at c hS
      have hneg : ¬ ((S0 : Int) + (xn : Int) < 0) := by omega
      have hw : wrap64 ((S0 : Int) + (xn : Int)) = (S0 : Int) + (xn : Int) := by unfold wrap64; omega
      have HN := Lib.hid (show ((S1 : Nat) : Int) = (S0 : Int) + (xn : Int) by omega)
      clear hS
      go_wp2
      go_roundw
      case rel => exact ⟨k + 1, by omega, by go_num, by rw [HS1.out, HN.out, hw], rfl⟩
      case measure => simp [intOf]; omega
    · obtain rfl : k = L.length := by omega
      rw [List.take_length]
      have kg := ctsgrow_is (sumSrc L) w hs
      have HS := Lib.hid hs
      generalize hSL : sumSrc L = S at *
      have HSL := Lib.hid hSL
      clear hSL
      go_upto_region 11 with (go_at_call 54; (with_reducible refine kg.mono ?_); rintro e w1 ⟨hb, v, rfl, hown⟩; obtain ⟨a0, c0, rfl⟩ := own_form hown)
      have HB := Lib.hid hb; have HO := Lib.hid hown
      clear hb hown kg hk hlt
      go_loopw [6, 27] (ctsCatRel w L) (fun _ i _ => L.length - (intOf i).toNat)
      case atStart => exact ⟨0, Nat.zero_le _, rfl, HB.out, HO.out⟩
      case round =>
        clear HB HO
        obtain ⟨k, hk, rfl, hb, hown⟩ := hrel
        obtain ⟨av, cv, rfl⟩ := own_form hown
        by_cases hlt : k < L.length
        · have hltI : (k : Int) < (L.length : Int) := by omega
          have hk0 : (0 : Int) ≤ (k : Int) := by omega
          have H2 := H.out.keep hb
          have c := H2.cell k hlt
          have HX := Lib.hid (H2.src k hlt)
          have hS := sumSrc_take hlt
          have hle := sumSrc_le L (k + 1)
          have HC := Lib.hid (catSrc_take hlt)
          have hsz := hb.size
          have HB := Lib.hid hb; have HO := Lib.hid hown
          rw [HSL.out] at hle
          have hS2 := HS.out
          have HSS := Lib.hid hS
          rw [hS] at hle
          clear hS hb hown H2
          generalize sumSrc (L.take k) = S0 at *
          generalize (L.getD k srcZ) = x at *
          obtain ⟨xa, xn, xc, xv⟩ := x
          dsimp only at c hle
          go_wp2_with (at_builtin; refine wpList_append4 rfl _ _ 22 rfl w.heap.size 9 i0 (.string ⟨#[]⟩) 1 16 Try.underlying22 hi hz0 hz1 hz2 rfl (by decide) _ _ _ rfl HO.out xa xn xc xv rfl HX.out.len HX.out.n0 HX.out.cells HX.out.one (by unfold maxLen; omega) (by omega) hsz ?_; intro v2 w2 q1 q2 _; obtain ⟨a2, c2, rfl⟩ := own_form q1; have HB2 := Lib.hid (own_row_below HO.out HB.out q2 (Nat.le_refl _) HB.out.size); have HO2 := Lib.hid q1; clear q1 q2)
          go_roundw
          case rel => exact ⟨k + 1, by omega, by go_num, HB2.out, by rw [HSS.out, HC.out]; exact HO2.out⟩
          case measure => simp [intOf]; omega
        · obtain rfl : k = L.length := by omega
          rw [List.take_length, HSL.out] at hown ⊢
          have HB := Lib.hid hb; have HO := Lib.hid hown
          clear hb hown
          go_wp2
          go_ret
          exact ⟨HB.out, _, rfl, HSL.out ▸ HO.out⟩
theorem ctoinfo : (Try.prog.info? 51).map (fun i => (i.zero, i.size, i.bytes)) = some (some (.agg #[.int .i64 0, .int .u64 0]), 2, 16) := by kernel_rfl
set_option maxHeartbeats 2000000 in
set_option maxRecDepth 100000 in
theorem ctogrow_is (n : Nat) (w : World) (hn : n ≤ 1000000) : Calls Try.prog 68 #[.slice none 0 0, .int .i64 n] w fun e w' => Below w.heap.size w w' ∧ ∃ v, e = .returned v ∧ w'.ownsRow w.heap.size 51 2 v 0 [] := by
  obtain ⟨i0, hi, hz0, hz1, hz2⟩ := info_parts ctoinfo
  by_cases h0 : n = 0
  · subst h0
    go_enter Try.func68, Try.ntmps68
    go_wp2
    go_ret
    exact ⟨Below.refl _ _, _, rfl, World.ownsRow_nil _ _ _ _⟩
  have h1 : ¬ ((n : Int) < 0) := by omega
  have h4 : (n : Int) > 0 := by omega
  have hrz : ∀ ty, (Builtin.append_ #[34, 3] ty #[.slice none 0 0, .int .i64 (n : Int)]).run Try.prog w =
      .ok (.slice (some ⟨w.heap.size, 0, none⟩) n (grownCap w n 0 51)) (w.drew.alloc (.cells (([] : List Value).toArray ++ Builtin.zeroCells (Value.cells (.agg #[.int .i64 0, .int .u64 0])) n ++ Builtin.zeroCells (Value.cells (.agg #[.int .i64 0, .int .u64 0])) (grownCap w n 0 51 - n)) 51)) := fun ty => by
    have h := Lib.run_append_grow_zeros w 34 3 ty 51 i0 (.agg #[.int .i64 0, .int .u64 0]) .i64 .i64 Try.underlying34 Try.underlying3 hi hz0 none 0 0 [] (run_firstCells_none w.drew i0.size 0 0 0) n (by omega) (by omega) (by omega) (by omega) (by rw [hz2]; omega)
      (by rw [Nat.zero_add]; exact growslice_fits (by omega) (by rw [hz2]; omega))
    rw [Nat.zero_add] at h
    exact h
  have hGn : n ≤ grownCap w n 0 51 := grownCap_ge w _ _ _
  have hGm := grownCap_le_maxLen w n 0 51 (by unfold maxLen; omega)
  obtain ⟨G, hG⟩ : ∃ G, G = grownCap w n 0 51 := ⟨_, rfl⟩
  rw [← hG] at hrz hGn hGm
  clear hG
  have HOWN : Hid ((w.drew.alloc (.cells (([] : List Value).toArray ++ Builtin.zeroCells (Value.cells (.agg #[.int .i64 0, .int .u64 0])) n ++ Builtin.zeroCells (Value.cells (.agg #[.int .i64 0, .int .u64 0])) (G - n)) 51)).ownsRow w.heap.size 51 2 (.slice (some ⟨w.heap.size, 0, none⟩) 0 G) 0 []) := Lib.hid ⟨rfl, .inr ⟨w.heap.size, G, _, rfl, Nat.le_refl _, by have := heap_alloc_new w.drew (.cells (([] : List Value).toArray ++ Builtin.zeroCells (Value.cells (.agg #[.int .i64 0, .int .u64 0])) n ++ Builtin.zeroCells (Value.cells (.agg #[.int .i64 0, .int .u64 0])) (G - n)) 51); exact this, Nat.zero_le _, hGm, by
    simp only [Array.size_append, size_zeroCells, List.size_toArray, List.length_nil]
    show 0 + n * 2 + (G - n) * 2 = G * 2
    omega, by simp⟩⟩
  have hB : Hid (∀ o, Below w.heap.size w (w.drew.alloc o)) := Lib.hid fun o => (Below.drew (Below.refl _ _)).alloc (Nat.le_refl _) o
  have hG63 : G ≤ 9223372036854775807 := by unfold maxLen at hGm; omega
  clear hi hz0 hz1 hz2 hGm
  obtain ⟨C, hC⟩ : ∃ C, (([] : List Value).toArray ++ Builtin.zeroCells (Value.cells (.agg #[.int .i64 0, .int .u64 0])) n ++ Builtin.zeroCells (Value.cells (.agg #[.int .i64 0, .int .u64 0])) (G - n)) = C := ⟨_, rfl⟩
  rw [hC] at HOWN
  simp only [hC] at hrz
  clear hC
  go_enter Try.func68, Try.ntmps68
  go_wp2_with (at_builtin; refine Lib.wpList_append_run _ rfl _ _ _ _ rfl _ _ rfl rfl _ _ (hrz _) ?_)
  all_goals (go_ret; exact ⟨hB.out _, _, rfl, HOWN.out⟩)
def ctoCatSum (w : World) (L : List Srcd) (acc i : Value) (W : World) : Prop := ∃ k : Nat, k ≤ L.length ∧ i = .int .i64 k ∧ acc = .int .i64 (sumSrc (L.take k) : Nat) ∧ W = w
def ctoCatRel (w : World) (L : List Srcd) (v i : Value) (W : World) : Prop := ∃ k : Nat, k ≤ L.length ∧ i = .int .i64 k ∧ Below w.heap.size w W ∧ W.ownsRow w.heap.size 51 2 v (sumSrc (L.take k)) (catSrc (L.take k))
set_option maxHeartbeats 4000000 in
set_option maxRecDepth 100000 in
theorem ctoconcat_is (b cap : Nat) (L : List Srcd) (w : World) (h : SrcRow w 2 b L) (hl : L.length ≤ 1000) (hs : sumSrc L ≤ 1000000) :
    Calls Try.prog 60 #[.slice (some ⟨b, 0, none⟩) L.length cap] w fun e w' => Below w.heap.size w w' ∧ ∃ v, e = .returned v ∧ w'.ownsRow w.heap.size 51 2 v (sumSrc L) (catSrc L) := by
  obtain ⟨i0, hi, hz0, hz1, hz2⟩ := info_parts ctoinfo
  have H := Lib.hid h
  clear h
  go_enter Try.func60, Try.ntmps60
  go_upto_region 3 with fail
  go_loopw [3, 11] (ctoCatSum w L) (fun _ i _ => L.length - (intOf i).toNat)
  case atStart => exact ⟨0, Nat.zero_le _, rfl, rfl, rfl⟩
  case round =>
    obtain ⟨k, hk, rfl, rfl, hW⟩ := hrel
    subst wr
    by_cases hlt : k < L.length
    · have hltI : (k : Int) < (L.length : Int) := by omega
      have hk0 : (0 : Int) ≤ (k : Int) := by omega
      have c := H.out.cell k hlt
      have hS := sumSrc_take hlt
      have hle := sumSrc_le L (k + 1)
      obtain ⟨S1, hS1⟩ : ∃ S, sumSrc (L.take (k + 1)) = S := ⟨_, rfl⟩
      have HS1 := Lib.hid hS1
      rw [hS1] at hS hle
      clear hS1
      generalize sumSrc (L.take k) = S0 at *
      generalize (L.getD k srcZ) = x at *
      obtain ⟨xa, xn, xc, xv⟩ := x
      dsimp only at c hS
      have hneg : ¬ ((S0 : Int) + (xn : Int) < 0) := by omega
      have hw : wrap64 ((S0 : Int) + (xn : Int)) = (S0 : Int) + (xn : Int) := by unfold wrap64; omega
      have HN := Lib.hid (show ((S1 : Nat) : Int) = (S0 : Int) + (xn : Int) by omega)
      clear hS
      go_wp2
      go_roundw
      case rel => exact ⟨k + 1, by omega, by go_num, by rw [HS1.out, HN.out, hw], rfl⟩
      case measure => simp [intOf]; omega
    · obtain rfl : k = L.length := by omega
      rw [List.take_length]
      have kg := ctogrow_is (sumSrc L) w hs
      have HS := Lib.hid hs
      generalize hSL : sumSrc L = S at *
      have HSL := Lib.hid hSL
      clear hSL
      go_upto_region 11 with (go_at_call 68; (with_reducible refine kg.mono ?_); rintro e w1 ⟨hb, v, rfl, hown⟩; obtain ⟨a0, c0, rfl⟩ := own_form hown)
      have HB := Lib.hid hb; have HO := Lib.hid hown
      clear hb hown kg hk hlt
      go_loopw [6, 27] (ctoCatRel w L) (fun _ i _ => L.length - (intOf i).toNat)
      case atStart => exact ⟨0, Nat.zero_le _, rfl, HB.out, HO.out⟩
      case round =>
        clear HB HO
        obtain ⟨k, hk, rfl, hb, hown⟩ := hrel
        obtain ⟨av, cv, rfl⟩ := own_form hown
        by_cases hlt : k < L.length
        · have hltI : (k : Int) < (L.length : Int) := by omega
          have hk0 : (0 : Int) ≤ (k : Int) := by omega
          have H2 := H.out.keep hb
          have c := H2.cell k hlt
          have HX := Lib.hid (H2.src k hlt)
          have hS := sumSrc_take hlt
          have hle := sumSrc_le L (k + 1)
          have HC := Lib.hid (catSrc_take hlt)
          have hsz := hb.size
          have HB := Lib.hid hb; have HO := Lib.hid hown
          rw [HSL.out] at hle
          have hS2 := HS.out
          have HSS := Lib.hid hS
          rw [hS] at hle
          clear hS hb hown H2
          generalize sumSrc (L.take k) = S0 at *
          generalize (L.getD k srcZ) = x at *
          obtain ⟨xa, xn, xc, xv⟩ := x
          dsimp only at c hle
          go_wp2_with (at_builtin; refine wpList_append4 rfl _ _ 34 rfl w.heap.size 51 i0 (.agg #[.int .i64 0, .int .u64 0]) 2 16 Try.underlying34 hi hz0 hz1 hz2 rfl (by decide) _ _ _ rfl HO.out xa xn xc xv rfl HX.out.len HX.out.n0 HX.out.cells HX.out.one (by unfold maxLen; omega) (by omega) hsz ?_; intro v2 w2 q1 q2 _; obtain ⟨a2, c2, rfl⟩ := own_form q1; have HB2 := Lib.hid (own_row_below HO.out HB.out q2 (Nat.le_refl _) HB.out.size); have HO2 := Lib.hid q1; clear q1 q2)
          go_roundw
          case rel => exact ⟨k + 1, by omega, by go_num, HB2.out, by rw [HSS.out, HC.out]; exact HO2.out⟩
          case measure => simp [intOf]; omega
        · obtain rfl : k = L.length := by omega
          rw [List.take_length, HSL.out] at hown ⊢
          have HB := Lib.hid hb; have HO := Lib.hid hown
          clear hb hown
          go_wp2
          go_ret
          exact ⟨HB.out, _, rfl, HSL.out ▸ HO.out⟩
end Go.Proofs.Ytckipfcjgmiacaa
