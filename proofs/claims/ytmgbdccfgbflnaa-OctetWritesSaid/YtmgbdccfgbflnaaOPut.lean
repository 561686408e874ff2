/-
  The program's Row, Pairs and Eight: bytes that are laid down one by one behind those of a row of the call's own.
-/
import Derived.Test.YtmgbdccfgbflnaaOctRef4
import Derived.Test.YtmgbdccfgbflnaaApps
import Derived.Laws.BytesArg
import Derived.Laws.OwnMore
import Derived.Laws.MakeOwn
namespace Go.Proofs.Ytmgbdccfgbflnaa
open Go Go.RowKit Go.Sort Go.BigFrame
set_option linter.unusedVariables false

/-- A slice of bytes that is put together since the world W. -/
def MadeB (W w : World) (v : Value) (xs : List Int) : Prop := w.ownsRow W.heap.size 5 1 v xs.length (xs.map (Value.int .u8)) ∧ Below W.heap.size W w
theorem MadeB.keep {W w w' : World} {v : Value} {xs : List Int} (h : MadeB W w v xs) (hb : Below w.heap.size w w') : MadeB W w' v xs := ⟨own_keep h.1 hb, bthen h.2 hb⟩
/-- What lies beside the row stays: its block is the one that it was, or a new one. -/
structure Grew (w w' : World) (v v' : Value) : Prop where
  grown : w.grownBy w' v.ownBlock
  own : ∀ k, v'.ownBlock = some k → v.ownBlock = some k ∨ w.heap.size ≤ k
theorem Grew.refl (w : World) (v : Value) : Grew w w v v := ⟨World.grownBy.refl _ _, fun k h => Or.inl h⟩
theorem Grew.trans {w w1 w2 : World} {v v1 v2 : Value} (h : Grew w w1 v v1) (h' : Grew w1 w2 v1 v2) : Grew w w2 v v2 := by
  refine ⟨⟨h'.grown.os.trans h.grown.os, h'.grown.tape.trans h.grown.tape, h'.grown.output.trans h.grown.output, Nat.le_trans h.grown.size h'.grown.size, fun k hk hne => ?_⟩, fun k hk => ?_⟩
  · refine (h'.grown.block k (Nat.lt_of_lt_of_le hk h.grown.size) fun e => ?_).trans (h.grown.block k hk hne)
    rcases h.own k e.symm with c | c
    · exact hne c.symm
    · omega
  · rcases h'.own k hk with c | c
    · exact h.own k c
    · exact Or.inr (Nat.le_trans h.grown.size c)
theorem Grew.alloc (w : World) (v : Value) (o : Obj) : Grew w (w.alloc o) v v := ⟨World.grownBy_alloc _ _ _, fun k h => Or.inl h⟩
theorem Grew.below {w w' : World} (v : Value) (h : Below w.heap.size w w') : Grew w w' v v := ⟨grown_of_below h, fun k h => Or.inl h⟩
theorem Grew.at {w w' : World} {v v' : Value} (hg : w.grownBy w' v.ownBlock) (ha : v'.ownBlock = v.ownBlock ∨ v'.ownBlock = some w.heap.size) : Grew w w' v v' :=
  ⟨hg, fun k hk => by
    rcases ha with e | e
    · exact Or.inl (e ▸ hk)
    · rw [hk] at e; cases e; exact Or.inr (Nat.le_refl _)⟩
theorem MadeB.step {W w w1 : World} {v v' : Value} {xs : List Int} {z : Int} (h : MadeB W w v xs)
    (hown : w1.ownsRow W.heap.size 5 1 v' (xs.length + 1) (xs.map (Value.int .u8) ++ [.int .u8 z])) (hg : w.grownBy w1 v.ownBlock) : MadeB W w1 v' (xs ++ [z]) :=
  ⟨by rw [List.length_append, List.map_append]; exact hown, h.2.grown hg h.2.size (own_ge h.1)⟩
/-- The bytes of a number, so many. -/
def octs (n : Int) (i : Nat) : List Int := (List.range i).map (oct n)
theorem octs_next (n : Int) (i : Nat) : octs n i ++ [oct n i] = octs n (i + 1) := by simp [octs, List.range_succ]
theorem octs_len (n : Int) (i : Nat) : (octs n i).length = i := by simp [octs]
theorem strOf_app (xs ys : List Int) : strOfNums (xs ++ ys) = strOfNums xs ++ strOfNums ys := by
  apply ByteArray.ext
  rw [ByteArray.data_append]
  simp [strOfNums]
theorem strOf_octs (xs : List Int) (n : Int) : strOfNums (xs ++ octs n 8) = strOfNums xs ++ eightB n := strOf_app _ _
theorem MadeB.text {W w : World} {v : Value} {xs : List Int} (h : MadeB W w v xs) : (v = .slice none 0 0 ∧ xs = []) ∨ ∃ g cap, v = .slice (some ⟨g, 0, none⟩) xs.length cap ∧ ∀ i, i < xs.length → w.cell? ⟨g, 0 + i, none⟩ = some (.int .u8 (xs.getD i 0)) := by
  rcases h.1.2 with ⟨rfl, h0⟩ | ⟨g, cap, cur, rfl, _⟩
  · exact Or.inl ⟨rfl, List.eq_nil_of_length_eq_zero h0⟩
  · refine Or.inr ⟨g, cap, rfl, fun i hi => ?_⟩
    have := h.1.cells (g := g) rfl i (.int .u8 (xs.getD i 0)) (by simp [List.getD, hi])
    rwa [Addr.add_lit] at this
theorem wpList_append_own_at {P : Program} {w : World} {ops : Array Oper} {rest : List Oper} {o : Oper} {a : Act} {Q : Exit → Act → World → Prop} (hgd : o.guard = none) (s x : Operand) (t : TypeId)
    (ho : o.op = .call { callee := .builtin .append, args := #[s, x], argTypes := #[t, t] })
    (base : Nat) (e : TypeId) (i : TypeInfo) (z : Value) (size bytes : Nat) (ht : P.underlying t = some (.slice e)) (hi : P.info? e = some i) (hz : i.zero = some z)
    (hsize : i.size = size) (hby : i.bytes = bytes) (hzs : z.cells.size = size) (hsz : 0 < size)
    (v : Value) (n : Nat) (xs : List Value) (hs : a.eval s = v) (hown : w.ownsRow base e size v n xs)
    (ad : Addr) (m c : Nat) (news : List Value) (hx : a.eval x = .slice (some ad) m c) (hl : news.length = m * size) (hnews : ∀ j u, news[j]? = some u → w.cell? (ad.add j) = some u) (h1 : ∀ u ∈ news, u.oneCell' = true)
    (h63 : n + m ≤ maxLen) (hbytes : (n + m) * bytes ≤ 140737488355328) (hbase : base ≤ w.heap.size)
    (h : ∀ v' w', w'.ownsRow base e size v' (n + m) (xs ++ news) → w.grownBy w' v.ownBlock → (v'.ownBlock = v.ownBlock ∨ v'.ownBlock = some w.heap.size) → wpList P ops Q rest (a.put o.dst v') w') : wpList P ops Q (o :: rest) a w :=
  wpList_plain hgd fun K hK => wp_append_own_at s x t ho base e i z size bytes ht hi hz hsize hby hzs hsz v n xs hs hown ad m c news hx hl hnews h1 h63 hbytes hbase fun v' w' h2 h3 h4 => hK _ _ (h v' w' h2 h3 h4)
def PutRel (w : World) (n : Int) (xs : List Int) (W0 : World) (v s m i : Value) (W : World) : Prop := ∃ k : Nat, k ≤ 8 ∧ i = .int .i64 k ∧ m = .int .u64 (n / 256 ^ k) ∧ MadeB w W s (xs ++ octs n k) ∧ Grew W0 W v s
set_option maxHeartbeats 1000000 in
theorem oput_is (W0 : World) (v : Value) (xs : List Int) (n : Int) (hn : U n) (w : World) (h : MadeB W0 w v xs) (hl : xs.length ≤ 2000000) :
    Calls Try.prog 23 #[v, .int .u64 n] w fun e w' => ∃ v', e = .returned v' ∧ MadeB W0 w' v' (xs ++ octs n 8) ∧ Grew w w' v v' := by
  obtain ⟨i0, hi, hz0, hz1, hz2⟩ := info_parts info8
  obtain ⟨hn0, hn1⟩ := hn
  have HM := Lib.hid h
  clear h
  go_enter Try.func23, Try.ntmps23
  go_upto_region 2 with fail
  go_loopw [0, 1, 5] (fun s m i W => PutRel W0 n xs w v s m i W) (fun _ _ i _ => 8 - (intOf i).toNat)
  case atStart => exact ⟨0, by omega, rfl, by simp, by simpa [octs] using HM.out, Grew.refl _ _⟩
  case round =>
    obtain ⟨k, hk, rfl, rfl, hM, hG⟩ := hrel
    by_cases hlt : k < 8
    · have hk8 : (k : Int) < 8 := by omega
      have hwr : IntKind.u8.wrap (n / 256 ^ k) = oct n k := by rw [IntKind.wrap_u8]; rfl
      have hsh : n / 256 ^ k / 256 = n / 256 ^ (k + 1) := by rw [Int.ediv_ediv_of_nonneg (by exact Int.pow_nonneg (by decide)), Int.pow_succ]
      have hown := hM.1
      have hsz := hM.2.size
      have hlen : (xs ++ octs n k).length ≤ 2000008 := by rw [List.length_append, octs_len]; omega
      have HT := Lib.hid (fun w1 v' z => @MadeB.step W0 _ w1 _ v' (xs ++ octs n k) z (hM.keep ((Below.refl _ _).alloc (Nat.le_refl _) (.cells #[.int .u8 (oct n k)] 5))))
      have HO := Lib.hid (show xs ++ octs n k ++ [oct n k] = xs ++ octs n (k + 1) by rw [List.append_assoc, octs_next])
      have HG := Lib.hid hG
      have HSH := Lib.hid hsh
      clear hM hG hsh
      generalize xs ++ octs n k = ys at *
      generalize oct n k = z at *
      generalize hm : n / 256 ^ k = m at *
      generalize ys.length = nn at *
      generalize hcs : ys.map (Value.int .u8) = cs at *
      go_upto_region 4 with (at_builtin; refine wpList_append_own_at rfl _ _ 44 rfl W0.heap.size 5 i0 (.int .u8 0) 1 1 Try.underlying44 hi hz0 hz1 hz2 rfl (by decide) _ _ _ rfl (hown.alloc _) ⟨wr.heap.size, 0, none⟩ 1 1 [.int .u8 z] rfl rfl ?c1 ?c2 ?c3 ?c4 ?c5 ?_)
      case c1 => exact one_src (by simp [go_sem])
      case c2 => intro u hu; simp at hu; subst hu; rfl
      case c3 => unfold maxLen; omega
      case c4 => omega
      case c5 => first | omega | (simp; omega)
      · intro v' w1 hown' hgrow hat
        have R : Hid (MadeB W0 w1 v' (ys ++ [z])) := Lib.hid (HT.out w1 v' z hown' hgrow)
        have G := Lib.hid (HG.out.trans ((Grew.alloc _ _ _).trans (Grew.at hgrow (by simpa using hat))))
        clear hown' hgrow hat hown HT HG
        go_wp2
        go_roundw
        case rel => exact ⟨k + 1, by omega, by go_num, by rw [HSH.out], by rw [← HO.out]; exact R.out, G.out⟩
        case measure => simp [intOf]; omega
    · obtain rfl : k = 8 := by omega
      go_wp2
      go_ret
      exact ⟨_, rfl, hM, hG⟩
theorem make_bytes (c : Nat) (hc : c ≤ 2000000) (W : World) : (Instr.makeSlice 44 (.int .i64 0) (.int .i64 (c : Int))).run Try.prog W = .ok (.slice (some ⟨W.heap.size, 0, none⟩) 0 c) (W.alloc (.cells (madeCells #[.int .u8 0] c) 5)) := by
  obtain ⟨i0, hi, hz0, hz1, hz2⟩ := info_parts info8
  have h := run_make (P := Try.prog) W 44 5 i0 (.int .u8 0) Try.underlying44 hi hz0 .i64 .i64 0 c (by omega) (by omega) (by rw [hz2]; omega) (by omega)
  rw [h, hz1]
  simp only [Int.toNat_natCast, Nat.mul_one]
  rfl
theorem MadeB.made (W : World) (c : Nat) (hc : c ≤ 2000000) : MadeB W (W.alloc (.cells (madeCells #[.int .u8 0] c) 5)) (.slice (some ⟨W.heap.size, 0, none⟩) 0 c) [] :=
  ⟨World.ownsRow_made W _ c (Nat.le_refl _) (by unfold maxLen; omega) (by have := size_madeCells #[Value.int .u8 0] c; simpa using this), (Below.refl _ _).alloc (Nat.le_refl _) _⟩
/-- The bytes of a row, so many numbers of it. -/
def rowL (zs : List Int) : Nat → List Int
  | 0 => []
  | k + 1 => rowL zs k ++ octs (zs.getD k 0) 8
theorem rowL_len (zs : List Int) : ∀ k, (rowL zs k).length = 8 * k
  | 0 => rfl
  | k + 1 => by rw [rowL, List.length_append, rowL_len zs k, octs_len]; omega
theorem rowL_text (zs : List Int) : ∀ k, strOfNums (rowL zs k) = rowT zs k
  | 0 => rfl
  | k + 1 => by rw [rowL, strOf_octs, rowL_text zs k, rowT_next]
def RowRel (w : World) (zs : List Int) (s i : Value) (W : World) : Prop := ∃ k : Nat, k ≤ zs.length ∧ i = .int .i64 k ∧ MadeB w W s (rowL zs k)
set_option maxHeartbeats 1000000 in
theorem orow_is (a : Option Addr) (len cap : Nat) (zs : List Int) (w : World) (hr : RowA w a len zs) (hu : ∀ n ∈ zs, U n) (hl : len ≤ 100000) :
    Calls Try.prog 10 #[.slice a len cap] w fun e w' => e = .returned (.string (rowB zs)) ∧ Below w.heap.size w w' := by
  obtain ⟨rfl, hlm, hcell⟩ := hr
  unfold maxLen at hlm
  have HC := Lib.hid hcell; have HU := Lib.hid (U_getD hu)
  clear hcell hu
  have hw8 : IntKind.i64.wrap (8 * (zs.length : Int)) = 8 * (zs.length : Int) := IntWalk.i64_in _ (by omega)
  have hmk := fun W => make_bytes (8 * zs.length) (by omega) W
  rw [show ((8 * zs.length : Nat) : Int) = 8 * (zs.length : Int) by omega] at hmk
  go_enter Try.func10, Try.ntmps10
  go_upto_region 2 with fail
  refine wp_gen (fun W => MadeB w W (.slice (some ⟨w.heap.size, 0, none⟩) 0 (8 * zs.length)) []) (MadeB.made w _ (by omega)) ?_
  clear hmk hw8
  intro W hM
  have HM := Lib.hid hM
  clear hM
  go_upto_region 3 with fail
  go_loopw [3, 12] (RowRel w zs) (fun _ i _ => zs.length - (intOf i).toNat)
  case atStart => exact ⟨0, Nat.zero_le _, rfl, HM.out⟩
  case round =>
    clear HM
    obtain ⟨k, hk, rfl, hM⟩ := hrel
    by_cases hlt : k < zs.length
    · obtain ⟨b, off, rfl, g0⟩ := HC.out k hlt
      have g := bkeep hM.2 g0
      clear g0
      have hlt' : (k : Int) < (zs.length : Int) := by omega
      have hz := HU.out k hlt
      have HS := Lib.hid (show rowL zs k ++ octs (zs.getD k 0) 8 = rowL zs (k + 1) from rfl)
      have hlen := rowL_len zs k
      generalize zs.getD k 0 = z at *
      generalize rowL zs k = ys at *
      go_wp2_with (go_at_call 23; ((with_reducible refine (oput_is w _ ys z hz _ hM (by omega)).mono ?_); rintro e w1 ⟨v', rfl, hM', _⟩))
      go_roundw
      case rel => exact ⟨k + 1, by omega, by go_num, by rw [← HS.out]; exact hM'⟩
      case measure => simp [intOf]; omega
    · obtain rfl : k = zs.length := by omega
      have hB := hM.2
      have ht := rowL_text zs zs.length
      have hlen := rowL_len zs zs.length
      have hx := hM.text
      rw [hlen] at hx
      rcases hx with ⟨rfl, h0⟩ | ⟨g, cp, rfl, hc⟩
      · have hcv := run_convert_bytes_nil (P := Try.prog) wr 44 5 rfl rfl 0 0 9 rfl
        rw [h0] at ht
        have ht' : ByteArray.empty = rowB zs := ht
        rw [ht'] at hcv
        clear ht ht' hM hlen
        go_wp2
        go_ret
        exact ⟨rfl, hB⟩
      · have hcv := run_convert_bytes_arg (P := Try.prog) wr 44 5 rfl rfl g 0 _ cp (rowL zs zs.length) hlen hc 9 rfl
        have ht' : strOfNums (rowL zs zs.length) = rowB zs := ht
        rw [ht'] at hcv
        clear ht ht' hM hc hlen
        go_wp2
        go_ret
        exact ⟨rfl, hB⟩
theorem rowB_one (n : Int) : rowB [n] = eightB n := by
  refine byt_ext _ _ (by rw [rowB_size, eightB_size]; rfl) fun j hj => ?_
  rw [rowB_size] at hj
  simp only [List.length_cons, List.length_nil] at hj
  have := byt_cat [n] 1 0 j (by omega) (by omega)
  simp only [Nat.mul_zero, Nat.zero_add] at this
  unfold rowB
  rw [show [n].length = 1 from rfl, this, byt_eight _ _ (by omega)]
  rfl
theorem oeight_is (n : Int) (hn : U n) (w : World) : Calls Try.prog 8 #[.int .u64 n] w fun e w' => e = .returned (.string (eightB n)) ∧ Below w.heap.size w w' := by
  have k1 := fun (W : World) => orow_is (some ⟨W.heap.size, 0, none⟩) 1 1 [n] (W.alloc (.cells #[.int .u64 n] 22)) (row_one (by simp [go_sem])).at (by simpa using hn) (by decide)
  rw [rowB_one] at k1
  have HB := Lib.hid ((Below.refl w.heap.size w).alloc (Nat.le_refl _) (.cells #[.int .u64 n] 22))
  generalize eightB n = s at *
  go_enter Try.func8, Try.ntmps8
  go_wp2_with (go_at_call 10; ((with_reducible refine (k1 _).mono ?_); rintro e w1 ⟨rfl, hb⟩))
  go_ret
  exact ⟨rfl, bthen HB.out hb⟩
end Go.Proofs.Ytmgbdccfgbflnaa
