/-
  Append4: append of a whole slice, nil or not, whatever its room. No function of the program is named.
  CountR1: What the document's xs and pick of layer 23 come to.
  CountR2: What the document's subsets of layer 23 come to.
  CountR3: What the document's Agree of layer 23 comes to. (Written by gen_cr3.py.)
  CountR4: What the document's Best of layer 23 comes to. (Written by gen_cr4.py.)
  CountR5: What the document's split of layer 23 comes to. (Written by gen_cr5.py.)
  JudgeQ: Slices of pairs of pairs that are put together; a variable of four cells.
  JLSeen: What is opened of words at a place: the law's 'seen'.
  CountR7: What the document's Seen of layer 23 comes to. (Written by gen_cr7.py.)
  CountR8: What the document's Words and Accepts of layer 23 come to.
-/
import Derived.Test.YthfkfgjhgicfeaaGreatDoorGRows
import Derived.Lib.AppendZerosOnto
import Derived.Lib.SliceRun
import Derived.Test.YthfkfgjhgicfeaaGreatDoorCountW
import Derived.Test.YthfkfgjhgicfeaaGreatDoorGFold
import Derived.Test.YthfkfgjhgicfeaaGreatDoorGArgs
import Derived.Deep.Onto
import Derived.Test.YthfkfgjhgicfeaaGreatDoorEqB
import Derived.Test.YthfkfgjhgicfeaaGreatDoorGRoot
import Derived.BigQuiet
import Derived.Test.YthfkfgjhgicfeaaGreatDoorGJudgeR
import Derived.Test.YthfkfgjhgicfeaaGreatDoorJudgeH
import Derived.BigRegion
namespace Go.Proofs.YthfkfgjhgicfeaaGreatDoor
open Go Go.RowKit
set_option linter.unusedVariables false

theorem run_append_none_any {P : Program} (w : World) (base : Nat) (t ty e : TypeId) (i : TypeInfo) (size : Nat) (ht : P.underlying t = some (.slice e)) (hi : P.info? e = some i)
    (v : Value) (n c : Nat) (xs : List Value) (hown : w.ownsRow base e size v n xs) : (Builtin.append_ #[t, t] ty #[v, .slice none 0 c]).run P w = .ok v w := by
  rcases hown.2 with ⟨rfl, rfl⟩ | ⟨g, cap, cur, rfl, _, _, hnc, _⟩
  · simp [Builtin.append_, run_underlying ht, sizeOf, typeInfo, hi, Builtin.lenOf, Builtin.firstCells]
  · simp [Builtin.append_, run_underlying ht, sizeOf, typeInfo, hi, Builtin.lenOf, Builtin.firstCells, hnc, storeCells]
/-- append of a whole slice, nil or not. -/
theorem wpList_append4 {P : Program} {w : World} {ops : Array Oper} {rest : List Oper} {o : Oper} {a : Act} {Q : Exit → Act → World → Prop} (hgd : o.guard = none) (s x : Operand) (t : TypeId)
    (ho : o.op = .call { callee := .builtin .append, args := #[s, x], argTypes := #[t, t] })
    (base : Nat) (e : TypeId) (i : TypeInfo) (z : Value) (size bytes : Nat) (ht : P.underlying t = some (.slice e)) (hi : P.info? e = some i) (hz : i.zero = some z)
    (hsize : i.size = size) (hby : i.bytes = bytes) (hzs : z.cells.size = size) (hsz : 0 < size)
    (v : Value) (n : Nat) (xs : List Value) (hs : a.eval s = v) (hown : w.ownsRow base e size v n xs)
    (ax : Option Addr) (m c : Nat) (news : List Value) (hx : a.eval x = .slice ax m c) (hl : news.length = m * size) (hm0 : ax = none → m = 0)
    (hnews : ∀ ad, ax = some ad → ∀ j u, news[j]? = some u → w.cell? (ad.add j) = some u) (h1 : ∀ u ∈ news, u.oneCell' = true)
    (h63 : n + m ≤ maxLen) (hbytes : (n + m) * bytes ≤ 140737488355328) (hbase : base ≤ w.heap.size)
    (h : ∀ v' w', w'.ownsRow base e size v' (n + m) (xs ++ news) → w.grownBy w' v.ownBlock → (v'.ownBlock = v.ownBlock ∨ v'.ownBlock = some w.heap.size) → wpList P ops Q rest (a.put o.dst v') w') : wpList P ops Q (o :: rest) a w := by
  cases ax with
  | some ad => exact wpList_append3 hgd s x t ho base e i z size bytes ht hi hz hsize hby hzs hsz v n xs hs hown (some ad) m c news hx hl (by simp) (by simp) hnews h1 h63 hbytes hbase h
  | none =>
    refine wpList_plain hgd fun K hK => ?_
    obtain rfl := hm0 rfl
    obtain rfl : news = [] := List.length_eq_zero_iff.1 (by simpa using hl)
    have hrun := run_append_none_any (P := P) w base t o.type e i size ht hi v n c xs hown
    unfold Oper.wp execOp
    simp only [ho, resolve, invoke, builtin, Sem.run_bind, Sem.run_pure, Result.andThen_ok, List.map_toArray, List.map_cons, List.map_nil, hs, hx, hrun]
    exact hK _ _ (h v w (by simpa using hown) (World.grownBy.refl _ _) (.inl rfl))
end Go.Proofs.YthfkfgjhgicfeaaGreatDoor
namespace Go.Proofs.YthfkfgjhgicfeaaGreatDoor
open Go Go.RowKit
set_option linter.unusedVariables false

def xsL (m f : Int) (k : Nat) : QL := (List.range k).map fun i => encP (ptV m f i)
theorem xsL_len (m f : Int) (k : Nat) : (xsL m f k).length = k := by simp [xsL]
theorem xsL_snoc (m f : Int) (k : Nat) : xsL m f k ++ [encP (ptV m f k)] = xsL m f (k + 1) := by simp [xsL, List.range_succ]
theorem xsL_at (m f : Int) {k i : Nat} (h : i < k) : (xsL m f k).getD i (0, 0) = encP (ptV m f i) := by simp [xsL, List.getD, h]
theorem xsL_qAt (m f : Int) {k i : Nat} (h : i < k) : qAt (xsL m f k) i = ptV m f i := by unfold qAt; rw [xsL_at m f h, toQ_encP]
theorem xsL_U (m f : Int) (k : Nat) : UsR (xsL m f k) := fun n hn => by
  obtain ⟨i, _, rfl⟩ := List.mem_map.1 hn
  exact encP_U _
def XsUp (w : World) (m f : Int) (n : Nat) (v i : Value) (W : World) : Prop := ∃ k : Nat, k ≤ n ∧ i = .int .i64 k ∧ MadeQ w W v (xsL m f k)
theorem MadeQ.rowA {W w : World} {v : Value} {xs : List (Int × Int)} (h : MadeQ W w v xs) : ∃ a c, v = .slice a xs.length c ∧ QRowA w a xs.length xs := by
  obtain ⟨a, c, e, hr⟩ := h.row
  exact ⟨a, c, e, hr.at⟩
set_option maxHeartbeats 4000000 in
theorem rxs_is (m : Nat) (f : Int) (w : World) (hm : m ≤ 20) : Calls Tryz.prog 31 #[.int .i64 (m : Int), .int .i64 f] w (RowQPost w (xsL (m : Int) f (2 ^ m))) := by
  obtain ⟨i0, hi, hz0, hz1, hz2⟩ := info_parts infoQ5
  have n1 := w_u64 m (by omega)
  have n2 := pw_wrap m (by omega)
  have hm40 : m ≤ 40 := by omega
  have hM : 2 ^ m ≤ 1048576 := Nat.le_trans (Nat.pow_le_pow_right (by decide) hm) (by decide)
  obtain ⟨M, hMe⟩ : ∃ M, 2 ^ m = M := ⟨_, rfl⟩
  rw [hMe] at n2 hM ⊢
  clear hMe hm
  go_enter Tryz.func31, Tryz.ntmps31
  go_upto_region 3 with fail
  go_loopw [5, 6] (XsUp w m f M) (fun _ i _ => M - (intOf i).toNat)
  case atStart => exact ⟨0, Nat.zero_le _, rfl, by simpa [xsL] using MadeQ.start w⟩
  case round =>
    obtain ⟨k, hk, rfl, hM2⟩ := hrel
    by_cases hlt : k < M
    · have hltI : (k : Int) < (M : Int) := Int.ofNat_lt.2 hlt
      have hk63 : (k : Int) ≤ 9223372036854775807 := by omega
      have hlen : (xsL m f k).length ≤ 1048576 := by rw [xsL_len]; omega
      have p1 := fun W => rfpoint_is (m : Int) f (k : Int) (enc (pointF m f k)) hk63 rfl W
      have l1 := fun W => rlift_q (enc (pointF m f k)) (ptV m f k) (enc_U _) (by rw [toF_enc]; rfl) W
      have HSS := Lib.hid (xsL_snoc m f k)
      generalize xsL m f k = xs at *
      unfold encP at HSS
      generalize enc (ptV m f k).a = y at *
      generalize enc (ptV m f k).b = y' at *
      generalize enc (pointF m f k) = z at *
      go_upto_region 5 with fail
      have HM0 := Lib.hid hM2
      clear hM2
      go_wp2_with (first
        | (go_at_call 58; ((with_reducible refine (p1 _).mono ?_); rintro e w0 ⟨rfl, hb⟩; replace HM0 := Lib.hid (HM0.out.keep hb); clear hb))
        | (go_at_call 59; ((with_reducible refine (l1 _).mono ?_); rintro e w1 ⟨rfl, hb⟩; have HM := Lib.hid (HM0.out.keep hb); have hown := HM.out.1; have hsz := HM.out.2.size; have HT := Lib.hid (fun w2 v' => @MadeQ.step w _ w2 _ v' xs y y' HM.out); clear hb HM0 HM; generalize xs.length = nn at *))
        | (at_builtin; refine wpList_append_own _ rfl _ _ 24 rfl w.heap.size 31 i0 (.agg #[.int .u64 0, .int .u64 0]) 2 16 Tryz.underlying24 hi hz0 hz1 hz2 rfl (by decide) _ _ _ rfl (hown.alloc _) ⟨w1.heap.size, 0, none⟩ 1 1 [.int .u64 y, .int .u64 y'] rfl rfl ?c1 ?c2 ?c3 ?c4 ?c5 ?_))
      case c1 => exact two_src (by simp [go_sem]) (by simp [go_sem])
      case c2 => first | rfl | (intro u hu; simp at hu; rcases hu with rfl | rfl <;> rfl)
      case c3 => unfold maxLen; omega
      case c4 => omega
      case c5 => first | omega | (simp; omega)
      · intro v' w2 hown' hgrow _
        have R := Lib.hid (HT.out w2 v' _ hown' hgrow)
        clear hown' hgrow hown HT
        go_wp2_with fail
        go_roundw
        case rel => exact ⟨k + 1, by omega, by go_num, by rw [← HSS.out]; exact R.out⟩
        case measure => simp [intOf]; omega
    · obtain rfl : k = M := by omega
      have hltI : ¬ (k : Int) < (k : Int) := by omega
      obtain ⟨am, cm, hv, hrow⟩ := hM2.row
      have HB := Lib.hid hM2.2
      subst hv
      have HROW := Lib.hid hrow
      clear hM2 hrow
      go_wp2
      go_ret
      exact ⟨HB.out, am, cm, rfl, HROW.out⟩
/-! ### Some of a list -/
def pickL (zs : QL) (I : List Nat) : QL := I.map fun i => zs.getD i (0, 0)
theorem pickL_len (zs : QL) (I : List Nat) : (pickL zs I).length = I.length := by simp [pickL]
theorem pickL_step (zs : QL) (I : List Nat) {k : Nat} (h : k < I.length) : pickL zs (I.take k) ++ [zs.getD (I.getD k 0) (0, 0)] = pickL zs (I.take (k + 1)) := by
  unfold pickL
  rw [List.take_succ_eq_append_getElem h, List.map_append]
  simp only [List.getD, List.getElem?_eq_getElem h, Option.getD_some, List.map_cons, List.map_nil]
theorem pickL_map (zs : QL) (I : List Nat) : (pickL zs I).map toQ = picks (qAt zs) I := by
  unfold pickL picks
  rw [List.map_map]
  rfl
theorem pickL_U {zs : QL} (h : UsR zs) {I : List Nat} (hI : ∀ i ∈ I, i < zs.length) : UsR (pickL zs I) := fun n hn => by
  obtain ⟨i, hi, rfl⟩ := List.mem_map.1 hn
  rw [show zs.getD i (0, 0) = zs[i]'(hI i hi) by simp [List.getD, hI i hi]]
  exact h _ (List.getElem_mem _)
def PickUp (w : World) (zs : QL) (I : List Nat) (v i : Value) (W : World) : Prop := ∃ k : Nat, k ≤ I.length ∧ i = .int .i64 k ∧ MadeQ w W v (pickL zs (I.take k))
set_option maxHeartbeats 4000000 in
theorem rpick_is (a : Option Addr) (n c : Nat) (zs : QL) (ia : Option Addr) (s ic : Nat) (I : List Nat) (w : World) (hz : QRowA w a n zs) (hI : NRowA w ia s I) (hs : s ≤ 1000) (hlt : ∀ i ∈ I, i < n) :
    Calls Tryz.prog 39 #[.slice a n c, .slice ia s ic] w (RowQPost w (pickL zs I)) := by
  obtain ⟨i0, hi, hz0, hz1, hz2⟩ := info_parts infoQ5
  obtain rfl := hI.1
  have HZ := Lib.hid hz; have HI := Lib.hid hI; have HLT := Lib.hid hlt
  have hn63 := hz.2.1
  unfold maxLen at hn63
  have HN := Lib.hid hn63
  obtain ⟨S, hS⟩ : ∃ S, I.length = S := ⟨_, rfl⟩
  have HS := Lib.hid hS
  clear hz hI hlt hn63
  rw [hS] at hs ⊢
  clear hS
  go_enter Tryz.func39, Tryz.ntmps39
  go_upto_region 3 with fail
  go_loopw [5, 6] (PickUp w zs I) (fun _ i _ => S - (intOf i).toNat)
  case atStart => exact ⟨0, Nat.zero_le _, rfl, by simpa [pickL] using MadeQ.start w⟩
  case round =>
    obtain ⟨k, hk, rfl, hM2⟩ := hrel
    rw [HS.out] at hk
    by_cases hlt : k < S
    · have hltI : (k : Int) < (S : Int) := Int.ofNat_lt.2 hlt
      have hk0 : (0 : Int) ≤ (k : Int) := Int.natCast_nonneg k
      have hkI : k < I.length := by rw [HS.out]; exact hlt
      obtain ⟨b, off, rfl, g0⟩ := HI.out.2.2 k hkI
      replace g0 := bkeep hM2.2 g0
      have hj := HLT.out _ (getD_mem hkI)
      obtain ⟨zb, zo, rfl, z0, z1⟩ := HZ.out.2.2 (I.getD k 0) hj
      replace z0 := bkeep hM2.2 z0
      replace z1 := bkeep hM2.2 z1
      have hlen : (pickL zs (I.take k)).length ≤ 1000 := by rw [pickL_len, List.length_take]; omega
      have HSS := Lib.hid (pickL_step zs I hkI)
      obtain ⟨y, y', hy⟩ : ∃ y y', zs.getD (I.getD k 0) (0, 0) = (y, y') := ⟨_, _, rfl⟩
      rw [hy] at z0 z1
      have HY := Lib.hid hy
      generalize pickL zs (I.take k) = xs at *
      generalize I.getD k 0 = j at *
      have hj0 : (0 : Int) ≤ (j : Int) := Int.natCast_nonneg j
      have hjn : (j : Int) < (n : Int) := Int.ofNat_lt.2 hj
      have HM0 := Lib.hid hM2
      have hown := hM2.1; have hsz := hM2.2.size
      have HT := Lib.hid (fun w2 v' => @MadeQ.step w _ w2 _ v' xs y y' hM2)
      clear hM2 hkI hj hy
      generalize xs.length = nn at *
      go_wp2_with (at_builtin; refine wpList_append_own _ rfl _ _ 24 rfl w.heap.size 31 i0 (.agg #[.int .u64 0, .int .u64 0]) 2 16 Tryz.underlying24 hi hz0 hz1 hz2 rfl (by decide) _ _ _ rfl (hown.alloc _) ⟨wr.heap.size, 0, none⟩ 1 1 [.int .u64 y, .int .u64 y'] rfl rfl ?c1 ?c2 ?c3 ?c4 ?c5 ?_)
      case c2 => first | exact ⟨rfl, rfl⟩ | rfl | (intro u hu; simp at hu; rcases hu with rfl | rfl <;> rfl)
      case c3 => unfold maxLen; omega
      case c4 => omega
      case c5 => first | omega | (simp; omega)
      · intro v' w2 hown' hgrow _
        have R := Lib.hid (HT.out w2 v' _ hown' hgrow)
        clear hown' hgrow hown HT g0 z0 z1
        go_wp2_with fail
        go_roundw
        case rel => exact ⟨k + 1, by rw [HS.out]; omega, by go_num, by rw [← HSS.out, HY.out]; exact R.out⟩
        case measure => simp [intOf]; omega
    · obtain rfl : k = S := by omega
      have hltI : ¬ (k : Int) < (k : Int) := by omega
      have hM3 : MadeQ w wr u5 (pickL zs I) := by
        have := hM2
        rwa [List.take_of_length_le (by rw [HS.out]; exact Nat.le_refl _)] at this
      obtain ⟨am, cm, hv, hrow⟩ := hM3.row
      have HB := Lib.hid hM2.2
      subst hv
      have HROW := Lib.hid hrow
      clear hM2 hM3 hrow
      go_wp2
      go_ret
      exact ⟨HB.out, am, cm, rfl, HROW.out⟩
end Go.Proofs.YthfkfgjhgicfeaaGreatDoor
namespace Go.Proofs.YthfkfgjhgicfeaaGreatDoor
open Go Go.RowKit
set_option linter.unusedVariables false

theorem subs_snoc (s k : Nat) : subs (s + 1) (s + (k + 1)) = subs (s + 1) (s + k) ++ (subs s (s + k)).map fun l => l ++ [s + k] := by
  rw [subs, subs, show s + (k + 1) - s = k + 1 by omega, show s + k - s = k by omega, List.range_succ, List.map_append, List.flatten_append]
  simp
theorem subs_none (s : Nat) : subs (s + 1) s = [] := by rw [subs, Nat.sub_self]; rfl
theorem subs_few {s n : Nat} (h : n ≤ s) : subs (s + 1) n = [] := by rw [subs, show n - s = 0 by omega]; rfl
theorem subs_pow : ∀ (s k : Nat), (subs (s + 1) (s + k)).length + 1 ≤ 2 ^ (s + k) ∧ ∀ n, (subs s n).length ≤ 2 ^ n
  | 0, k => by
    have hz : ∀ n, (subs 0 n).length ≤ 2 ^ n := fun n => by rw [subs_zero]; exact Nat.one_le_two_pow
    refine ⟨?_, hz⟩
    induction k with
    | zero => rw [subs_none]; exact Nat.one_le_two_pow
    | succ k ih =>
      rw [subs_snoc, List.length_append, List.length_map, show 0 + (k + 1) = 0 + k + 1 by omega, Nat.pow_succ]
      have := hz (0 + k)
      omega
  | s + 1, k => by
    have hz : ∀ n, (subs (s + 1) n).length ≤ 2 ^ n := fun n => by
      by_cases h : n ≤ s
      · rw [subs_few h]; exact Nat.zero_le _
      · have := (subs_pow s (n - s)).1
        rw [show s + (n - s) = n by omega] at this
        omega
    refine ⟨?_, hz⟩
    induction k with
    | zero => rw [Nat.add_zero, subs_none]; exact Nat.one_le_two_pow
    | succ k ih =>
      rw [subs_snoc, List.length_append, List.length_map, show s + 1 + (k + 1) = s + 1 + k + 1 by omega, Nat.pow_succ]
      have := hz (s + 1 + k)
      omega
theorem subs_le (s n : Nat) (hn : n ≤ 16) : (subs s n).length ≤ 65536 := Nat.le_trans ((subs_pow s 0).2 n) (Nat.le_trans (Nat.pow_le_pow_right (by decide) hn) (by decide))
theorem infoInt23 : (Tryz.prog.info? 3).map (fun i => (i.zero, i.size, i.bytes)) = some (some (.int .i64 0), 1, 8) := by kernel_rfl
theorem infoInts23 : (Tryz.prog.info? 69).map (fun i => (i.zero, i.size, i.bytes)) = some (some (.slice none 0 0), 1, 24) := by kernel_rfl
abbrev NUp (w W : World) (v : Value) (rows : List (List Nat)) : Prop := RowsG 69 3 1 natsV w W v rows
def SubsUp (w : World) (s n : Nat) (v i : Value) (W : World) : Prop := ∃ k : Nat, (k = 0 ∨ s + k ≤ n) ∧ i = .int .i64 (s + k : Nat) ∧ NUp w W v (subs (s + 1) (s + k))
/-- Rows of the call's own, as they stay. -/
def OwnRows (W : World) (lo : Nat) (v : Value) (rs : Nat → Value) (L : List (List Nat)) : Prop :=
  W.ownsRow lo 69 1 v L.length (valsR rs L.length) ∧ ∀ j, j < L.length → W.ownsRow lo 3 1 (rs j) (L.getD j []).length (natsV (L.getD j []))
theorem OwnRows.keep {W W' : World} {lo : Nat} {v : Value} {rs : Nat → Value} {L : List (List Nat)} (h : OwnRows W lo v rs L) (hb : Below W.heap.size W W') : OwnRows W' lo v rs L := ⟨own_keep h.1 hb, fun j hj => own_keep (h.2 j hj) hb⟩
theorem OwnRows.grown {W W' : World} {lo : Nat} {v : Value} {rs : Nat → Value} {L : List (List Nat)} (h : OwnRows W lo v rs L) {base n : Nat} {u : Value} {xs : List Value} (hu : W.ownsRow base 69 1 u n xs) (hg : W.grownBy W' u.ownBlock) (hne : v.ownBlock = none ∨ v.ownBlock ≠ u.ownBlock) : OwnRows W' lo v rs L :=
  ⟨h.1.kept hg hne, fun j hj => (h.2 j hj).kept hg (own_unlike (h.2 j hj) hu (by decide))⟩
theorem OwnRows.row {W : World} {lo : Nat} {v : Value} {rs : Nat → Value} {L : List (List Nat)} (h : OwnRows W lo v rs L) : ∃ a c, v = .slice a L.length c ∧ NTab W a L.length L := by
  obtain ⟨a, c, e⟩ := own_form h.1
  refine ⟨a, c, e, ?_⟩
  subst e
  rcases h.1.2 with ⟨h1, h0⟩ | ⟨g, cap, cur, h1, hb, hg, hn, hc, _⟩
  · exact ⟨rfl, by rw [h0]; exact Nat.zero_le _, fun k hk => by omega⟩
  · cases h1
    refine ⟨rfl, by omega, fun k hk => ⟨g, 0, rfl, ?_⟩⟩
    have hcell := h.1.cells (g := g) rfl k (rs k) (by simp [valsR, hk])
    rw [Addr.add_lit] at hcell
    obtain ⟨ak, ck, e2, hr, hck⟩ := own_nrow (h.2 k hk)
    exact ⟨ak, ck, by rw [hcell, e2], hr, hck⟩
theorem own_lt {W : World} {base n size : Nat} {e : TypeId} {v : Value} {xs : List Value} (h : W.ownsRow base e size v n xs) {k : Nat} (hk : v.ownBlock = some k) : k < W.heap.size := by
  obtain ⟨c, hc⟩ := own_block h hk
  exact (Array.getElem?_eq_some_iff.1 hc).1
def SubsIn (w wb : World) (s k lo : Nat) (vL : Value) (rs : Nat → Value) (L : List (List Nat)) (v i : Value) (W : World) : Prop :=
  ∃ j : Nat, j ≤ L.length ∧ i = .int .i64 (j : Nat) ∧ OwnRows W lo vL rs L ∧ (vL.ownBlock = none ∨ vL.ownBlock ≠ v.ownBlock) ∧ NUp w W v (subs (s + 1) (s + k) ++ (L.take j).map fun l => l ++ [s + k])
theorem natsV_one (I : List Nat) : ∀ u ∈ natsV I, u.oneCell' = true := fun u hu => by
  obtain ⟨i, _, rfl⟩ := List.mem_map.1 hu
  rfl
theorem natsV_app (I : List Nat) (k : Nat) : natsV I ++ [.int .i64 (k : Int)] = natsV (I ++ [k]) := by simp [natsV]
theorem take_map_snoc (L : List (List Nat)) (f : List Nat → List Nat) {j : Nat} (h : j < L.length) : (L.take j).map f ++ [f (L.getD j [])] = (L.take (j + 1)).map f := by
  rw [List.take_succ_eq_append_getElem h, List.map_append]
  simp [List.getD, h]
theorem nup_lit (w : World) : NUp w (w.alloc (.cells #[.slice none 0 0] 69)) (.slice (some ⟨w.heap.size, 0, none⟩) 1 1) [[]] :=
  ⟨fun _ => .slice none 0 0, ⟨World.ownsRow_lit (base := w.heap.size) (e := 69) (size := 1) w #[.slice none 0 0] 1 (Nat.le_refl _) (by unfold maxLen; omega) rfl, (Below.refl _ _).alloc (Nat.le_refl _) _⟩, fun j hj => by
    obtain rfl : j = 0 := by simp at hj; omega
    exact World.ownsRow_nil _ _ _ _⟩
def SubsPost (w : World) (rows : List (List Nat)) (e : Ending) (w' : World) : Prop := ∃ v, e = .returned v ∧ NUp w w' v rows
theorem SubsPost.tab {w w' : World} {rows : List (List Nat)} {e : Ending} (h : SubsPost w rows e w') : NTabPost w rows e w' := by
  obtain ⟨v, rfl, rs, h1, h2⟩ := h
  have hO : OwnRows w' w.heap.size v rs rows := ⟨by have := h1.1; rw [valsR_len] at this; exact this, h2⟩
  obtain ⟨a, c, rfl, hT⟩ := hO.row
  exact ⟨h1.2, a, c, rfl, hT⟩
set_option maxRecDepth 100000 in
set_option maxHeartbeats 8000000 in
theorem rsubs_new : ∀ (s n : Nat) (w : World), s ≤ 16 → n ≤ 16 → Calls Tryz.prog 37 #[.int .i64 (n : Int), .int .i64 (s : Int)] w (SubsPost w (subs s n)) := by
  obtain ⟨i0, hi, hz0, hz1, hz2⟩ := info_parts infoInt23
  obtain ⟨i1, ki, kz0, kz1, kz2⟩ := info_parts infoInts23
  intro s
  induction s with
  | zero =>
    intro n w _ hn
    rw [subs_zero]
    go_enter Tryz.func37, Tryz.ntmps37
    go_wp2_with fail
    go_ret
    exact ⟨_, rfl, nup_lit w⟩
  | succ s ih =>
    intro n w hs hn
    have g1 : IntKind.i64.wrap (((s + 1 : Nat) : Int) - 1) = (s : Int) := by rw [IntWalk.i64_in _ (by omega)]; omega
    have g2 : wrap64 (((s + 1 : Nat) : Int) - 1) = (s : Int) := by rw [IntWalk.wrap64_in _ (by omega)]; omega
    have hs0 : (((s + 1 : Nat) : Int) == 0) = false := beq_eq_false_iff_ne.2 (by omega)
    go_enter Tryz.func37, Tryz.ntmps37
    obtain ⟨S1, hS1⟩ : ∃ S : Int, ((s + 1 : Nat) : Int) = S := ⟨_, rfl⟩
    simp only [hS1] at g1 g2 hs0 ⊢
    go_upto_region 5 with fail
    go_loopw [5, 6] (SubsUp w s n) (fun _ i _ => n - (intOf i).toNat)
    case atStart =>
      have e0 : subs (s + 1) (s + 0) = [] := subs_none s
      exact ⟨0, Or.inl rfl, rfl, by rw [e0]; exact RowsG.start (Below.refl _ _)⟩
    case round =>
      obtain ⟨k, hk, rfl, hM⟩ := hrel
      by_cases hlt : s + k < n
      · have hltI : ((s + k : Nat) : Int) < (n : Int) := Int.ofNat_lt.2 hlt
        have i1' := fun W => ih (s + k) W (by omega) (by omega)
        have h16 : s + k ≤ 15 := by omega
        have hL := subs_le s (s + k) (by omega)
        have hL2 := subs_le (s + 1) (s + k) (by omega)
        obtain ⟨L, hLe⟩ : ∃ L, subs s (s + k) = L := ⟨_, rfl⟩
        have hLen : ∀ j, j < L.length → (L.getD j []).length = s := fun j hj => by
          rw [show L.getD j [] = L[j] by simp [List.getD, hj]]
          exact subs_len (n := s + k) (by rw [hLe]; exact List.getElem_mem hj)
        rw [hLe] at i1' hL
        have HLE := Lib.hid hLe; have HLN := Lib.hid hLen; have HL2 := Lib.hid hL2; have HK := Lib.hid hk; have HLT := Lib.hid hlt; have H16 := Lib.hid h16
        obtain ⟨A, hA⟩ : ∃ A : Nat, s + k = A := ⟨_, rfl⟩
        have HA := Lib.hid hA
        have hltA : (A : Int) < (n : Int) := by rw [← hA]; exact hltI
        have HUN : Hid (∀ q, u5.ownBlock = some q → q < wr.heap.size) := Lib.hid (by obtain ⟨rs, h1, _⟩ := hM; exact fun q hq => own_lt h1.1 hq)
        have HM := Lib.hid hM
        rw [hA] at i1'
        rw [hA]
        clear hLe hLen hL2 hk hlt h16 hA hM hltI
        go_upto_region 9 with (go_at_call 37; (with_reducible refine (i1' _).mono ?_); rintro e wb ⟨vL, rfl, rs0, hm1, hm2⟩; replace HM := Lib.hid (HM.out.keep hm1.2); have HOL : Hid (OwnRows wb wr.heap.size vL rs0 L) := Lib.hid ⟨by have := hm1.1; rw [valsR_len] at this; exact this, hm2⟩; obtain ⟨la, lc, rfl⟩ := own_form HOL.out.1; clear hm1 hm2)
        obtain ⟨lo, hlo⟩ : ∃ lo, wr.heap.size = lo := ⟨_, rfl⟩
        rw [hlo] at HOL HUN
        clear hlo
        go_loopw [5, 8] (SubsIn w wb s k lo (.slice la L.length lc) rs0 L) (fun _ i _ => L.length - (intOf i).toNat)
        case atStart =>
          refine ⟨0, Nat.zero_le _, rfl, HOL.out, ?_, by rw [List.take_zero, List.map_nil, List.append_nil]; exact HM.out⟩
          cases hq : (Value.slice la L.length lc).ownBlock with
          | none => exact Or.inl rfl
          | some q =>
            refine Or.inr fun e => ?_
            have h1 := own_ge HOL.out.1 q hq
            have h2 := HUN.out q e.symm
            omega
        case round =>
          clear HM HOL HUN
          obtain ⟨j, hj, rfl, hOL, hUN, hM⟩ := hrel
          by_cases hjl : j < L.length
          · have hjlI : (j : Int) < (L.length : Int) := Int.ofNat_lt.2 hjl
            obtain ⟨la', lc', hle, hT⟩ := hOL.row
            cases hle
            obtain ⟨tb, tO, rfl, ai, ci, t0, hrow, hci⟩ := hT.2.2 j hjl
            have hrl := HLN.out j hjl
            have hsn := take_map_snoc L (fun l => l ++ [s + k]) hjl
            have hup : (subs (s + 1) (s + k) ++ (L.take (j + 1)).map fun l => l ++ [s + k]) = (subs (s + 1) (s + k) ++ (L.take j).map fun l => l ++ [s + k]) ++ [L.getD j [] ++ [s + k]] := by rw [List.append_assoc, hsn]
            have hcnt : (subs (s + 1) (s + k) ++ (L.take j).map fun l => l ++ [s + k]).length ≤ 131072 := by
              rw [List.length_append, List.length_map, List.length_take]; have := HL2.out; omega
            have HUP := Lib.hid hup; have HJ := Lib.hid hjl
            obtain ⟨I, hI⟩ : ∃ I, L.getD j [] = I := ⟨_, rfl⟩
            rw [hI] at t0 hrl hrow
            have HI := Lib.hid hI
            have hs15 : s ≤ 15 := by omega
            have hIl : I.length ≤ 16 := by rw [hrl]; omega
            obtain ⟨R, hR⟩ : ∃ R, (subs (s + 1) (s + k) ++ (L.take j).map fun l => l ++ [s + k]) = R := ⟨_, rfl⟩
            rw [hR] at hM hcnt
            have HRR := Lib.hid hR
            obtain ⟨rs, hm1, hm2⟩ := hM
            have hm1' := hm1.1
            have HM1 := Lib.hid hm1; have HM2 := Lib.hid hm2; have HRW := Lib.hid hrow
            have HOW0 := Lib.hid (World.ownsRow_lit (base := wr.heap.size) (e := 3) (size := 1) wr #[] 0 (Nat.le_refl _) (by unfold maxLen; omega) rfl)
            have HSZ := Lib.hid hm1.2.size; have HOL := Lib.hid hOL; have HUN := Lib.hid hUN
            clear hm1 hm2 hup hsn hI hR hrow hci hj hjl hOL hUN hT hm1'
            have hj0 : (0 : Int) ≤ (j : Int) := Int.natCast_nonneg j
            have t1 : (wr.alloc (.cells #[] 3)).cell? ⟨tb, tO + j, none⟩ = some (.slice ai I.length ci) := bkeep ((Below.refl _ _).alloc (Nat.le_refl _) _) t0
            clear t0 hrl
            go_wp2_with (first
              | (at_builtin; refine wpList_append4 rfl _ _ 69 rfl wr.heap.size 3 i0 (.int .i64 0) 1 8 Tryz.underlying69 hi hz0 hz1 hz2 rfl (by decide) _ 0 [] rfl HOW0.out ai I.length ci (natsV I) rfl (by rw [natsV_len, Nat.mul_one]) HRW.out.nil0 (HRW.out.keep ((Below.refl _ _).alloc (Nat.le_refl _) _)).src (natsV_one I) (by unfold maxLen; omega) (by omega) (by simp) ?_; rintro v3 w3 q1 q2 _; rw [Nat.zero_add, List.nil_append] at q1; obtain ⟨a3, c3, rfl⟩ := own_form q1; have HBX := Lib.hid (own_row_below HOW0.out ((Below.refl _ _).alloc (Nat.le_refl _) _) q2 (Nat.le_refl _) (by simp)); have HR3 := Lib.hid q1; clear q1 q2 HOW0)
              | (at_builtin; refine wpList_append_own _ rfl _ _ 69 rfl wr.heap.size 3 i0 (.int .i64 0) 1 8 Tryz.underlying69 hi hz0 hz1 hz2 rfl (by decide) _ _ _ rfl (HR3.out.alloc _) ⟨w3.heap.size, 0, none⟩ 1 1 [.int .i64 (A : Int)] rfl rfl (one_src (by simp [go_sem])) (by intro u hu; simp at hu; subst hu; rfl) (by unfold maxLen; omega) (by omega) (by have := HBX.out.size; simp; omega) ?_; rintro v4 w4 q1 q2 _; obtain ⟨a4, c4, rfl⟩ := own_form q1; have HBY := Lib.hid (own_row_below (HR3.out.alloc _) (HBX.out.alloc HBX.out.size _) q2 (Nat.le_refl _) (by have := HBX.out.size; simp; omega)); have HR4 := Lib.hid q1; have HM4 := Lib.hid (HM1.out.keep HBY.out); have HOL4 := Lib.hid (HOL.out.keep HBY.out); clear q1 q2 HR3)
              | (at_builtin; refine wpList_append_own_at rfl _ _ 65 rfl w.heap.size 69 i1 (.slice none 0 0) 1 24 Tryz.underlying65 ki kz0 kz1 kz2 rfl (by decide) _ _ _ rfl (HM4.out.1.alloc _) ⟨w4.heap.size, 0, none⟩ 1 1 [.slice a4 (I.length + 1) c4] rfl rfl (one_src (by simp [go_sem])) (by intro u hu; simp at hu; subst hu; rfl) (by rw [valsR_len]; unfold maxLen; omega) (by rw [valsR_len]; omega) (by have := HM4.out.2.size; simp; omega) ?_))
            intro v7 w7 q1 q2 q3
            have hal : Below w4.heap.size w4 (w4.alloc (.cells #[.slice a4 (I.length + 1) c4] 69)) := (Below.refl _ _).alloc (Nat.le_refl _) _
            have hu4 : w4.ownsRow w.heap.size 3 1 (.slice a4 (I.length + 1) c4) (I ++ [A]).length (natsV (I ++ [A])) := by
              have := World.ownsRow.mono HR4.out HSZ.out
              rw [natsV_app] at this
              rw [List.length_append]
              exact this
            have R7 : Hid (NUp w w7 v7 (R ++ [I ++ [A]])) := Lib.hid (RowsG.more (by decide) (HM4.out.keep hal) (fun j hj => own_keep (own_keep (HM2.out j hj) HBY.out) hal) (own_keep hu4 hal) q2 (MadeG.grow (HM4.out.keep hal) q1 q2))
            have O7 : Hid (OwnRows w7 lo (.slice (some ⟨tb, tO, none⟩) L.length lc) rs0 L) := Lib.hid ((HOL4.out.keep hal).grown (HM4.out.1.alloc _) q2 HUN.out)
            have U7 : Hid ((Value.slice (some ⟨tb, tO, none⟩) L.length lc).ownBlock = none ∨ (Value.slice (some ⟨tb, tO, none⟩) L.length lc).ownBlock ≠ v7.ownBlock) := Lib.hid (by
              rcases q3 with q3 | q3
              · rw [q3]; exact HUN.out
              · rw [q3]
                cases hq : (Value.slice (some ⟨tb, tO, none⟩) L.length lc).ownBlock with
                | none => exact Or.inl rfl
                | some q =>
                  refine Or.inr fun e => ?_
                  have h1 := own_lt HOL4.out.1 hq
                  have h2 : (w4.alloc (.cells #[.slice a4 (I.length + 1) c4] 69)).heap.size = w4.heap.size + 1 := by simp
                  have h3 := Option.some.inj e
                  omega)
            obtain ⟨a7, c7, rfl⟩ := own_form q1
            clear q1 q2 q3 hal hu4 HM4 HOL4 HR4 HBY HUN t1 HRW
            go_wp2
            go_roundw
            case rel => exact ⟨j + 1, HJ.out, by go_num, O7.out, U7.out, by rw [HUP.out, HRR.out, HI.out, HA.out]; exact R7.out⟩
            case measure =>
              have := HJ.out
              simp [intOf]
              omega
          · obtain rfl : j = L.length := by omega
            have hjlI : ¬ ((L.length : Nat) : Int) < (L.length : Int) := by omega
            have hM8 : NUp w wr u5 (subs (s + 1) (s + (k + 1))) := by
              rw [subs_snoc, HLE.out]
              rwa [List.take_of_length_le (Nat.le_refl _)] at hM
            have HM8 := Lib.hid hM8
            have HOL := Lib.hid hOL
            clear hM hM8 hOL hUN hj
            go_wp2_with fail
            go_roundw
            case rel => exact ⟨k + 1, by have := HLT.out; omega, by have := HA.out; congr 1; omega, HM8.out⟩
            case measure =>
              have := HLT.out; have := HA.out
              simp [intOf]
              omega
      · have hk2 : subs (s + 1) (s + k) = subs (s + 1) n := by
          rcases hk with rfl | hk
          · rw [show s + 0 = s from rfl, subs_none, subs_few (by omega)]
          · rw [show s + k = n by omega]
        have hltI : ¬ ((s + k : Nat) : Int) < (n : Int) := by omega
        rw [hk2] at hM
        have HM := Lib.hid hM
        clear hk hk2 hlt hM
        go_wp2_with fail
        go_ret
        exact ⟨_, rfl, HM.out⟩
theorem rsubs_is (s n : Nat) (w : World) (hs : s ≤ 16) (hn : n ≤ 16) : Calls Tryz.prog 37 #[.int .i64 (n : Int), .int .i64 (s : Int)] w (NTabPost w (subs s n)) := (rsubs_new s n w hs hn).mono fun _ _ h => h.tab
end Go.Proofs.YthfkfgjhgicfeaaGreatDoor
namespace Go.Proofs.YthfkfgjhgicfeaaGreatDoor
open Go Go.RowKit Go.Sort Go.BigFrame
set_option linter.unusedVariables false

theorem lg_bits : ∀ n : Nat, n ≤ 64 → lg (n : Int) = -1 ∨ 0 ≤ lg (n : Int) ∧ lg (n : Int) ≤ 6 := by decide +kernel
theorem lg_small {n : Nat} (h : n ≤ 64) : lg (n : Int) = -1 ∨ ∃ k : Nat, k ≤ 6 ∧ n = 2 ^ k ∧ lg (n : Int) = (k : Int) := by
  rcases lg_bits n h with h1 | ⟨h1, h2⟩
  · exact Or.inl h1
  · obtain ⟨k, _, e, h3⟩ := lg_cases n (by omega) h1 (by omega)
    exact Or.inr ⟨k, by omega, e, h3⟩
/-- What the document's At comes to of a row of raw pairs. -/
theorem ratQ_is {W : World} {a : Option Addr} {n c : Nat} {zs : QL} (h : QRowA W a n zs) (hu : UsR zs) (hn : n ≤ 4294967296) (x y : F2) (hy : atP (zs.map toQ) x = y) :
    Calls Tryz.prog 32 #[.slice a n c, .agg #[.int .u64 (enc x.a), .int .u64 (enc x.b)]] W fun e w' => e = .returned (.agg #[.int .u64 (enc y.a), .int .u64 (enc y.b)]) ∧ Below W.heap.size W w' := by
  have hl : (zs.map toQ).length = n := by rw [List.length_map]; exact h.1
  have hp := polyA_q h hu
  have k := rat_a a c (zs.map toQ) (enc x.a) (enc x.b) x y W (by rw [hl]; exact hp) (rep_enc _) (by omega) hy
  rwa [hl] at k
def isAt (word : QL) (m f : Int) (line : List F2) (i : Nat) : Bool := decide (atP line (ptV m f i) = qAt word i)
/-- How many up to a place. -/
def agUp (word : QL) (m f : Int) (line : List F2) (two : Bool) (h j : Nat) : Nat :=
  if two = true then many (fun i => isAt word m f line i && isAt word m f line (i + h)) (min j h) else many (isAt word m f line) j
def AgRel (w : World) (word : QL) (m f : Int) (line : List F2) (two : Bool) (h n : Nat) (v i : Value) (W : World) : Prop :=
  ∃ j : Nat, j ≤ n ∧ i = .int .i64 (j : Int) ∧ Below w.heap.size w W ∧ v = .int .i64 (agUp word m f line two h j : Nat)
theorem agUp_one {word : QL} {m f : Int} {line : List F2} {h j : Nat} {r : Bool} (hr : isAt word m f line j = r) : agUp word m f line false h (j + 1) = agUp word m f line false h j + (if r = true then 1 else 0) := by
  unfold agUp
  rw [if_neg (by decide), if_neg (by decide), many, hr]
theorem agUp_far {word : QL} {m f : Int} {line : List F2} {h j : Nat} (hj : ¬ j < h) : agUp word m f line true h (j + 1) = agUp word m f line true h j := by
  unfold agUp
  rw [if_pos rfl, if_pos rfl, show min (j + 1) h = h by omega, show min j h = h by omega]
theorem agUp_two {word : QL} {m f : Int} {line : List F2} {h j : Nat} {r1 r2 : Bool} (hj : j < h) (h1 : isAt word m f line j = r1) (h2 : isAt word m f line (j + h) = r2) : agUp word m f line true h (j + 1) = agUp word m f line true h j + (if (r1 && r2) = true then 1 else 0) := by
  unfold agUp
  rw [if_pos rfl, if_pos rfl, show min (j + 1) h = j + 1 by omega, show min j h = j by omega, many, h1, h2]
theorem agUp_le {word : QL} {m f : Int} {line : List F2} {two : Bool} {h j : Nat} : agUp word m f line two h j ≤ j := by
  unfold agUp
  split
  · exact Nat.le_trans (many_le _ _) (by omega)
  · exact many_le _ _
theorem agUp_end {word : QL} {f : Int} {line : List F2} {two : Bool} (h0 : 0 ≤ lg word.length) : agUp word (lg word.length) f line two (word.length / 2) word.length = agreeV word f line two := by
  unfold agUp agreeV agreeC
  rw [if_pos h0]
  cases two
  · rw [if_neg (by decide), if_neg (by decide)]; rfl
  · rw [if_pos rfl, if_pos rfl, show min word.length (word.length / 2) = word.length / 2 by omega]; rfl
set_option maxRecDepth 100000 in
set_option maxHeartbeats 8000000 in
theorem ragree_is (a : Option Addr) (n c : Nat) (word : QL) (f : Int) (la : Option Addr) (ln lc : Nat) (line : QL) (two : Bool) (w : World) (hw : QRowA w a n word) (hwu : UsR word) (hn : n ≤ 64) (hl : QRowA w la ln line) (hlu : UsR line) (hln : ln ≤ 4294967296) :
    Calls Tryz.prog 16 #[.slice a n c, .int .i64 f, .slice la ln lc, .bool two] w (IntPost w (agreeV word f (line.map toQ) two)) := by
  have hlen := hw.1
  have L1 := fun W => reflog_is (n : Int) (lg (n : Int)) (by constructor <;> omega) rfl W
  have HW := Lib.hid hw; have HWU := Lib.hid hwu; have HL := Lib.hid hl; have HLU := Lib.hid hlu; have HLN := Lib.hid hln
  rcases lg_small hn with h1 | ⟨k, hk, hnk, h1⟩
  · rw [h1] at L1
    have he : agreeV word f (line.map toQ) two = 0 := by unfold agreeV agreeC; rw [hlen, h1, if_neg (by decide)]
    rw [he]
    have X1 : ∀ W, Calls Tryz.prog 31 #[.int .i64 (max (-1) 0), .int .i64 f] W (RowQPost W (xsL 0 f 1)) := fun W => by rw [show max (-1 : Int) 0 = 0 from by decide]; exact rxs_is 0 f W (by omega)
    unfold RowQPost at X1
    rw [xsL_len] at X1
    have HB : Hid (Below w.heap.size w w) := Lib.hid (Below.refl _ _)
    clear hw hwu hl hlu hln hlen h1 he
    go_enter Tryz.func16, Tryz.ntmps16
    go_upto_region 5 with (first
      | (go_at_call 30; (with_reducible refine (L1 _).mono ?_); rintro e w1 ⟨rfl, rfl⟩)
      | (go_at_call 31; (with_reducible refine (X1 _).mono ?_); rintro e w2 ⟨hb, xa, xc, rfl, hx⟩; replace HB := Lib.hid (bthen HB.out hb); clear hb hx))
    go_loopw [11, 12] (fun v i W => v = .int .i64 0 ∧ i = .int .i64 0 ∧ Below w.heap.size w W) (fun _ _ _ => 0)
    case atStart => exact ⟨rfl, rfl, HB.out⟩
    case round =>
      obtain ⟨rfl, rfl, hB⟩ := hrel
      have HB2 := Lib.hid hB
      clear hB
      by_cases h0 : (0 : Int) < (n : Int)
      all_goals
        go_wp2_with fail
        go_ret
        exact ⟨rfl, HB2.out⟩
  · rw [h1] at L1
    have hend := agUp_end (word := word) (f := f) (line := line.map toQ) (two := two) (by rw [hlen, h1]; omega)
    rw [hlen, h1] at hend
    have X1 := fun W => rxs_is k f W (by omega)
    unfold RowQPost at X1
    rw [xsL_len, ← hnk] at X1
    obtain ⟨h, hh⟩ : ∃ h, n / 2 = h := ⟨_, rfl⟩
    have hhI : (n : Int).tdiv 2 = (h : Int) := by rw [Int.tdiv_eq_ediv_of_nonneg (by omega)]; omega
    obtain ⟨hw1, hw2⟩ : IntKind.i64.wrap (h : Int) = (h : Int) ∧ wrap64 (h : Int) = (h : Int) := ⟨IntWalk.i64_in _ (by omega), IntWalk.wrap64_in _ (by omega)⟩
    rw [hh] at hend
    rw [← hend]
    have HB : Hid (Below w.heap.size w w) := Lib.hid (Below.refl _ _)
    have HLEN := Lib.hid hlen; have HH := Lib.hid hh
    have hmx : max (k : Int) 0 = (k : Int) := by omega
    have hk0 : (0 : Int) ≤ (k : Int) := by omega
    clear hw hwu hl hlu hln hlen h1 hend hh hnk hk
    go_enter Tryz.func16, Tryz.ntmps16
    go_upto_region 5 with (first
      | (go_at_call 30; (with_reducible refine (L1 _).mono ?_); rintro e w1 ⟨rfl, rfl⟩)
      | (go_at_call 31; (with_reducible refine (X1 _).mono ?_); rintro e w2 ⟨hb, xa, xc, rfl, hx⟩; have HX := Lib.hid hx.at; replace HB := Lib.hid (bthen HB.out hb); clear hb hx))
    clear L1 X1
    go_loopw [11, 12] (fun v i W => Below w2.heap.size w2 W ∧ AgRel w word (k : Int) f (line.map toQ) two h n v i W) (fun _ i _ => n - (intOf i).toNat)
    case atStart => exact ⟨Below.refl _ _, 0, Nat.zero_le _, rfl, HB.out, by unfold agUp; cases two <;> rfl⟩
    case round =>
      clear HB
      obtain ⟨hB2, j, hj, rfl, hB, rfl⟩ := hrel
      by_cases hlt : j < n
      · have hltI : (j : Int) < (n : Int) := Int.ofNat_lt.2 hlt
        have hj0 : (0 : Int) ≤ (j : Int) := Int.natCast_nonneg j
        obtain ⟨xb, xo, rfl, x0c, x1c⟩ := (HX.out.keep hB2).2.2 j hlt
        rw [xsL_at _ _ hlt] at x0c x1c
        obtain ⟨wb, wo, rfl, w0c, w1c⟩ := (HW.out.keep hB).2.2 j hlt
        obtain ⟨y0, y1, hy⟩ : ∃ y0 y1, word.getD j (0, 0) = (y0, y1) := ⟨_, _, rfl⟩
        have ry := qAt_rep HWU.out (show j < word.length by rw [HLEN.out]; exact hlt)
        rw [hy] at w0c w1c ry
        obtain ⟨v, hv⟩ : ∃ v, atP (line.map toQ) (ptV (k : Int) f j) = v := ⟨_, rfl⟩
        have a1 := fun W (hb : Below wr.heap.size wr W) => ratQ_is (c := lc) (HL.out.keep (bthen hB hb)) HLU.out HLN.out (ptV (k : Int) f j) v hv
        obtain ⟨u, hu⟩ : ∃ u, qAt word j = u := ⟨_, rfl⟩
        rw [hu] at ry
        have d1 := fun W (hb : Below wr.heap.size wr W) => radd_q y0 y1 0 0 u 0 u ry rep_zero (F2.add_zero u) W
        obtain ⟨r1, hr1⟩ : ∃ r, isAt word (k : Int) f (line.map toQ) j = r := ⟨_, rfl⟩
        have e1 := eqB_enc v u r1 (by rw [← hr1, ← hv, ← hu]; rfl)
        have hle := agUp_le (word := word) (m := (k : Int)) (f := f) (line := line.map toQ) (two := two) (h := h) (j := j)
        have HR1 := Lib.hid hr1
        have HJ := Lib.hid hlt; have HB2 := Lib.hid hB2; have HB := Lib.hid hB
        have hn64 : n ≤ 64 := hn
        unfold encP at x0c x1c
        simp only at x0c x1c
        clear hB2 hB hj hlt hy ry hv hu hr1
        obtain ⟨C, hC⟩ : ∃ C, agUp word (k : Int) f (line.map toQ) two h j = C := ⟨_, rfl⟩
        rw [hC] at hle
        have HC := Lib.hid hC
        rw [hC]
        clear hC
        go_upto_region 7 with fail
        rcases e1 with ⟨rfl, h1, h2⟩ | ⟨rfl, h1⟩ | ⟨rfl, h1, h2⟩
        case inl =>
          replace x0c := fun q : Regrown => cell_regrown x0c q.d q.os
          replace x1c := fun q : Regrown => cell_regrown x1c q.d q.os
          replace w0c := fun q : Regrown => cell_regrown w0c q.d q.os
          replace w1c := fun q : Regrown => cell_regrown w1c q.d q.os
          refine wp_region_quiet_below (by kernel_rfl) (by kernel_rfl) ?_
          repeat (first | go_big_quiet_step (first
            | (go_at_call 32; with_reducible exact Calls.regrown_of (a1 _ (below_regrown wr _ _)))
            | (go_at_call 33; with_reducible exact Calls.regrown_of (d1 _ (below_regrown wr _ _)))) | quiet_step (fail))
          refine wpQuiet_nil ?_
          rintro _ ⟨pq, rfl⟩
          have hb7 := below_regrown wr pq.d pq.os
          refine exit_gen (fun W => Below w2.heap.size w2 W ∧ Below w.heap.size w W) ⟨bthen HB2.out hb7, bthen HB.out hb7⟩ ?_
          rintro w7 ⟨hB7, hB7'⟩
          clear x0c x1c w0c w1c a1 d1 hb7 h1 h2 HB2 HB
          cases two
          · have HBE := Lib.hid (And.intro hB7 hB7')
            have HUP := Lib.hid (agUp_one (h := h) HR1.out)
            clear hB7 hB7'
            go_wp2_with fail
            go_roundw
            case rel => exact ⟨HBE.out.1, j + 1, HJ.out, by go_num, HBE.out.2, by rw [HUP.out, HC.out]; go_num⟩
            case measure =>
              have := HJ.out
              simp [intOf]
              omega
          · by_cases hjh : j < h
            · have hjhI : (j : Int) < (h : Int) := Int.ofNat_lt.2 hjh
              have hjn : j + h < n := by have := HH.out; omega
              have hs : IntKind.i64.wrap ((j : Int) + (h : Int)) = ((j + h : Nat) : Int) := by rw [IntWalk.i64_in _ (by omega)]; omega
              have hs2 : wrap64 ((j : Int) + (h : Int)) = ((j + h : Nat) : Int) := by rw [IntWalk.wrap64_in _ (by omega)]; omega
              obtain ⟨xb2, xo2, hxe, p0c, p1c⟩ := (HX.out.keep hB7).2.2 (j + h) hjn
              cases hxe
              rw [xsL_at _ _ hjn] at p0c p1c
              obtain ⟨wb2, wo2, hwe, q0c, q1c⟩ := (HW.out.keep hB7').2.2 (j + h) hjn
              cases hwe
              obtain ⟨y0, y1, hy⟩ : ∃ y0 y1, word.getD (j + h) (0, 0) = (y0, y1) := ⟨_, _, rfl⟩
              have ry := qAt_rep HWU.out (show j + h < word.length by rw [HLEN.out]; exact hjn)
              rw [hy] at q0c q1c ry
              obtain ⟨v, hv⟩ : ∃ v, atP (line.map toQ) (ptV (k : Int) f (j + h)) = v := ⟨_, rfl⟩
              have a2 := fun W (hb : Below w7.heap.size w7 W) => ratQ_is (c := lc) (HL.out.keep (bthen hB7' hb)) HLU.out HLN.out (ptV (k : Int) f (j + h)) v hv
              obtain ⟨u, hu⟩ : ∃ u, qAt word (j + h) = u := ⟨_, rfl⟩
              rw [hu] at ry
              have d2 := fun W (hb : Below w7.heap.size w7 W) => radd_q y0 y1 0 0 u 0 u ry rep_zero (F2.add_zero u) W
              obtain ⟨r2, hr2⟩ : ∃ r, isAt word (k : Int) f (line.map toQ) (j + h) = r := ⟨_, rfl⟩
              have e2 := eqB_enc v u r2 (by rw [← hr2, ← hv, ← hu]; rfl)
              have HUP := Lib.hid (agUp_two hjh HR1.out hr2)
              have HB7 := Lib.hid (And.intro hB7 hB7')
              unfold encP at p0c p1c
              simp only at p0c p1c
              obtain ⟨jh, hjhe⟩ : ∃ q, j + h = q := ⟨_, rfl⟩
              have hq0 : (0 : Int) ≤ (jh : Int) := Int.natCast_nonneg jh
              have hqn : (jh : Int) < (n : Int) := by rw [← hjhe]; exact Int.ofNat_lt.2 hjn
              rw [hjhe] at hs hs2 p0c p1c q0c q1c a2
              clear hB7 hB7' hjh hjn hy ry hv hu hr2 hjhe
              go_upto_region 12 with fail
              rcases e2 with ⟨rfl, h1, h2⟩ | ⟨rfl, h1⟩ | ⟨rfl, h1, h2⟩
              all_goals
                replace p0c := fun q : Regrown => cell_regrown p0c q.d q.os
                replace p1c := fun q : Regrown => cell_regrown p1c q.d q.os
                replace q0c := fun q : Regrown => cell_regrown q0c q.d q.os
                replace q1c := fun q : Regrown => cell_regrown q1c q.d q.os
                refine wp_region_quiet_below (by kernel_rfl) (by kernel_rfl) ?_
                repeat (first | go_big_quiet_step (first
                  | (go_at_call 32; with_reducible exact Calls.regrown_of (a2 _ (below_regrown w7 _ _)))
                  | (go_at_call 33; with_reducible exact Calls.regrown_of (d2 _ (below_regrown w7 _ _)))) | quiet_step (fail))
                refine wpQuiet_nil ?_
                rintro _ ⟨pq, rfl⟩
                have hb8 := below_regrown w7 pq.d pq.os
                refine exit_gen (fun W => Below w2.heap.size w2 W ∧ Below w.heap.size w W) ⟨bthen HB7.out.1 hb8, bthen HB7.out.2 hb8⟩ ?_
                rintro w8 hB8
                have HBE := Lib.hid hB8
                clear p0c p1c q0c q1c a2 d2 hb8 hB8 h1 HB7
                go_wp2_with fail
                go_roundw
                case rel => exact ⟨HBE.out.1, j + 1, HJ.out, by go_num, HBE.out.2, by rw [HUP.out, HC.out]; go_num⟩
                case measure =>
                  have := HJ.out
                  simp [intOf]
                  omega
            · have hjhI : ¬ (j : Int) < (h : Int) := by omega
              have HBE := Lib.hid (And.intro hB7 hB7')
              have HUP := Lib.hid (agUp_far (word := word) (m := (k : Int)) (f := f) (line := line.map toQ) hjh)
              clear hB7 hB7' hjh
              go_upto_region 12 with fail
              refine wp_region_quiet_below (by kernel_rfl) (by kernel_rfl) ?_
              repeat (first | go_big_quiet_step (fail) | quiet_step (fail))
              refine wpQuiet_nil ?_
              rintro _ ⟨pq, rfl⟩
              have hb8 := below_regrown w7 pq.d pq.os
              refine exit_gen (fun W => Below w2.heap.size w2 W ∧ Below w.heap.size w W) ⟨bthen HBE.out.1 hb8, bthen HBE.out.2 hb8⟩ ?_
              rintro w8 hB8
              have HBE := Lib.hid hB8
              clear hB8 hb8
              go_wp2_with fail
              go_roundw
              case rel => exact ⟨HBE.out.1, j + 1, HJ.out, by go_num, HBE.out.2, by rw [HUP.out, HC.out]⟩
              case measure =>
                have := HJ.out
                simp [intOf]
                omega
        all_goals
          replace x0c := fun q : Regrown => cell_regrown x0c q.d q.os
          replace x1c := fun q : Regrown => cell_regrown x1c q.d q.os
          replace w0c := fun q : Regrown => cell_regrown w0c q.d q.os
          replace w1c := fun q : Regrown => cell_regrown w1c q.d q.os
          refine wp_region_quiet_below (by kernel_rfl) (by kernel_rfl) ?_
          repeat (first | go_big_quiet_step (first
            | (go_at_call 32; with_reducible exact Calls.regrown_of (a1 _ (below_regrown wr _ _)))
            | (go_at_call 33; with_reducible exact Calls.regrown_of (d1 _ (below_regrown wr _ _)))) | quiet_step (fail))
          refine wpQuiet_nil ?_
          rintro _ ⟨pq, rfl⟩
          have hb7 := below_regrown wr pq.d pq.os
          refine exit_gen (fun W => Below w2.heap.size w2 W ∧ Below w.heap.size w W) ⟨bthen HB2.out hb7, bthen HB.out hb7⟩ ?_
          rintro w7 hB7
          have HBE := Lib.hid hB7
          have HUP : Hid (agUp word (k : Int) f (line.map toQ) two h (j + 1) = agUp word (k : Int) f (line.map toQ) two h j) := Lib.hid (by
            cases two
            · rw [agUp_one HR1.out]; rfl
            · by_cases hjh : j < h
              · rw [agUp_two hjh HR1.out rfl]; rfl
              · exact agUp_far hjh)
          clear x0c x1c w0c w1c a1 d1 hb7 hB7 h1 HB2 HB
          cases two
          · go_wp2_with fail
            go_roundw
            case rel => exact ⟨HBE.out.1, j + 1, HJ.out, by go_num, HBE.out.2, by rw [HUP.out, HC.out]⟩
            case measure =>
              have := HJ.out
              simp [intOf]
              omega
          · by_cases hjh : (j : Int) < (h : Int)
            all_goals
              go_upto_region 12 with fail
              refine wp_region_quiet_below (by kernel_rfl) (by kernel_rfl) ?_
              repeat (first | go_big_quiet_step (fail) | quiet_step (fail))
              refine wpQuiet_nil ?_
              rintro _ ⟨pq, rfl⟩
              have hb8 := below_regrown w7 pq.d pq.os
              refine exit_gen (fun W => Below w2.heap.size w2 W ∧ Below w.heap.size w W) ⟨bthen HBE.out.1 hb8, bthen HBE.out.2 hb8⟩ ?_
              rintro w8 hB8
              have HBE := Lib.hid hB8
              clear hB8 hb8
              go_wp2_with fail
              go_roundw
              case rel => exact ⟨HBE.out.1, j + 1, HJ.out, by go_num, HBE.out.2, by rw [HUP.out, HC.out]⟩
              case measure =>
                have := HJ.out
                simp [intOf]
                omega
      · obtain rfl : j = n := by omega
        have hlt0 : ¬ (j : Int) < (j : Int) := by omega
        have HBE := Lib.hid hB
        clear hB hB2 hj hlt
        go_wp2_with fail
        go_ret
        exact ⟨rfl, HBE.out⟩
end Go.Proofs.YthfkfgjhgicfeaaGreatDoor
namespace Go.Proofs.YthfkfgjhgicfeaaGreatDoor
open Go Go.RowKit Go.Sort Go.BigFrame
set_option linter.unusedVariables false

theorem picks_congr {x y : Nat → F2} {I : List Nat} (h : ∀ i ∈ I, x i = y i) : picks x I = picks y I := List.map_congr_left h
def bestUp (g : List Nat → Nat) (L : List (List Nat)) (j : Nat) : Nat := (L.take j).foldl (fun b I => max b (g I)) 0
theorem bestUp_step (g : List Nat → Nat) (L : List (List Nat)) {j : Nat} (h : j < L.length) : bestUp g L (j + 1) = max (bestUp g L j) (g (L.getD j [])) := by
  unfold bestUp
  rw [List.take_succ_eq_append_getElem h, List.foldl_append]
  simp [List.getD, h]
theorem bestUp_le {g : List Nat → Nat} {L : List (List Nat)} {j M : Nat} (h : ∀ I, g I ≤ M) : bestUp g L j ≤ M := by
  rcases max_is g (L.take j) 0 with h1 | ⟨I, _, h1⟩
  · unfold bestUp; rw [h1]; exact Nat.zero_le _
  · unfold bestUp; rw [h1]; exact h I
theorem agreeV_le (word : QL) (f : Int) (line : List F2) (two : Bool) : agreeV word f line two ≤ word.length := by
  unfold agreeV agreeC
  split
  · split
    · exact Nat.le_trans (many_le _ _) (Nat.div_le_self _ _)
    · exact many_le _ _
  · exact Nat.zero_le _
theorem oneB_le (word : QL) (f : Int) (two : Bool) (I : List Nat) : oneB word f two I ≤ word.length := by
  unfold oneB
  split
  · exact agreeV_le _ _ _ _
  · exact Nat.zero_le _
theorem encL_U (l : List F2) : UsR (encL l) := fun n hn => by
  obtain ⟨x, _, rfl⟩ := List.mem_map.1 hn
  exact ⟨enc_U _, enc_U _⟩
theorem encL_toQ (l : List F2) : (encL l).map toQ = l := by
  unfold encL
  rw [List.map_map]
  exact (List.map_congr_left fun x _ => toQ_encP x).trans (List.map_id _)
theorem thrL_len {x y : List F2} : (thrL x y).length ≤ x.length := by
  unfold thrL
  split
  · rw [pl_len]; exact tn_le _ _
  · exact Nat.zero_le _
def BestRel (w wb : World) (g : List Nat → Nat) (L : List (List Nat)) (v i : Value) (W : World) : Prop :=
  ∃ j : Nat, j ≤ L.length ∧ i = .int .i64 (j : Int) ∧ Below w.heap.size w W ∧ Below wb.heap.size wb W ∧ v = .int .i64 (bestUp g L j : Nat)
theorem bestOk_no {n : Nat} {dim : Int} (h : ¬ bestOk n dim) {word : QL} (hl : word.length = n) (f : Int) (two : Bool) : bestV word f dim two = 0 := by
  unfold bestV; rw [hl, if_neg h]
def BestR (a xa ai : Option Addr) (n c xc tb tO LN tc j ci : Nat) (I : List Nat) (XI1 XI2 : QL) (LL : List F2) (B : Bool) (sl : Nat) (v : Value) (W : World) : Prop :=
  match sl with
  | 49 => v = .slice xa n xc
  | 50 => v = .slice (some ⟨tb, tO, none⟩) LN tc
  | 51 => v = .int .i64 (j : Int)
  | 52 => v = .pointer (some ⟨tb, tO + j, none⟩)
  | 53 => v = .slice ai I.length ci
  | 54 => ∃ (pa : Option Addr) (pc : Nat), v = .slice pa XI1.length pc ∧ QRow W (.slice pa XI1.length pc) XI1
  | 55 => v = .slice a n c
  | 56 => v = .slice (some ⟨tb, tO, none⟩) LN tc
  | 57 => v = .int .i64 (j : Int)
  | 58 => v = .pointer (some ⟨tb, tO + j, none⟩)
  | 59 => v = .slice ai I.length ci
  | 60 => ∃ (pa : Option Addr) (pc : Nat), v = .slice pa XI2.length pc ∧ QRow W (.slice pa XI2.length pc) XI2
  | 61 => ∃ (al : Option Addr) (cl : Nat), v = .tuple #[.slice al LL.length cl, .bool B] ∧ IsP W (.slice al LL.length cl) LL
  | 48 => ∃ (al : Option Addr) (cl : Nat), v = .tuple #[.slice al LL.length cl, .bool B] ∧ IsP W (.slice al LL.length cl) LL
  | 62 => ∃ (al : Option Addr) (cl : Nat), v = .slice al LL.length cl ∧ IsP W (.slice al LL.length cl) LL
  | 63 => v = .bool B
  | 14 => ∃ (al : Option Addr) (cl : Nat), v = .slice al LL.length cl ∧ IsP W (.slice al LL.length cl) LL
  | 15 => v = .bool B
  | _ => v = .bool true
theorem BestR.keep {a xa ai : Option Addr} {n c xc tb tO LN tc j ci : Nat} {I : List Nat} {XI1 XI2 : QL} {LL : List F2} {B : Bool} {sl : Nat} {v : Value} {W W' : World} (h : BestR a xa ai n c xc tb tO LN tc j ci I XI1 XI2 LL B sl v W) (hb : Below W.heap.size W W') : BestR a xa ai n c xc tb tO LN tc j ci I XI1 XI2 LL B sl v W' := by
  unfold BestR at *
  split at h
  all_goals first | exact h | (obtain ⟨pa, pc, e, hq⟩ := h; exact ⟨pa, pc, e, hq.keep hb⟩)
set_option maxRecDepth 100000 in
set_option maxHeartbeats 8000000 in
theorem rbest_is (a : Option Addr) (n c : Nat) (word : QL) (f dim : Int) (two : Bool) (w : World) (hw : QRowA w a n word) (hwu : UsR word) (hn : n ≤ 16) :
    Calls Tryz.prog 18 #[.slice a n c, .int .i64 f, .int .i64 dim, .bool two] w (IntPost w (bestV word f dim two)) := by
  have hlen := hw.1
  have L1 := fun W => reflog_is (n : Int) (lg (n : Int)) (by constructor <;> omega) rfl W
  have HB : Hid (Below w.heap.size w w) := Lib.hid (Below.refl _ _)
  by_cases c1 : lg (n : Int) < 1
  · rw [bestOk_no (fun h => by have := h.1; omega) hlen]
    clear hw hwu hlen
    obtain ⟨m, hm⟩ : ∃ m, lg (n : Int) = m := ⟨_, rfl⟩
    rw [hm] at L1 c1
    clear hm
    go_enter Tryz.func18, Tryz.ntmps18
    go_wp2_with (go_at_call 30; (with_reducible refine (L1 _).mono ?_); rintro e w1 ⟨rfl, rfl⟩)
    go_ret
    exact ⟨rfl, HB.out⟩
  obtain ⟨k, hk, hnk, h1⟩ := (lg_small (show n ≤ 64 by omega)).resolve_left (by omega)
  have hk1 : 1 ≤ k := by omega
  have hk4 : k ≤ 4 := by
    refine Nat.le_of_not_lt fun hc => ?_
    have : 2 ^ 5 ≤ 2 ^ k := Nat.pow_le_pow_right (by decide) hc
    omega
  rw [h1] at L1
  have c1' : ¬ (k : Int) < 1 := by omega
  have c2' : ¬ 4 < (k : Int) := by omega
  by_cases c3 : dim < 0
  · rw [bestOk_no (fun h => by have := h.2.2.1; omega) hlen]
    clear hw hwu hlen c1 hk hnk h1
    go_enter Tryz.func18, Tryz.ntmps18
    go_wp2_with (go_at_call 30; (with_reducible refine (L1 _).mono ?_); rintro e w1 ⟨rfl, rfl⟩)
    go_ret
    exact ⟨rfl, HB.out⟩
  by_cases c4 : (n : Int) < dim
  · rw [bestOk_no (fun h => by have := h.2.2.2; omega) hlen]
    clear hw hwu hlen c1 hk hnk h1
    go_enter Tryz.func18, Tryz.ntmps18
    go_wp2_with (go_at_call 30; (with_reducible refine (L1 _).mono ?_); rintro e w1 ⟨rfl, rfl⟩)
    go_ret
    exact ⟨rfl, HB.out⟩
  obtain ⟨D, rfl⟩ := Int.eq_ofNat_of_zero_le (show 0 ≤ dim by omega)
  have hD : D ≤ n := by omega
  have hBok : bestOk n (D : Int) := by unfold bestOk; rw [h1]; exact ⟨by omega, by omega, by omega, by omega⟩
  have X1 := fun W => rxs_is k f W (by omega)
  unfold RowQPost at X1
  rw [xsL_len, ← hnk] at X1
  have T1 := fun W => rsubs_is D n W (by omega) hn
  unfold NTabPost at T1
  have hend : bestV word f (D : Int) two = bestUp (oneB word f two) (subs D n) (subs D n).length := by
    unfold bestV bestUp
    rw [hlen, if_pos hBok, Int.toNat_natCast, List.take_length]
  rw [hend]
  have hsl : ∀ I ∈ subs D n, I.length = D ∧ ∀ i ∈ I, i < n := fun I hI => ⟨subs_len hI, subs_lt hI⟩
  have hLc := subs_le D n hn
  obtain ⟨L, hL⟩ : ∃ L, subs D n = L := ⟨_, rfl⟩
  rw [hL] at T1 hsl hLc ⊢
  have HW := Lib.hid hw; have HWU := Lib.hid hwu; have HLEN := Lib.hid hlen; have HSL := Lib.hid hsl; have HN := Lib.hid hn; have HG := Lib.hid h1; have HD := Lib.hid hD
  clear hw hwu hlen hsl hL hend hBok hD hnk h1 c1 hk hk1 hk4
  go_enter Tryz.func18, Tryz.ntmps18
  go_upto_region 8 with (first
    | (go_at_call 30; (with_reducible refine (L1 _).mono ?_); rintro e w1 ⟨rfl, rfl⟩)
    | (go_at_call 31; (with_reducible refine (X1 _).mono ?_); rintro e w2 ⟨hb, xa, xc, rfl, hx⟩; have HX := Lib.hid hx; replace HB := Lib.hid (bthen HB.out hb); clear hb hx)
    | (go_at_call 37; (with_reducible refine (T1 _).mono ?_); rintro e w3 ⟨hb, ta, tc, rfl, hT⟩; have HT := Lib.hid hT; replace HX := Lib.hid (HX.out.keep hb); replace HB := Lib.hid (bthen HB.out hb); clear hb hT))
  clear L1 X1 T1 c1' c2' c3 c4
  go_loopw [12, 13] (BestRel w w3 (oneB word f two) L) (fun _ i _ => L.length - (intOf i).toNat)
  case atStart => exact ⟨0, Nat.zero_le _, rfl, HB.out, Below.refl _ _, rfl⟩
  case round =>
    clear HB
    obtain ⟨j, hj, rfl, hB, hB3, rfl⟩ := hrel
    by_cases hlt : j < L.length
    · have hltI : (j : Int) < (L.length : Int) := Int.ofNat_lt.2 hlt
      have hj0 : (0 : Int) ≤ (j : Int) := Int.natCast_nonneg j
      obtain ⟨tb, tO, rfl, ai, ci, t0c, hrow, hci⟩ := (RowsP.keep (rowP := NRowA) nrowP_keep HT.out hB3).2.2 j hlt
      have hstep := bestUp_step (oneB word f two) L hlt
      have hin : L.getD j [] ∈ L := by rw [show L.getD j [] = L[j] by simp [List.getD, hlt]]; exact List.getElem_mem hlt
      obtain ⟨I, hI⟩ : ∃ I, L.getD j [] = I := ⟨_, rfl⟩
      rw [hI] at t0c hrow hin hstep
      obtain ⟨hIl, hIn⟩ := HSL.out I hin
      have hI16 : I.length ≤ 1000 := by have := HD.out; have := HN.out; omega
      have kp1 := fun W (h : Below wr.heap.size wr W) => rpick_is xa n xc (xsL (k : Int) f n) ai I.length ci I W ((HX.out.keep (bthen hB3 h)).at) (hrow.keep h) hI16 hIn
      have kp2 := fun W (h : Below wr.heap.size wr W) => rpick_is a n c word ai I.length ci I W (HW.out.keep (bthen hB h)) (hrow.keep h) hI16 hIn
      have q1 : (pickL (xsL (k : Int) f n) I).map toQ = picks (ptV (k : Int) f) I := (pickL_map _ _).trans (picks_congr fun i hi => xsL_qAt _ _ (hIn i hi))
      have q2 : (pickL word I).map toQ = picks (qAt word) I := pickL_map _ _
      have kt := fun W v u (h1 : QRow W v (pickL (xsL (k : Int) f n) I)) (h2 : QRow W u (pickL word I)) => dthrough v u (picks (ptV (k : Int) f) I) (picks (qAt word) I) W ⟨_, h1, pickL_U (xsL_U _ _ _) (fun i hi => by rw [xsL_len]; exact hIn i hi), q1⟩ ⟨_, h2, pickL_U HWU.out (fun i hi => by rw [HLEN.out]; exact hIn i hi), q2⟩ (by rw [picks_len]; omega) (by rw [picks_len]; omega)
      unfold RetT at kt
      have hone : oneB word f two I = if thrB (picks (ptV (k : Int) f) I) (picks (qAt word) I) = true then agreeV word f (thrL (picks (ptV (k : Int) f) I) (picks (qAt word) I)) two else 0 := by
        unfold oneB; rw [HLEN.out, HG.out]
      have hll : (thrL (picks (ptV (k : Int) f) I) (picks (qAt word) I)).length ≤ 1000 := Nat.le_trans thrL_len (by rw [picks_len]; exact hI16)
      generalize thrL (picks (ptV (k : Int) f) I) (picks (qAt word) I) = LL at *
      obtain ⟨B, hBB⟩ : ∃ B, thrB (picks (ptV (k : Int) f) I) (picks (qAt word) I) = B := ⟨_, rfl⟩
      rw [hBB] at hone kt
      have hub : bestUp (oneB word f two) L j ≤ 16 := bestUp_le fun I => Nat.le_trans (oneB_le _ _ _ _) (by rw [HLEN.out]; exact HN.out)
      have hag := agreeV_le word f LL two
      rw [HLEN.out] at hag
      have HSTEP := Lib.hid hstep; have HONE := Lib.hid hone; have HJ := Lib.hid hlt; have HB := Lib.hid hB; have HB3 := Lib.hid hB3; have HLL := Lib.hid hll; have HAG := Lib.hid hag; have HUB := Lib.hid hub
      obtain ⟨LNN, hLN⟩ : ∃ q, L.length = q := ⟨_, rfl⟩
      obtain ⟨b0, hb0⟩ : ∃ b, bestUp (oneB word f two) L j = b := ⟨_, rfl⟩
      rw [hb0]
      have HLQ := Lib.hid hLN
      have hLc2 : LNN ≤ 65536 := by rw [← hLN]; exact hLc
      have HB0 := Lib.hid hb0
      simp only [hLN] at hltI ⊢
      obtain ⟨XI1, hX1⟩ : ∃ q, pickL (xsL (k : Int) f n) I = q := ⟨_, rfl⟩
      obtain ⟨XI2, hX2⟩ : ∃ q, pickL word I = q := ⟨_, rfl⟩
      rw [hX1] at kp1 kt
      rw [hX2] at kp2 kt
      unfold RowQPost at kp1 kp2
      clear hstep hone hlt hB hB3 hll hag hub hLN hb0 hI hin hIl hIn hrow hci q1 q2 hBB hX1 hX2 hj hI16
      go_upto_region 10 with fail
      refine wp_loose [(49, []), (50, []), (51, []), (52, [50, 51]), (53, [52]), (54, [49, 53]), (55, []), (56, []), (57, []), (58, [56, 57]), (59, [58]), (60, [55, 59]), (61, [54, 60]), (48, [61]), (62, [48]), (63, [48]), (14, [62]), (15, [63])]
        (BestR a xa ai n c xc tb tO LNN tc j ci I XI1 XI2 LL B) (fun d => false) (by kernel_rfl) (by kernel_rfl) (fun _ _ _ _ h hb => h.keep hb) ?_ ?_
      · refine opsrun_cons ?_ (opsrun_cons ?_ (opsrun_cons ?_ (opsrun_cons ?_ (opsrun_cons ?_ (opsrun_cons ?_ (opsrun_cons ?_ (opsrun_cons ?_ (opsrun_cons ?_ (opsrun_cons ?_ (opsrun_cons ?_ (opsrun_cons ?_ (opsrun_cons ?_ (opsrun_cons ?_ (opsrun_cons ?_ (opsrun_cons ?_ (opsrun_cons ?_ (opsrun_cons ?_ opsrun_nil)))))))))))))))))
        all_goals
          refine OpRuns.any ?_
          intro Q0 σ W' K hb hn hK
          simp only [fill, List.map, Act.put, List.setIfInBounds_toArray, List.set_cons_zero, List.set_cons_succ] at hK ⊢
        · clear hn
          go_simp
          exact hK _ _ rfl (Below.refl _ _) (fun h => absurd h (by decide))
        · clear hn
          go_simp
          exact hK _ _ rfl (Below.refl _ _) (fun h => absurd h (by decide))
        · clear hn
          go_simp
          exact hK _ _ rfl (Below.refl _ _) (fun h => absurd h (by decide))
        · have h50 : σ 50 = _ := hn 50 (by decide)
          have h51 : σ 51 = _ := hn 51 (by decide)
          clear hn
          simp only [h50, h51] at hK
          go_simp
          exact hK _ _ rfl (Below.refl _ _) (fun h => absurd h (by decide))
        · have h52 : σ 52 = _ := hn 52 (by decide)
          clear hn
          simp only [h52] at hK
          have t0c' := bkeep hb t0c
          clear t0c
          go_simp
          exact hK _ _ rfl (Below.refl _ _) (fun h => absurd h (by decide))
        · have h49 : σ 49 = _ := hn 49 (by decide)
          have h53 : σ 53 = _ := hn 53 (by decide)
          clear hn
          simp only [h49, h53] at hK
          go_simp
          go_at_call 39
          refine (kp1 _ hb).mono ?_
          rintro e w1 ⟨hb1, pa, pc, rfl, hq⟩
          exact hK _ _ ⟨pa, pc, rfl, hq⟩ hb1 (fun h => absurd h (by decide))
        · clear hn
          go_simp
          exact hK _ _ rfl (Below.refl _ _) (fun h => absurd h (by decide))
        · clear hn
          go_simp
          exact hK _ _ rfl (Below.refl _ _) (fun h => absurd h (by decide))
        · clear hn
          go_simp
          exact hK _ _ rfl (Below.refl _ _) (fun h => absurd h (by decide))
        · have h56 : σ 56 = _ := hn 56 (by decide)
          have h57 : σ 57 = _ := hn 57 (by decide)
          clear hn
          simp only [h56, h57] at hK
          go_simp
          exact hK _ _ rfl (Below.refl _ _) (fun h => absurd h (by decide))
        · have h58 : σ 58 = _ := hn 58 (by decide)
          clear hn
          simp only [h58] at hK
          have t0c' := bkeep hb t0c
          clear t0c
          go_simp
          exact hK _ _ rfl (Below.refl _ _) (fun h => absurd h (by decide))
        · have h55 : σ 55 = _ := hn 55 (by decide)
          have h59 : σ 59 = _ := hn 59 (by decide)
          clear hn
          simp only [h55, h59] at hK
          go_simp
          go_at_call 39
          refine (kp2 _ hb).mono ?_
          rintro e w1 ⟨hb1, pa, pc, rfl, hq⟩
          exact hK _ _ ⟨pa, pc, rfl, hq⟩ hb1 (fun h => absurd h (by decide))
        · have p54 : ∃ (pa : Option Addr) (pc : Nat), (σ 54) = .slice pa XI1.length pc ∧ QRow W' (.slice pa XI1.length pc) XI1 := hn 54 (by decide)
          have p60 : ∃ (pa : Option Addr) (pc : Nat), (σ 60) = .slice pa XI2.length pc ∧ QRow W' (.slice pa XI2.length pc) XI2 := hn 60 (by decide)
          clear hn
          obtain ⟨q1, c1, e1, hq1⟩ := p54
          obtain ⟨q2, c2, e2, hq2⟩ := p60
          simp only [e1, e2] at hK
          go_simp
          go_at_call 38
          refine (kt _ _ _ hq1 hq2).mono ?_
          rintro e w1 ⟨v, rfl, hb1, hq⟩
          obtain ⟨al, cl, rfl⟩ := hq.slice
          exact hK _ _ ⟨al, cl, rfl, hq⟩ hb1 (fun h => absurd h (by decide))
        · have p61 : ∃ (al : Option Addr) (cl : Nat), (σ 61) = .tuple #[.slice al LL.length cl, .bool B] ∧ IsP W' (.slice al LL.length cl) LL := hn 61 (by decide)
          clear hn
          obtain ⟨al, cl, e, hq⟩ := p61
          simp only [e] at hK
          go_simp
          exact hK _ _ ⟨al, cl, rfl, hq⟩ (Below.refl _ _) (fun h => absurd h (by decide))
        · have p48 : ∃ (al : Option Addr) (cl : Nat), (σ 48) = .tuple #[.slice al LL.length cl, .bool B] ∧ IsP W' (.slice al LL.length cl) LL := hn 48 (by decide)
          clear hn
          obtain ⟨al, cl, e, hq⟩ := p48
          simp only [e] at hK
          go_simp
          exact hK _ _ ⟨al, cl, rfl, hq⟩ (Below.refl _ _) (fun h => absurd h (by decide))
        · have p48 : ∃ (al : Option Addr) (cl : Nat), (σ 48) = .tuple #[.slice al LL.length cl, .bool B] ∧ IsP W' (.slice al LL.length cl) LL := hn 48 (by decide)
          clear hn
          obtain ⟨al, cl, e, hq⟩ := p48
          simp only [e] at hK
          go_simp
          exact hK _ _ rfl (Below.refl _ _) (fun h => absurd h (by decide))
        · have p62 : ∃ (al : Option Addr) (cl : Nat), (σ 62) = .slice al LL.length cl ∧ IsP W' (.slice al LL.length cl) LL := hn 62 (by decide)
          clear hn
          obtain ⟨al, cl, e, hq⟩ := p62
          simp only [e] at hK
          go_simp
          exact hK _ _ ⟨al, cl, rfl, hq⟩ (Below.refl _ _) (fun h => absurd h (by decide))
        · have h63 : σ 63 = _ := hn 63 (by decide)
          clear hn
          simp only [h63] at hK
          go_simp
          exact hK _ _ rfl (Below.refl _ _) (fun h => absurd h (by decide))
      · intro σ W' hb hR' hF
        obtain ⟨al, cl, h14, hq⟩ : ∃ (al : Option Addr) (cl : Nat), σ 14 = .slice al LL.length cl ∧ IsP W' (.slice al LL.length cl) LL := hR' 14 (by decide)
        have h15 : σ 15 = .bool B := hR' 15 (by decide)
        have HBE := Lib.hid (bthen HB.out hb); have HBF := Lib.hid (bthen HB3.out hb)
        have ka := fun W (h : Below W'.heap.size W' W) => ragree_is a n c word f al LL.length cl (encL LL) two W (HW.out.keep (bthen HBE.out h)) HWU.out (by have := HN.out; omega) ((QRow.keep hq h).at) (encL_U LL) (by have := HLL.out; omega)
        rw [encL_toQ] at ka
        unfold IntPost at ka
        clear hR' hF hb t0c kp1 kp2 kt hq
        simp only [fill, List.map, Act.put, List.setIfInBounds_toArray, List.set_cons_zero, List.set_cons_succ, List.length_cons, List.length_nil, List.drop_succ_cons, List.drop_zero, Nat.reduceAdd, h14, h15]
        clear h14 h15
        cases B
        · have hz : oneB word f two I = 0 := HONE.out
          have HUP : Hid (bestUp (oneB word f two) L (j + 1) = b0) := Lib.hid (by rw [HSTEP.out, hz, HB0.out]; omega)
          clear hz
          go_wp2_with fail
          go_roundw
          case rel => exact ⟨j + 1, HJ.out, by go_num, HBE.out, HBF.out, by rw [HUP.out]⟩
          case measure =>
            have := HJ.out
            have := HLQ.out
            simp [intOf]
            omega
        · have hz : oneB word f two I = agreeV word f LL two := HONE.out
          obtain ⟨ag, hag⟩ : ∃ q, agreeV word f LL two = q := ⟨_, rfl⟩
          rw [hag] at hz ka
          have HUP : Hid (bestUp (oneB word f two) L (j + 1) = max b0 ag) := Lib.hid (by rw [HSTEP.out, hz, HB0.out])
          have hmx : max (b0 : Int) (ag : Int) = ((max b0 ag : Nat) : Int) := by omega
          clear hz hag
          go_wp2_with (go_at_call 16; (with_reducible refine (ka _ (Below.refl _ _)).mono ?_); rintro e w9 ⟨rfl, hb9⟩; replace HBE := Lib.hid (bthen HBE.out hb9); replace HBF := Lib.hid (bthen HBF.out hb9); clear hb9)
          go_roundw
          case rel => exact ⟨j + 1, HJ.out, by go_num, HBE.out, HBF.out, by rw [HUP.out]⟩
          case measure =>
            have := HJ.out
            have := HLQ.out
            simp [intOf]
            omega
    · obtain rfl : j = L.length := by omega
      have hlt0 : ¬ ((L.length : Nat) : Int) < (L.length : Int) := by omega
      have HBE := Lib.hid hB
      clear hB hB3 hj hlt
      go_wp2_with fail
      go_ret
      exact ⟨rfl, HBE.out⟩
end Go.Proofs.YthfkfgjhgicfeaaGreatDoor
namespace Go.Proofs.YthfkfgjhgicfeaaGreatDoor
open Go Go.RowKit Go.Sort Go.BigFrame
set_option linter.unusedVariables false

def oddL (word : QL) (f : Int) (h : Nat) : QL := encL (mk h (oddV word f))
theorem oddL_len (word : QL) (f : Int) (h : Nat) : (oddL word f h).length = h := by unfold oddL; rw [encL_len, mk_len]
theorem oddL_at (word : QL) (f : Int) {h i : Nat} (hi : i < h) : (oddL word f h).getD i (0, 0) = encP (oddV word f i) := by
  unfold oddL
  rw [encL_at, mk_at h _ i hi]
  rfl
theorem oddL_qAt (word : QL) (f : Int) {h i : Nat} (hi : i < h) : qAt (oddL word f h) i = oddV word f i := by
  unfold qAt
  rw [oddL_at word f hi]
  exact toQ_encP _
def SplitPost (w : World) (E O : QL) (e : Ending) (w' : World) : Prop :=
  Below w.heap.size w w' ∧ ∃ (ea : Option Addr) (ec : Nat) (oa : Option Addr) (oc : Nat), e = .returned (.tuple #[.slice ea E.length ec, .slice oa O.length oc]) ∧ QRowA w' ea E.length E ∧ QRowA w' oa O.length O
def SplitUp (w w2 : World) (g h : Nat) (f : Nat → F2) (i : Value) (W : World) : Prop :=
  ∃ m : Nat, m ≤ h ∧ i = .int .i64 m ∧ Below w.heap.size w W ∧ Below w2.heap.size w2 W ∧ Arr W g (h * 2) (pc (prt f m))
def SplR (g H bb bo bc eb eo ec j : Nat) (b0 b1 e0 e1 : Int) (m : F2) (sl : Nat) (v : Value) (W : World) : Prop :=
  match sl with
  | 35 => v = .slice (some ⟨g, 0, none⟩) H H
  | 36 => v = .int .i64 (j : Int)
  | 37 => v = .slice (some ⟨bb, bo, none⟩) H bc
  | 38 => v = .int .i64 (j : Int)
  | 39 => v = .pointer (some ⟨bb, bo + j * 2, none⟩)
  | 40 => v = .agg #[.int .u64 b0, .int .u64 b1]
  | 41 => v = .slice (some ⟨eb, eo, none⟩) H ec
  | 42 => v = .int .i64 (j : Int)
  | 43 => v = .pointer (some ⟨eb, eo + j * 2, none⟩)
  | 44 => v = .agg #[.int .u64 e0, .int .u64 e1]
  | 45 => v = .agg #[.int .u64 (enc m.a), .int .u64 (enc m.b)]
  | _ => v = .pointer (some ⟨g, j * 2, none⟩)
theorem SplR.keep {g H bb bo bc eb eo ec j : Nat} {b0 b1 e0 e1 : Int} {m : F2} {sl : Nat} {v : Value} {W W' : World} (h : SplR g H bb bo bc eb eo ec j b0 b1 e0 e1 m sl v W) (hb : Below W.heap.size W W') : SplR g H bb bo bc eb eo ec j b0 b1 e0 e1 m sl v W' := h
set_option maxRecDepth 100000 in
set_option maxHeartbeats 8000000 in
theorem rsplit_is (a : Option Addr) (n c k : Nat) (word : QL) (f : Int) (w : World) (hw : QRowA w a n word) (hwu : UsR word) (hn : word.length = 2 ^ (k + 1)) (hk : k ≤ 10) :
    Calls Tryz.prog 43 #[.slice a n c, .int .i64 f] w (SplitPost w (wordV word 0 f).1 (oddL word f (2 ^ k))) := by
  have hEl := word_len hn (by omega) 0 f
  have hBl := word_len hn (by omega) 1 f
  have hok : ∀ y, wordV word y f = ((wordV word y f).1, true) := fun y => by
    rw [wordV_yes (by rw [lg_len hn]; omega)]
  have W1 := fun W (h : Below w.heap.size w W) => rfword_is a n c word 0 0 f 0 (wordV word 0 f).1 true W (hw.keep h) hwu rep_zero (hok 0)
  have W2 := fun W (h : Below w.heap.size w W) => rfword_is a n c word 1 0 f 1 (wordV word 1 f).1 true W (hw.keep h) hwu (rep_enc 1) (hok 1)
  unfold WordPost at W1 W2
  have hUE := wordV_U (hok 0); have hUB := wordV_U (hok 1)
  have hodd : ∀ i, qAt (wordV word 1 f).1 i - qAt (wordV word 0 f).1 i = oddV word f i := fun i => rfl
  have hol : (oddL word f (2 ^ k)).length = 2 ^ k := oddL_len _ _ _
  unfold SplitPost
  rw [hol]
  have hOL : oddL word f (2 ^ k) = encL (mk (2 ^ k) (oddV word f)) := rfl
  obtain ⟨EV, hEV⟩ : ∃ q, (wordV word 0 f).1 = q := ⟨_, rfl⟩
  obtain ⟨BO, hBO⟩ : ∃ q, (wordV word 1 f).1 = q := ⟨_, rfl⟩
  rw [hEV] at W1 hEl hUE hodd ⊢
  rw [hBO] at W2 hBl hUB hodd
  have hH : 2 ^ k ≤ 1024 := Nat.le_trans (Nat.pow_le_pow_right (by decide) hk) (by decide)
  obtain ⟨H, hHe⟩ : ∃ H, 2 ^ k = H := ⟨_, rfl⟩
  rw [hHe] at hEl hBl hH hOL ⊢
  rw [hEl] at W1 ⊢
  rw [hBl] at W2
  generalize oddV word f = od at *
  rw [hOL]
  have HB : Hid (Below w.heap.size w w) := Lib.hid (Below.refl _ _)
  have HOD := Lib.hid hodd; have HUE := Lib.hid hUE; have HUB := Lib.hid hUB; have HEL := Lib.hid hEl; have HBL := Lib.hid hBl
  have hmk := fun W => run_make_pairs (P := Tryz.prog) 24 31 (.agg #[.int .u64 0, .int .u64 0]) Tryz.underlying24 infoQ5 rfl H (by omega) W
  clear hw hwu hn hok hEl hBl hUE hUB hodd hol hEV hBO hHe hOL
  go_enter Tryz.func43, Tryz.ntmps43
  go_upto_region 3 with (go_at_call 53; (first
    | ((with_reducible refine (W1 _ HB.out).mono ?_); rintro e w1 ⟨hb, ea, ec, rfl, hE⟩; have HE := Lib.hid hE; replace HB := Lib.hid (bthen HB.out hb); clear hb hE)
    | ((with_reducible refine (W2 _ HB.out).mono ?_); rintro e w2 ⟨hb, ba, bc, rfl, hBr⟩; have HBR := Lib.hid hBr; replace HE := Lib.hid (HE.out.keep hb); replace HB := Lib.hid (bthen HB.out hb); clear hb hBr)))
  clear W1 W2
  go_upto_region 5 with fail
  obtain ⟨g, hg⟩ : ∃ g, w2.heap.size = g := ⟨_, rfl⟩
  simp only [hg]
  have HW2 := Lib.hid HB.out.size
  go_loopw [11] (SplitUp w w2 g H od) (fun i _ => H - (intOf i).toNat)
  case atStart =>
    refine ⟨0, Nat.zero_le _, rfl, HB.out.alloc HB.out.size _, (Below.refl _ _).alloc (Nat.le_refl _) _, ?_⟩
    rw [← hg]
    exact (Arr.newq w2 H 31).same (pc_same (y := prt od 0) (fun i _ => by unfold prt; rw [if_neg (by omega)]))
  case round =>
    clear HB hmk
    obtain ⟨j, hj, rfl, hB, hB2, hA⟩ := hrel
    by_cases hlt : j < H
    · have hltI : (j : Int) < (H : Int) := Int.ofNat_lt.2 hlt
      have hj0 : (0 : Int) ≤ (j : Int) := Int.natCast_nonneg j
      obtain ⟨eb, eo, rfl, e0c, e1c⟩ := (HE.out.keep hB2).2.2 j hlt
      obtain ⟨bb, bo, rfl, b0c, b1c⟩ := (HBR.out.keep hB2).2.2 j hlt
      have re := qAt_rep HUE.out (show j < EV.length by rw [HEL.out]; exact hlt)
      have rb := qAt_rep HUB.out (show j < BO.length by rw [HBL.out]; exact hlt)
      obtain ⟨e0, e1, he⟩ : ∃ x y, EV.getD j (0, 0) = (x, y) := ⟨_, _, rfl⟩
      obtain ⟨b0, b1, hb⟩ : ∃ x y, BO.getD j (0, 0) = (x, y) := ⟨_, _, rfl⟩
      rw [he] at e0c e1c re
      rw [hb] at b0c b1c rb
      obtain ⟨m, hmm⟩ : ∃ m, od j = m := ⟨_, rfl⟩
      have s1 := rsub_q b0 b1 e0 e1 _ _ m rb re ((HOD.out j).trans hmm)
      have HST := Lib.hid (prt_step (f := od) (m := j) hmm)
      have HB := Lib.hid hB; have HB2 := Lib.hid hB2; have HA := Lib.hid hA; have HJ := Lib.hid hlt
      have HG := Lib.hid hg
      clear hB hB2 hA hmm hlt hj re rb he hb hg
      go_upto_region 7 with fail
      refine wp_loose [(35, []), (36, []), (37, []), (38, []), (39, [37, 38]), (40, [39]), (41, []), (42, []), (43, [41, 42]), (44, [43]), (45, [40, 44]), (46, [35, 36])]
        (SplR g H bb bo bc eb eo ec j b0 b1 e0 e1 m) (fun d => false) (by kernel_rfl) (by kernel_rfl) (fun _ _ _ _ h hb => h.keep hb) ?_ ?_
      · refine opsrun_cons ?_ (opsrun_cons ?_ (opsrun_cons ?_ (opsrun_cons ?_ (opsrun_cons ?_ (opsrun_cons ?_ (opsrun_cons ?_ (opsrun_cons ?_ (opsrun_cons ?_ (opsrun_cons ?_ (opsrun_cons ?_ (opsrun_cons ?_ opsrun_nil)))))))))))
        all_goals
          refine OpRuns.any ?_
          intro Q0 σ W' K hb hn hK
          simp only [fill, List.map, Act.put, List.setIfInBounds_toArray, List.set_cons_zero, List.set_cons_succ] at hK ⊢
        · clear hn
          go_simp
          exact hK _ _ rfl (Below.refl _ _) (fun h => absurd h (by decide))
        · clear hn
          go_simp
          exact hK _ _ rfl (Below.refl _ _) (fun h => absurd h (by decide))
        · clear hn
          go_simp
          exact hK _ _ rfl (Below.refl _ _) (fun h => absurd h (by decide))
        · clear hn
          go_simp
          exact hK _ _ rfl (Below.refl _ _) (fun h => absurd h (by decide))
        · have h37 : σ 37 = _ := hn 37 (by decide)
          have h38 : σ 38 = _ := hn 38 (by decide)
          clear hn
          simp only [h37, h38] at hK
          go_simp
          exact hK _ _ rfl (Below.refl _ _) (fun h => absurd h (by decide))
        · have h39 : σ 39 = _ := hn 39 (by decide)
          clear hn
          simp only [h39] at hK
          have b0c' := bkeep hb b0c
          have b1c' := bkeep hb b1c
          clear b0c b1c
          go_simp
          exact hK _ _ rfl (Below.refl _ _) (fun h => absurd h (by decide))
        · clear hn
          go_simp
          exact hK _ _ rfl (Below.refl _ _) (fun h => absurd h (by decide))
        · clear hn
          go_simp
          exact hK _ _ rfl (Below.refl _ _) (fun h => absurd h (by decide))
        · have h41 : σ 41 = _ := hn 41 (by decide)
          have h42 : σ 42 = _ := hn 42 (by decide)
          clear hn
          simp only [h41, h42] at hK
          go_simp
          exact hK _ _ rfl (Below.refl _ _) (fun h => absurd h (by decide))
        · have h43 : σ 43 = _ := hn 43 (by decide)
          clear hn
          simp only [h43] at hK
          have e0c' := bkeep hb e0c
          have e1c' := bkeep hb e1c
          clear e0c e1c
          go_simp
          exact hK _ _ rfl (Below.refl _ _) (fun h => absurd h (by decide))
        · have h40 : σ 40 = _ := hn 40 (by decide)
          have h44 : σ 44 = _ := hn 44 (by decide)
          clear hn
          simp only [h40, h44] at hK
          go_simp
          go_at_call 44
          refine (s1 _).mono ?_
          rintro e w1 ⟨rfl, hb1⟩
          exact hK _ _ rfl hb1 (fun h => absurd h (by decide))
        · have h35 : σ 35 = _ := hn 35 (by decide)
          have h36 : σ 36 = _ := hn 36 (by decide)
          clear hn
          simp only [h35, h36] at hK
          go_simp
          exact hK _ _ rfl (Below.refl _ _) (fun h => absurd h (by decide))
      · intro σ W' hb hR' hF
        have h45 : σ 45 = _ := hR' 45 (by decide)
        have h46 : σ 46 = _ := hR' 46 (by decide)
        have HBE := Lib.hid (bthen HB.out hb); have HBF := Lib.hid (bthen HB2.out hb)
        have hA := HA.out.keep hb
        obtain ⟨c0, c1, f0, f1⟩ := hA.cells j HJ.out
        have HA2 := Lib.hid ((hA.setq j (enc m.a) (enc m.b) HJ.out).same (pc_same fun i _ => HST.out i))
        have hw0 : w.heap.size ≤ g := by rw [← HG.out]; exact HW2.out
        clear hR' hF hb hA b0c b1c e0c e1c s1
        simp only [fill, List.map, Act.put, List.setIfInBounds_toArray, List.set_cons_zero, List.set_cons_succ, List.length_cons, List.length_nil, List.drop_succ_cons, List.drop_zero, Nat.reduceAdd, h45, h46]
        clear h45 h46
        go_wp2_with fail
        go_roundw
        case rel => exact ⟨j + 1, HJ.out, by go_num, (HBE.out.setCell hw0 _).setCell hw0 _, (HBF.out.setCell (Nat.le_of_eq HG.out) _).setCell (Nat.le_of_eq HG.out) _, HA2.out⟩
        case measure =>
          have := HJ.out
          simp [intOf]
          omega
    · obtain rfl : j = H := by omega
      have hlt0 : ¬ (j : Int) < (j : Int) := by omega
      have HO := Lib.hid ((hA.same (pc_same (prt_all _ _))).isP (Nat.le_refl _) (by unfold maxLen; omega))
      have HE2 := Lib.hid (HE.out.keep hB2)
      have HBE := Lib.hid hB
      clear hA hB hB2 hlt hj
      go_wp2_with fail
      exact bodyPost_ret (v := .tuple #[.slice ea j ec, .slice (some ⟨g, 0, none⟩) j j]) (by simp [results, Tryz.results43, go_sem]) rfl ⟨HBE.out, ea, ec, some ⟨g, 0, none⟩, ⟨j, rfl⟩, HE2.out, QRow.at HO.out⟩
end Go.Proofs.YthfkfgjhgicfeaaGreatDoor
namespace Go.Proofs.YthfkfgjhgicfeaaGreatDoor
open Go Go.RowKit
set_option linter.unusedVariables false

def quadL (q : Quad) : List Value := [.int .u64 q.1.1, .int .u64 q.1.2, .int .u64 q.2.1, .int .u64 q.2.2]
def flatD (qs : List Quad) : List Value := qs.flatMap quadL
theorem flatD_app (qs rs : List Quad) : flatD (qs ++ rs) = flatD qs ++ flatD rs := List.flatMap_append
theorem flatD_one (q : Quad) : flatD [q] = quadL q := by simp [flatD]
theorem flatD_at : ∀ (qs : List Quad) (i : Nat), i < qs.length → (flatD qs)[i * 4]? = some (.int .u64 (qs.getD i zeroQ).1.1) ∧ (flatD qs)[i * 4 + 1]? = some (.int .u64 (qs.getD i zeroQ).1.2) ∧ (flatD qs)[i * 4 + 2]? = some (.int .u64 (qs.getD i zeroQ).2.1) ∧ (flatD qs)[i * 4 + 3]? = some (.int .u64 (qs.getD i zeroQ).2.2)
  | q :: qs, 0, _ => ⟨rfl, rfl, rfl, rfl⟩
  | q :: qs, i + 1, h => by
    have ih := flatD_at qs i (by simpa using h)
    have e : ∀ j, (flatD (q :: qs))[j + 4]? = (flatD qs)[j]? := fun j => rfl
    have e2 : (q :: qs).getD (i + 1) zeroQ = qs.getD i zeroQ := rfl
    rw [e2]
    obtain ⟨h0, h1, h2, h3⟩ := ih
    refine ⟨?_, ?_, ?_, ?_⟩
    · rw [show (i + 1) * 4 = i * 4 + 4 by omega, e]; exact h0
    · rw [show (i + 1) * 4 + 1 = i * 4 + 1 + 4 by omega, e]; exact h1
    · rw [show (i + 1) * 4 + 2 = i * 4 + 2 + 4 by omega, e]; exact h2
    · rw [show (i + 1) * 4 + 3 = i * 4 + 3 + 4 by omega, e]; exact h3
theorem infoD : (Tryz.prog.info? 32).map (fun i => (i.zero, i.size, i.bytes)) = some (some (.agg #[.int .u64 0, .int .u64 0, .int .u64 0, .int .u64 0]), 4, 32) := by kernel_rfl
theorem own_quads {w : World} {B : Nat} {v : Value} {qs : List Quad} (h : w.ownsRow B 32 4 v qs.length (flatD qs)) : ∃ a c, v = .slice a qs.length c ∧ QuadsA w a qs.length qs := by
  obtain ⟨a, c, rfl⟩ := own_form h
  refine ⟨a, c, rfl, rfl, ?_, ?_⟩
  · rcases h.2 with ⟨_, h0⟩ | ⟨g, cap, cur, hv, hb, hg, hn, hcap, hsz, ht⟩
    · rw [h0]; unfold maxLen; omega
    · omega
  · intro k hk
    rcases h.2 with ⟨_, h0⟩ | ⟨g, cap, cur, hv, hb, hg, hn, hcap, hsz, ht⟩
    · omega
    · cases hv
      obtain ⟨f0, f1, f2, f3⟩ := flatD_at qs k hk
      refine ⟨g, 0, rfl, ?_, ?_, ?_, ?_⟩
      · rw [Nat.zero_add, h.cellAt (k * 4) (by omega)]; exact f0
      · rw [Nat.zero_add, h.cellAt (k * 4 + 1) (by omega)]; exact f1
      · rw [Nat.zero_add, h.cellAt (k * 4 + 2) (by omega)]; exact f2
      · rw [Nat.zero_add, h.cellAt (k * 4 + 3) (by omega)]; exact f3
def MadeD (W w : World) (v : Value) (qs : List Quad) : Prop := w.ownsRow W.heap.size 32 4 v qs.length (flatD qs) ∧ Below W.heap.size W w
section
variable {W w w' : World} {v v' : Value} {qs : List Quad}
theorem MadeD.start (W : World) : MadeD W W (.slice none 0 0) [] := ⟨World.ownsRow_nil _ _ _ _, Below.refl _ _⟩
theorem MadeD.keep (h : MadeD W w v qs) (hb : Below w.heap.size w w') : MadeD W w' v qs := ⟨own_keep h.1 hb, bthen h.2 hb⟩
theorem MadeD.step {q : Quad} (h : MadeD W w v qs) (hown : w'.ownsRow W.heap.size 32 4 v' (qs.length + 1) (flatD qs ++ quadL q)) (hg : w.grownBy w' v.ownBlock) : MadeD W w' v' (qs ++ [q]) :=
  ⟨by rw [List.length_append, flatD_app, flatD_one]; exact hown, h.2.grown hg h.2.size (own_ge h.1)⟩
theorem MadeD.told (h : MadeD W w v qs) : ∃ a c, v = .slice a qs.length c ∧ QuadsA w a qs.length qs := own_quads h.1
end
/-- The source of an append of one pair of pairs. -/
theorem quad_src {W : World} {g : Nat} {x y z u : Value} (h0 : W.cell? ⟨g, 0, none⟩ = some x) (h1 : W.cell? ⟨g, 1, none⟩ = some y) (h2 : W.cell? ⟨g, 2, none⟩ = some z) (h3 : W.cell? ⟨g, 3, none⟩ = some u) : ∀ j t, [x, y, z, u][j]? = some t → W.cell? ((⟨g, 0, none⟩ : Addr).add j) = some t := by
  intro j t ht
  match j, ht with
  | 0, ht => simp at ht; subst ht; exact h0
  | 1, ht => simp at ht; subst ht; exact h1
  | 2, ht => simp at ht; subst ht; exact h2
  | 3, ht => simp at ht; subst ht; exact h3
  | j + 4, ht => simp at ht
/-- Four cells, unfrozen. -/
def Quo (W : World) (g : Nat) (v0 v1 v2 v3 : Value) : Prop :=
  (W.cell? ⟨g, 0, none⟩ = some v0 ∧ W.cell? ⟨g, 1, none⟩ = some v1 ∧ W.cell? ⟨g, 2, none⟩ = some v2 ∧ W.cell? ⟨g, 3, none⟩ = some v3) ∧
  (W.frozen? ⟨g, 0, none⟩ = false ∧ W.frozen? ⟨g, 1, none⟩ = false ∧ W.frozen? ⟨g, 2, none⟩ = false ∧ W.frozen? ⟨g, 3, none⟩ = false)
section
variable {W W' : World} {g : Nat} {v0 v1 v2 v3 : Value}
theorem Quo.lt (h : Quo W g v0 v1 v2 v3) : g < W.heap.size := World.block_lt_of_cell? W _ h.1.1
theorem Quo.keep (h : Quo W g v0 v1 v2 v3) (hb : Below W.heap.size W W') : Quo W' g v0 v1 v2 v3 := by
  obtain ⟨⟨c0, c1, c2, c3⟩, f0, f1, f2, f3⟩ := h
  exact ⟨⟨bkeep hb c0, bkeep hb c1, bkeep hb c2, bkeep hb c3⟩, bfree hb c0 f0, bfree hb c1 f1, bfree hb c2 f2, bfree hb c3 f3⟩
theorem Quo.grown {row : Option Nat} (h : Quo W g v0 v1 v2 v3) (hg : W.grownBy W' row) (hne : ∀ k, row = some k → k ≠ g) : Quo W' g v0 v1 v2 v3 := by
  have hb := hg.block g h.lt (fun e => hne g e.symm rfl)
  obtain ⟨⟨c0, c1, c2, c3⟩, f0, f1, f2, f3⟩ := h
  exact ⟨⟨(World.cell?_of_block (a := ⟨g, 0, none⟩) hb).trans c0, (World.cell?_of_block (a := ⟨g, 1, none⟩) hb).trans c1, (World.cell?_of_block (a := ⟨g, 2, none⟩) hb).trans c2, (World.cell?_of_block (a := ⟨g, 3, none⟩) hb).trans c3⟩,
    (World.frozen?_of_block (a := ⟨g, 0, none⟩) hb).trans f0, (World.frozen?_of_block (a := ⟨g, 1, none⟩) hb).trans f1, (World.frozen?_of_block (a := ⟨g, 2, none⟩) hb).trans f2, (World.frozen?_of_block (a := ⟨g, 3, none⟩) hb).trans f3⟩
theorem Quo.put (h : Quo W g v0 v1 v2 v3) (x0 x1 x2 x3 : Value) : Quo ((((W.setCell ⟨g, 0, none⟩ x0).setCell ⟨g, 1, none⟩ x1).setCell ⟨g, 2, none⟩ x2).setCell ⟨g, 3, none⟩ x3) g x0 x1 x2 x3 := by
  obtain ⟨⟨c0, c1, c2, c3⟩, f0, f1, f2, f3⟩ := h
  simp [Quo, go_sem, c0, c1, c2, c3, f0, f1, f2, f3]
theorem Quo.far (h : Quo W g v0 v1 v2 v3) {g' : Nat} (hne : g' ≠ g) (o : Nat) (x : Value) : Quo (W.setCell ⟨g', o, none⟩ x) g v0 v1 v2 v3 :=
  h.grown (grown_set W g' o x) fun k hk => by cases hk; exact hne
theorem Quo.new (W : World) (t : TypeId) : Quo (W.alloc (.cells #[v0, v1, v2, v3] t)) W.heap.size v0 v1 v2 v3 := by simp [Quo, go_sem]
end
end Go.Proofs.YthfkfgjhgicfeaaGreatDoor
namespace Go.Proofs.YthfkfgjhgicfeaaGreatDoor
open Go Go.RowKit Go.Sort Go.BigFrame
set_option linter.unusedVariables false

structure SeenN (N H A a0 : Nat) : Prop where
  q : (N : Int).tdiv 2 = (H : Int)
  r : (a0 : Int).tmod (H : Int) = (A : Int)
  r2 : (a0 : Int) % (H : Int) = (A : Int)
  w : wrap64 (H : Int) = (H : Int)
  s : IntKind.i64.wrap ((A : Int) + (H : Int)) = ((A + H : Nat) : Int)
  t : wrap64 ((A : Int) + (H : Int)) = ((A + H : Nat) : Int)
  h0 : ¬ (H : Int) = 0
  a : (A : Int) < (N : Int)
  a2 : ((A + H : Nat) : Int) < (N : Int)
  a3 : (0 : Int) ≤ (A : Int)
  a4 : (0 : Int) ≤ ((A + H : Nat) : Int)
  n1 : A < N
  n2 : A + H < N
theorem own_quads' {w : World} {B n : Nat} {v : Value} {qs : List Quad} (h : w.ownsRow B 32 4 v n (flatD qs)) (hn : qs.length = n) : ∃ a c, v = .slice a n c ∧ QuadsA w a n qs := by
  subst hn
  exact own_quads h
abbrev zI : Value := .int .u64 0
end Go.Proofs.YthfkfgjhgicfeaaGreatDoor
namespace Go.Proofs.YthfkfgjhgicfeaaGreatDoor
open Go Go.RowKit Go.Sort Go.BigFrame
set_option linter.unusedVariables false

def halfA (rows : List QL) (k : Nat) : Nat := (rows.getD k []).length / 2
def atK (rows : List QL) (pl : Nat) : Nat → Nat
  | 0 => pl
  | k + 1 => atK rows pl k % halfA rows k
def preL (rows : List QL) (pl k : Nat) : List Quad := (List.range k).map fun j => twoAt (rows.getD j []) (atK rows pl (j + 1)) (halfA rows j)
def outL (rows : List QL) (pl k : Nat) : List Quad := (List.range k).map fun j => twoAt (rows.getD (j + 1) []) (atK rows pl (j + 2)) (halfA rows (j + 1))
theorem outL_len (rows : List QL) (pl k : Nat) : (outL rows pl k).length = k := by simp [outL]
theorem outL_snoc (rows : List QL) (pl k : Nat) : outL rows pl (k + 1) = outL rows pl k ++ [twoAt (rows.getD (k + 1) []) (atK rows pl (k + 2)) (halfA rows (k + 1))] := by simp [outL, List.range_succ]
theorem preL_drop (rows : List QL) (pl : Nat) : ∀ k, (preL rows pl k).drop 1 = outL rows pl (k - 1)
  | 0 => rfl
  | k + 1 => by
    unfold preL outL
    rw [List.range_succ_eq_map, List.map_cons, List.map_map]
    rfl
def fstA (rows : List QL) (pl k : Nat) : Quad := if k = 0 then zeroQ else twoAt (rows.getD 0 []) (atK rows pl 1) (halfA rows 0)
theorem preL_first (rows : List QL) (pl : Nat) : ∀ k, (preL rows pl k).getD 0 zeroQ = fstA rows pl k
  | 0 => rfl
  | k + 1 => by
    unfold preL fstA
    rw [if_neg (by omega)]
    simp [List.getD]
theorem opn_pre (rows : List QL) (pl : Nat) : ∀ k, k ≤ rows.length → (∀ i, i < k → halfA rows i ≠ 0) → opnL rows pl = preL rows pl k ++ opnL (rows.drop k) (atK rows pl k)
  | 0, _, _ => rfl
  | k + 1, hk, h => by
    rw [opn_pre rows pl k (by omega) fun i hi => h i (by omega)]
    have e : rows.drop k = rows[k] :: rows.drop (k + 1) := List.drop_eq_getElem_cons (by omega)
    have e2 : rows.getD k [] = rows[k] := by simp [List.getD, show k < rows.length by omega]
    have h0 := h k (by omega)
    have hh : rows[k].length / 2 = halfA rows k := by unfold halfA; rw [e2]
    rw [e, opnL, hh, if_neg h0, show preL rows pl (k + 1) = preL rows pl k ++ [twoAt (rows.getD k []) (atK rows pl (k + 1)) (halfA rows k)] by simp [preL, List.range_succ], e2, List.append_assoc]
    rfl
/-- Where it ends. -/
theorem opn_end {rows : List QL} {pl k : Nat} (hk : k ≤ rows.length) (h : ∀ i, i < k → halfA rows i ≠ 0) (he : k = rows.length ∨ halfA rows k = 0) : opnL rows pl = preL rows pl k := by
  rw [opn_pre rows pl k hk h]
  by_cases c : k = rows.length
  · rw [c, List.drop_length]; simp [opnL]
  · have h0 := he.resolve_left c
    have e : rows.drop k = rows[k] :: rows.drop (k + 1) := List.drop_eq_getElem_cons (by omega)
    have e2 : rows.getD k [] = rows[k] := by simp [List.getD, show k < rows.length by omega]
    have hh : rows[k].length / 2 = halfA rows k := by unfold halfA; rw [e2]
    rw [e, opnL, hh, if_pos h0, List.append_nil]
theorem seen_all {N H A a0 : Nat} (hN : N ≤ 4294967296) (hH : N / 2 = H) (h0 : H ≠ 0) (hA : a0 % H = A) : SeenN N H A a0 := by
  have hp : 0 < H := by omega
  have hlt : A < H := by rw [← hA]; exact Nat.mod_lt _ hp
  refine ⟨?_, ?_, ?_, ?_, ?_, ?_, by omega, by omega, by omega, by omega, by omega, by omega, by omega⟩
  · rw [Int.tdiv_eq_ediv_of_nonneg (by omega)]; omega
  · rw [Int.tmod_eq_emod_of_nonneg (by omega), ← Int.natCast_emod, hA]
  · rw [← Int.natCast_emod, hA]
  · exact IntWalk.wrap64_in _ (by omega)
  · rw [IntWalk.i64_in _ (by omega)]; omega
  · rw [IntWalk.wrap64_in _ (by omega)]; omega
abbrev QuoQ (W : World) (g : Nat) (q : Quad) : Prop := Quo W g (.int .u64 q.1.1) (.int .u64 q.1.2) (.int .u64 q.2.1) (.int .u64 q.2.2)
def SeenUp (w : World) (g4 g6 B : Nat) (rows : List QL) (pl n : Nat) (v at' i : Value) (W : World) : Prop :=
  ∃ j : Nat, j ≤ n ∧ i = .int .i64 j ∧ at' = .int .i64 ((atK rows pl j : Nat) : Int) ∧ Below w.heap.size w W ∧ Quo W g4 zI zI zI zI ∧ QuoQ W g6 (fstA rows pl j) ∧
    W.ownsRow B 32 4 v (j - 1) (flatD (outL rows pl (j - 1))) ∧ B ≤ W.heap.size ∧ ∀ i, i < j → halfA rows i ≠ 0
theorem atK_le (rows : List QL) (pl : Nat) : ∀ k, atK rows pl k ≤ pl
  | 0 => Nat.le_refl _
  | k + 1 => Nat.le_trans (Nat.mod_le _ _) (atK_le rows pl k)
set_option maxRecDepth 100000 in
set_option maxHeartbeats 8000000 in
theorem rseen_at (a : Option Addr) (n cap : Nat) (rows : List QL) (pl : Nat) (w : World) (ht : TabQ w a n rows) (hn : n ≤ 1000) (hl : ∀ r ∈ rows, r.length ≤ 4294967296) (hpl : (pl : Int) ≤ 9223372036854775807) :
    Calls Tryz.prog 8 #[.slice a n cap, .int .i64 (pl : Int)] w (SeenPost w (opnL rows pl)) := by
  obtain ⟨i0, hi, hz0, hz1, hz2⟩ := info_parts infoD
  obtain rfl := ht.1
  have HT := Lib.hid ht
  have HL : Hid (∀ j, j < rows.length → (rows.getD j []).length ≤ 4294967296) := Lib.hid fun j hj => hl _ (by rw [show rows.getD j [] = rows[j] by simp [List.getD, hj]]; exact List.getElem_mem hj)
  have HPL := Lib.hid hpl
  obtain ⟨n, hne⟩ : ∃ n, rows.length = n := ⟨_, rfl⟩
  have HN := Lib.hid hne
  rw [hne] at hn HT HL ⊢
  clear ht hl hne hpl
  go_enter Tryz.func8, Tryz.ntmps8
  go_upto_region 2 with fail
  obtain ⟨g4, hg4⟩ : ∃ g, w.heap.size = g := ⟨_, rfl⟩
  refine wp_gen (fun W => Below w.heap.size w W ∧ Quo W g4 zI zI zI zI ∧ Quo W (g4 + 1) zI zI zI zI ∧ g4 + 1 + 1 ≤ W.heap.size) ⟨((Below.refl _ _).alloc (Nat.le_refl _) _).alloc (by simp) _, by subst hg4; simp [Quo, go_sem], by subst hg4; simp [Quo, go_sem], by subst hg4; simp⟩ ?_
  obtain ⟨g6, hg6⟩ : ∃ g, g4 + 1 = g := ⟨_, rfl⟩
  obtain ⟨B, hBB⟩ : ∃ B, g6 + 1 = B := ⟨_, rfl⟩
  rw [hg6, hBB]
  rintro w6 ⟨hB, hq4, hq6, hsz⟩
  simp only [hg4, hg6]
  have HB := Lib.hid hB; have HQ4 := Lib.hid hq4; have HQ6 := Lib.hid hq6; have HSZ := Lib.hid hsz
  have HGE := Lib.hid (show w.heap.size ≤ g4 ∧ w.heap.size ≤ g6 ∧ g4 < B ∧ g6 < B ∧ w.heap.size ≤ B by omega)
  have h46 : g4 ≠ g6 := by omega
  have h64 : g6 ≠ g4 := by omega
  clear hB hq4 hq6 hsz hg4 hg6 hBB
  go_upto_region 5 with fail
  go_loopw [7, 8, 9] (SeenUp w g4 g6 B rows pl n) (fun _ _ i _ => n - (intOf i).toNat)
  case atStart => exact ⟨0, Nat.zero_le _, rfl, rfl, HB.out, HQ4.out, HQ6.out, World.ownsRow_nil _ _ _ _, HSZ.out, fun i hi => absurd hi (Nat.not_lt_zero i)⟩
  case round =>
    clear HB HQ4 HQ6 HSZ
    obtain ⟨j, hj, rfl, rfl, hB, hq4, hq6, hown, hsz, hall⟩ := hrel
    obtain ⟨aO, cO, rfl⟩ := own_form hown
    have LEAVE : Hid (n = j ∨ halfA rows j = 0 → ∀ W, Below w.heap.size w W → Quo W g4 (.int .u64 (fstA rows pl j).1.1) (.int .u64 (fstA rows pl j).1.2) (.int .u64 (fstA rows pl j).2.1) (.int .u64 (fstA rows pl j).2.2) → W.ownsRow B 32 4 (.slice aO (j - 1 : Nat) cO) (j - 1) (flatD (outL rows pl (j - 1))) → SeenPost w (opnL rows pl) (.returned (.tuple #[quadV (fstA rows pl j), .slice aO (j - 1 : Nat) cO])) W) := Lib.hid (by
      intro he W hB hq ho
      have e := opn_end (rows := rows) (pl := pl) (k := j) (by rw [HN.out]; exact hj) hall (he.imp (fun h => by rw [HN.out, h]) id)
      rw [e]
      obtain ⟨a5, c5, e5, h5⟩ := own_quads' ho (outL_len rows pl (j - 1))
      cases e5
      refine ⟨hB, aO, cO, ?_, ?_⟩
      · rw [preL_first, preL_drop, outL_len]
      · rw [preL_drop, outL_len]; exact h5)
    by_cases hlt : j < n
    · have hltI : (j : Int) < (n : Int) := by omega
      have hj0 : (0 : Int) ≤ (j : Int) := by omega
      obtain ⟨b, off, rfl, ak, ck, hc, hr⟩ := (HT.out.keep hB).2.2 j hlt
      obtain ⟨row, hrow⟩ : ∃ r, rows.getD j [] = r := ⟨_, rfl⟩
      have hln := HL.out j hlt
      rw [hrow] at hc hr hln
      obtain ⟨N, hN⟩ : ∃ N, row.length = N := ⟨_, rfl⟩
      have hHH : halfA rows j = N / 2 := by unfold halfA; rw [hrow, hN]
      obtain ⟨H, hH⟩ : ∃ H, N / 2 = H := ⟨_, rfl⟩
      rw [hH] at hHH
      have hq : (N : Int).tdiv 2 = (H : Int) := by rw [Int.tdiv_eq_ediv_of_nonneg (by omega)]; omega
      have hqw : wrap64 (H : Int) = (H : Int) := IntWalk.wrap64_in _ (by omega)
      rw [hN] at hc hr
      by_cases hz : H = 0
      · subst hz
        have HX : Hid (n = j ∨ halfA rows j = 0) := Lib.hid (Or.inr hHH)
        obtain ⟨y0, y1, y2, y3⟩ := hq6.1
        have HB := Lib.hid hB; have HO := Lib.hid hown; have HQ4 := Lib.hid hq4
        obtain ⟨⟨v0, v1, v2, v3⟩, v4, v5, v6, v7⟩ := hq4
        clear hB hown hq6 hsz hall hr hN hHH hH hrow hln
        go_wp2_with fail
        have hge := HGE.out
        have hown4 := own_set (o := 3) (x := .int .u64 (fstA rows pl j).2.2) (own_set (o := 2) (x := .int .u64 (fstA rows pl j).2.1) (own_set (o := 1) (x := .int .u64 (fstA rows pl j).1.2) (own_set (o := 0) (x := .int .u64 (fstA rows pl j).1.1) HO.out hge.2.2.1) hge.2.2.1) hge.2.2.1) hge.2.2.1
        exact bodyPost_ret (v := .tuple #[quadV (fstA rows pl j), .slice aO (j - 1 : Nat) cO]) (by simp [results, Tryz.results8, go_sem, v0, v1, v2, v3]) rfl (LEAVE.out HX.out _ ((((HB.out.setCell hge.1 _).setCell hge.1 _).setCell hge.1 _).setCell hge.1 _) (HQ4.out.put _ _ _ _) hown4)
      have hzI : ¬ (H : Int) = 0 := fun h => hz (Int.ofNat.inj h)
      obtain ⟨A, hA⟩ : ∃ A, atK rows pl j % H = A := ⟨_, rfl⟩
      have hale := atK_le rows pl j
      have hkA : atK rows pl (j + 1) = A := by rw [atK, hHH]; exact hA
      obtain ⟨a0, ha0⟩ : ∃ A, atK rows pl j = A := ⟨_, rfl⟩
      rw [ha0] at hA hale
      have haI : ¬ (a0 : Int) < 0 := Int.not_lt.2 (Int.natCast_nonneg a0)
      have sn := seen_all (N := N) (a0 := a0) (by rw [← hN]; exact hln) hH hz hA
      obtain ⟨b1, o1, e1, y0, y1⟩ := hr.2.2 A sn.n1
      obtain ⟨b2, o2, e2, z0, z1⟩ := hr.2.2 (A + H) sn.n2
      rw [e1] at e2
      cases e2
      subst e1
      have HTW : Hid (twoAt row A H = ((row.getD A (0, 0)), (row.getD (A + H) (0, 0)))) := Lib.hid rfl
      have HNX := Lib.hid hkA
      have HROW := Lib.hid (And.intro hrow hHH)
      have HALL : Hid (∀ i, i < j + 1 → halfA rows i ≠ 0) := Lib.hid fun i hi => by
        by_cases c : i = j
        · subst c; rw [hHH]; exact hz
        · exact hall i (by omega)
      rw [ha0]
      generalize (row.getD A (0, 0)) = ya at *
      generalize (row.getD (A + H) (0, 0)) = za at *
      obtain ⟨ya0, ya1⟩ := ya
      obtain ⟨za0, za1⟩ := za
      dsimp only at y0 y1 z0 z1
      obtain ⟨s1, s2, s2b, s2c, s3, s4, s5, s6, s7, s8, s9, _, _⟩ := sn
      have hb1 : b1 < wr.heap.size := World.block_lt_of_cell? _ _ y0
      have hbb : b < wr.heap.size := World.block_lt_of_cell? _ _ hc
      have n1 : ¬ b1 = wr.heap.size := by omega
      have n2 : ¬ wr.heap.size = b1 := by omega
      have n3 : ¬ b = wr.heap.size := by omega
      have n4 : ¬ wr.heap.size = b := by omega
      have hsb : w.heap.size ≤ wr.heap.size := hB.size
      obtain ⟨AH, hAH⟩ : ∃ x, A + H = x := ⟨_, rfl⟩
      rw [hAH] at s3 s4 s7 s9 z0 z1
      have HB := Lib.hid hB; have HQ4 := Lib.hid hq4; have HQ6 := Lib.hid hq6; have HO := Lib.hid hown; have HSZ := Lib.hid hsz; have HJ := Lib.hid hlt
      obtain ⟨F6, hF6⟩ : ∃ q, fstA rows pl j = q := ⟨_, rfl⟩
      rw [hF6] at HQ6
      have HF6 := Lib.hid hF6
      clear hB hq4 hq6 hown hsz hr hN hH hA ha0 hrow hln hAH hHH hkA hale hall LEAVE hz hF6 hj hlt s5
      go_upto_region 10 with fail
      have hl4 := HQ4.out.lt
      have hl6 := HQ6.out.lt
      have h116 : wr.heap.size ≠ g6 := by omega
      have h114 : wr.heap.size ≠ g4 := by omega
      have hszw := HSZ.out
      go_region
      go_upto_region 11 with fail
      obtain ⟨g11, hg11⟩ : ∃ g, wr.heap.size = g := ⟨_, rfl⟩
      refine wp_gen (fun W => Below w.heap.size w W ∧ Quo W g4 zI zI zI zI ∧ QuoQ W g6 F6 ∧ W.ownsRow B 32 4 (.slice aO (j - 1 : Nat) cO) (j - 1) (flatD (outL rows pl (j - 1))) ∧ B ≤ W.heap.size ∧ Quo W g11 (.int .u64 ya0) (.int .u64 ya1) (.int .u64 za0) (.int .u64 za1)) ⟨(HB.out.alloc hsb _).drew, HQ4.out.keep (((Below.refl _ _).alloc (Nat.le_refl _) _).drew), HQ6.out.keep (((Below.refl _ _).alloc (Nat.le_refl _) _).drew), own_keep HO.out (((Below.refl _ _).alloc (Nat.le_refl _) _).drew), by simp; omega, by subst hg11; simp [Quo, go_sem]⟩ ?_
      clear HB HQ4 HQ6 HO HSZ hl4 hl6 hszw hsb s1 s2 s2b s2c s3 s4 s6 s7 s8 s9 n1 n2 n3 n4 hb1 hbb hc y0 y1 z0 z1
      rintro W1 ⟨hB, hq4, hq6, hown, hsz, hq11⟩
      rw [hg11] at h116 h114
      simp only [hg11]
      clear hg11
      have HB := Lib.hid hB; have HQ4 := Lib.hid hq4; have HQ6 := Lib.hid hq6; have HO := Lib.hid hown; have HSZ := Lib.hid hsz; have HQ11 := Lib.hid hq11
      obtain ⟨⟨v0, v1, v2, v3⟩, _, _, _, _⟩ := hq11
      by_cases hj00 : j = 0
      · subst hj00
        obtain ⟨⟨y0, y1, y2, y3⟩, y4, y5, y6, y7⟩ := hq6
        clear hB hq4 hown hsz
        go_wp2_with fail
        go_roundw
        case rel =>
          have hge := HGE.out
          have hf1 : fstA rows pl 1 = ((ya0, ya1), (za0, za1)) := by
            obtain ⟨e1, e2⟩ := HROW.out
            unfold fstA
            rw [if_neg (by omega), e1, HNX.out, e2, HTW.out]
          refine ⟨1, HJ.out, by go_num, by rw [HNX.out], (((HB.out.setCell hge.2.1 _).setCell hge.2.1 _).setCell hge.2.1 _).setCell hge.2.1 _, (((HQ4.out.far h64 _ _).far h64 _ _).far h64 _ _).far h64 _ _, by rw [hf1]; exact HQ6.out.put _ _ _ _, own_set (own_set (own_set (own_set HO.out hge.2.2.2.1) hge.2.2.2.1) hge.2.2.2.1) hge.2.2.2.1, by have := HSZ.out; simp [go_sem]; omega, HALL.out⟩
        case measure =>
          have := HJ.out
          simp [intOf]; omega
      · have hjI : ¬ (j : Int) = 0 := by omega
        have hw16 : (j - 1 : Nat) + 1 ≤ 1000 := by have := HJ.out; omega
        have hown0 := HO.out
        obtain ⟨FL, hFL⟩ : ∃ fl, flatD (outL rows pl (j - 1)) = fl := ⟨_, rfl⟩
        rw [hFL] at hown0
        have HFL := Lib.hid hFL
        clear hFL hq6 hB hq4 hown
        obtain ⟨J1, hJ⟩ : ∃ J, j - 1 = J := ⟨_, rfl⟩
        rw [hJ] at hown0 hw16 ⊢
        have HJ1 := Lib.hid hJ
        clear hJ HO
        go_upto_region 6 with (at_builtin; refine wpList_append_own _ rfl _ _ 33 rfl B 32 i0 (.agg #[.int .u64 0, .int .u64 0, .int .u64 0, .int .u64 0]) 4 32 Tryz.underlying33 hi hz0 hz1 hz2 rfl (by decide) _ _ _ rfl (hown0.alloc _) ⟨W1.heap.size, 0, none⟩ 1 1 [.int .u64 ya0, .int .u64 ya1, .int .u64 za0, .int .u64 za1] rfl rfl ?c1 ?c2 ?c3 ?c4 ?c5 ?_)
        case c2 => first | exact ⟨rfl, rfl, rfl, rfl⟩ | (intro u hu; simp at hu; rcases hu with rfl | rfl | rfl | rfl <;> rfl)
        case c3 => unfold maxLen; omega
        case c4 => omega
        case c5 => first | omega | (simp; omega)
        intro v' w2 hown' hgrow _
        have hge := HGE.out
        have hb3 := own_row_below (hown0.alloc (.cells #[.int .u64 ya0, .int .u64 ya1, .int .u64 za0, .int .u64 za1] 32)) (HB.out.alloc HB.out.size _) hgrow hge.2.2.2.2 (by simp; omega)
        have hks : ∀ k, (Value.slice aO J1 cO).ownBlock = some k → k ≠ g4 ∧ k ≠ g6 := fun k hk => by have := own_ge hown0 k hk; omega
        have hq4' := (HQ4.out.keep ((Below.refl _ _).alloc (Nat.le_refl _) (.cells #[.int .u64 ya0, .int .u64 ya1, .int .u64 za0, .int .u64 za1] 32))).grown hgrow (fun k hk => (hks k hk).1)
        have hq6' := (HQ6.out.keep ((Below.refl _ _).alloc (Nat.le_refl _) (.cells #[.int .u64 ya0, .int .u64 ya1, .int .u64 za0, .int .u64 za1] 32))).grown hgrow (fun k hk => (hks k hk).2)
        have hsz' : B ≤ w2.heap.size := Nat.le_trans hsz (Nat.le_trans (by simp) hgrow.size)
        have HREL := Lib.hid (And.intro hb3 (And.intro hq4' (And.intro hq6' (And.intro hown' hsz'))))
        clear hb3 hq4' hq6' hown' hsz' hgrow hks hown0 hsz HB HQ4 HQ6 HSZ HQ11 v0 v1 v2 v3 hge
        go_wp2_with fail
        go_roundw
        case rel =>
          obtain ⟨r1, r2, r3, r4, r5⟩ := HREL.out
          have hf1 : fstA rows pl (j + 1) = F6 := by
            rw [← HF6.out]
            unfold fstA
            rw [if_neg (by omega), if_neg hj00]
          refine ⟨j + 1, HJ.out, by go_num, by rw [HNX.out], r1, r2, by rw [hf1]; exact r3, ?_, r5, HALL.out⟩
          have e : j + 1 - 1 = J1 + 1 := by have := HJ1.out; omega
          obtain ⟨e1, e2⟩ := HROW.out
          have hJj : J1 + 1 = j := by have := HJ1.out; omega
          rw [e, outL_snoc, flatD_app, flatD_one, show J1 + 2 = j + 1 by omega, hJj, e1, HNX.out, e2, HTW.out, ← HJ1.out, HFL.out]
          rw [hJj] at r4
          exact r4
        case measure =>
          have := HJ.out
          simp [intOf]; omega
    · obtain rfl : j = n := by omega
      have hltI : ¬ (j : Int) < (j : Int) := by omega
      obtain ⟨y0, y1, y2, y3⟩ := hq6.1
      have HB := Lib.hid hB; have HO := Lib.hid hown; have HQ4 := Lib.hid hq4
      obtain ⟨⟨v0, v1, v2, v3⟩, v4, v5, v6, v7⟩ := hq4
      clear hB hown hq6 hsz hall hlt hj
      go_wp2_with fail
      have hge := HGE.out
      have hown4 := own_set (o := 3) (x := .int .u64 (fstA rows pl j).2.2) (own_set (o := 2) (x := .int .u64 (fstA rows pl j).2.1) (own_set (o := 1) (x := .int .u64 (fstA rows pl j).1.2) (own_set (o := 0) (x := .int .u64 (fstA rows pl j).1.1) HO.out hge.2.2.1) hge.2.2.1) hge.2.2.1) hge.2.2.1
      exact bodyPost_ret (v := .tuple #[quadV (fstA rows pl j), .slice aO (j - 1 : Nat) cO]) (by simp [results, Tryz.results8, go_sem, v0, v1, v2, v3]) rfl (LEAVE.out (by first | exact Or.inl rfl | exact Or.inl trivial | simp) _ ((((HB.out.setCell hge.1 _).setCell hge.1 _).setCell hge.1 _).setCell hge.1 _) (HQ4.out.put _ _ _ _) hown4)
set_option maxRecDepth 100000 in
set_option maxHeartbeats 8000000 in
/-- A place below 0. -/
theorem rseen_no (a : Option Addr) (n cap : Nat) (rows : List QL) (pl : Int) (w : World) (ht : TabQ w a n rows) (hl : ∀ r ∈ rows, r.length ≤ 4294967296) (hpl : pl < 0) :
    Calls Tryz.prog 8 #[.slice a n cap, .int .i64 pl] w (SeenPost w []) := by
  have HT := Lib.hid ht; have HL := Lib.hid hl
  have hn0 := ht.1
  clear ht hl
  go_enter Tryz.func8, Tryz.ntmps8
  go_upto_region 2 with fail
  obtain ⟨g4, hg4⟩ : ∃ g, w.heap.size = g := ⟨_, rfl⟩
  refine wp_gen (fun W => Below w.heap.size w W ∧ Quo W g4 zI zI zI zI ∧ Quo W (g4 + 1) zI zI zI zI) ⟨((Below.refl _ _).alloc (Nat.le_refl _) _).alloc (by simp) _, by subst hg4; simp [Quo, go_sem], by subst hg4; simp [Quo, go_sem]⟩ ?_
  obtain ⟨g6, hg6⟩ : ∃ g, g4 + 1 = g := ⟨_, rfl⟩
  rw [hg6]
  rintro w6 ⟨hB, hq4, hq6⟩
  simp only [hg4, hg6]
  have HB := Lib.hid hB; have HQ4 := Lib.hid hq4; have HQ6 := Lib.hid hq6
  have HGE := Lib.hid (show w.heap.size ≤ g4 by omega)
  clear hB hq4 hq6 hg4 hg6
  go_upto_region 5 with fail
  go_loopw [7, 8, 9] (fun v at' i W => v = .slice none 0 0 ∧ at' = .int .i64 pl ∧ i = .int .i64 0 ∧ Below w.heap.size w W ∧ Quo W g4 zI zI zI zI ∧ Quo W g6 zI zI zI zI) (fun _ _ _ _ => 0)
  case atStart => exact ⟨rfl, rfl, rfl, HB.out, HQ4.out, HQ6.out⟩
  case round =>
    clear HB HQ4 HQ6
    obtain ⟨rfl, rfl, rfl, hB, hq4, hq6⟩ := hrel
    have HB := Lib.hid hB
    have FIN : Hid (∀ W, Below w.heap.size w W → SeenPost w [] (.returned (.tuple #[quadV zeroQ, .slice none 0 0])) W) := Lib.hid fun W h => ⟨h, none, 0, rfl, QuadsA.nil W⟩
    by_cases hlt : 0 < n
    · have hltI : (0 : Int) < (n : Int) := by omega
      obtain ⟨b, off, rfl, ak, ck, hc, hr⟩ := (HT.out.keep hB).2.2 0 hlt
      obtain ⟨N, hN⟩ : ∃ N, (rows.getD 0 []).length = N := ⟨_, rfl⟩
      have hN32 : N ≤ 4294967296 := by
        rw [← hN]
        exact HL.out _ (by rw [show rows.getD 0 [] = rows[0]'(by omega) by simp [List.getD, show 0 < rows.length by omega]]; exact List.getElem_mem _)
      rw [hN] at hc
      obtain ⟨H, hH⟩ : ∃ H, N / 2 = H := ⟨_, rfl⟩
      have hq : (N : Int).tdiv 2 = (H : Int) := by rw [Int.tdiv_eq_ediv_of_nonneg (by omega)]; omega
      have hqw : wrap64 (H : Int) = (H : Int) := IntWalk.wrap64_in _ (by omega)
      obtain ⟨y0, y1, y2, y3⟩ := hq6.1
      obtain ⟨⟨v0, v1, v2, v3⟩, v4, v5, v6, v7⟩ := hq4
      rw [Nat.add_zero] at hc
      clear hB hq6 hr hN hH
      by_cases hz : (H : Int) = 0
      all_goals
        go_wp2_with fail
        exact bodyPost_ret (v := .tuple #[quadV zeroQ, .slice none 0 0]) (by simp [results, Tryz.results8, go_sem, v0, v1, v2, v3]) rfl (FIN.out _ ((((HB.out.setCell HGE.out _).setCell HGE.out _).setCell HGE.out _).setCell HGE.out _))
    · have hltI : ¬ (0 : Int) < (n : Int) := by omega
      obtain ⟨y0, y1, y2, y3⟩ := hq6.1
      obtain ⟨⟨v0, v1, v2, v3⟩, v4, v5, v6, v7⟩ := hq4
      clear hB hq6 hlt
      go_wp2_with fail
      exact bodyPost_ret (v := .tuple #[quadV zeroQ, .slice none 0 0]) (by simp [results, Tryz.results8, go_sem, v0, v1, v2, v3]) rfl (FIN.out _ ((((HB.out.setCell HGE.out _).setCell HGE.out _).setCell HGE.out _).setCell HGE.out _))
theorem rseen_is (a : Option Addr) (n cap : Nat) (rows : List QL) (pl : Int) (w : World) (ht : TabQ w a n rows) (hn : n ≤ 1000) (hl : ∀ r ∈ rows, r.length ≤ 4294967296) (hpl : I64 pl) :
    Calls Tryz.prog 8 #[.slice a n cap, .int .i64 pl] w (SeenPost w (opnV rows pl)) := by
  by_cases h : pl < 0
  · rw [show opnV rows pl = [] by unfold opnV; rw [if_pos h]]
    exact rseen_no a n cap rows pl w ht hl h
  · obtain ⟨PL, rfl⟩ := Int.eq_ofNat_of_zero_le (show 0 ≤ pl by omega)
    rw [show opnV rows (PL : Int) = opnL rows PL by unfold opnV; rw [if_neg h, Int.toNat_natCast]]
    exact rseen_at a n cap rows PL w ht hn hl (by have := hpl.2; omega)
end Go.Proofs.YthfkfgjhgicfeaaGreatDoor
namespace Go.Proofs.YthfkfgjhgicfeaaGreatDoor
open Go Go.RowKit Go.Sort Go.BigFrame
set_option linter.unusedVariables false

set_option maxRecDepth 100000 in
set_option maxHeartbeats 4000000 in
theorem rwords_is (a : Option Addr) (n c : Nat) (word : QL) (ya : Option Addr) (yn yc : Nat) (ys : QL) (w : World) (hw : QRowA w a n word) (hwu : UsR word) (hn : n ≤ 4294967296) (hy : QRowA w ya yn ys) (hyu : UsR ys) (hyn : yn ≤ 1000) :
    Calls Tryz.prog 10 #[.slice a n c, .slice ya yn yc] w (TabPost w (wordsV word ys)) := by
  obtain ⟨rows, ok, hr⟩ : ∃ rows ok, chainV word ys = (rows, ok) := ⟨_, _, rfl⟩
  have k1 := fun W (h : Below w.heap.size w W) => rcwords_is a n c word ya yn yc ys rows ok W (hw.keep h) hwu (hy.keep h) hyu hyn hr
  unfold WordsPost at k1
  have hV : wordsV word ys = if ok = true then (if 1 < rows.length then rows.take (rows.length - 1) else rows) else [] := by unfold wordsV; rw [hr]
  have hlr : rows.length ≤ 2000 := by
    have e : rows = (chainV word ys).1 := by rw [hr]
    rw [e]
    unfold chainV
    split
    · simp only [chRows_len]; rw [hy.1]; omega
    · exact Nat.zero_le _
  rw [hV]
  clear hw hwu hy hyu hr hV hn hyn
  obtain ⟨L, hL⟩ : ∃ L, rows.length = L := ⟨_, rfl⟩
  have HL := Lib.hid hL
  rw [hL] at k1 hlr ⊢
  clear hL
  cases ok
  · rw [if_neg (by decide)]
    go_enter Tryz.func10, Tryz.ntmps10
    go_wp2_with (go_at_call 23; (with_reducible refine (k1 _ (Below.refl _ _)).mono ?_); rintro e w1 ⟨hb, ta, tc, rfl, hT, htc⟩; have HB := Lib.hid hb; clear hb hT htc)
    go_ret
    exact ⟨HB.out, none, 0, rfl, TabQ.nil _, Nat.le_refl _⟩
  · rw [if_pos rfl]
    by_cases h1 : 1 < L
    · rw [if_pos h1]
      have h1I : (1 : Int) < (L : Int) := by omega
      have g1 : IntKind.i64.wrap ((L : Int) - 1) = ((L - 1 : Nat) : Int) := by rw [IntWalk.i64_in _ (by omega)]; omega
      have g2 : wrap64 ((L : Int) - 1) = ((L - 1 : Nat) : Int) := by rw [IntWalk.wrap64_in _ (by omega)]; omega
      have htk : (rows.take (L - 1)).length = L - 1 := by rw [List.length_take, HL.out]; omega
      have hl1 : L - 1 ≤ L := by omega
      obtain ⟨L1, hL1⟩ : ∃ q, L - 1 = q := ⟨_, rfl⟩
      rw [hL1] at g1 g2 htk hl1 ⊢
      have HTK := Lib.hid htk; have HL1 := Lib.hid hL1; have HLE := Lib.hid hl1
      have h0 : (0 : Int) ≤ (L1 : Int) := Int.natCast_nonneg _
      clear htk hL1
      go_enter Tryz.func10, Tryz.ntmps10
      go_wp2_with (go_at_call 23; (with_reducible refine (k1 _ (Below.refl _ _)).mono ?_); rintro e w1 ⟨hb, ta, tc, rfl, hT, htc⟩; have HB := Lib.hid hb; have HT := Lib.hid hT; have htc1 : L1 ≤ tc := Nat.le_trans HLE.out htc; have htcI : (L1 : Int) ≤ (tc : Int) := Int.ofNat_le.2 htc1; have HTC := Lib.hid htc; clear hb hT htc)
      go_ret
      have hT2 := TabQ.cut HT.out HLE.out
      exact ⟨HB.out, ta, tc, by rw [HTK.out]; rfl, by rw [HTK.out]; exact hT2, by rw [HTK.out]; exact htc1⟩
    · rw [if_neg h1]
      have h1I : ¬ (1 : Int) < (L : Int) := by omega
      go_enter Tryz.func10, Tryz.ntmps10
      go_wp2_with (go_at_call 23; (with_reducible refine (k1 _ (Below.refl _ _)).mono ?_); rintro e w1 ⟨hb, ta, tc, rfl, hT, htc⟩; have HB := Lib.hid hb; have HT := Lib.hid hT; have HTC := Lib.hid htc; clear hb hT htc)
      go_ret
      exact ⟨HB.out, ta, tc, by rw [HL.out]; rfl, by rw [HL.out]; exact HT.out, by rw [HL.out]; exact HTC.out⟩
theorem getD_U' {l : QL} (h : UsR l) (i : Nat) : U (l.getD i (0, 0)).1 ∧ U (l.getD i (0, 0)).2 := by
  by_cases c : i < l.length
  · have e : l.getD i (0, 0) = l[i] := by simp [List.getD, c]
    rw [e]; exact h _ (List.getElem_mem c)
  · have e : l.getD i (0, 0) = (0, 0) := by simp [List.getD, c]
    rw [e]; exact ⟨⟨by decide, by decide⟩, by decide, by decide⟩
theorem opnL_U : ∀ {rows : List QL} {a : Nat}, UsT rows → ∀ q ∈ opnL rows a, UsQ q
  | [], a, _, q, hq => by simp [opnL] at hq
  | w :: r, a, h, q, hq => by
    rw [opnL] at hq
    split at hq
    · simp at hq
    · rcases List.mem_cons.1 hq with rfl | hq
      · exact ⟨getD_U' (h w (List.mem_cons_self ..)) _, getD_U' (h w (List.mem_cons_self ..)) _⟩
      · exact opnL_U (fun r' hr => h r' (List.mem_cons_of_mem _ hr)) q hq
theorem opnV_U {rows : List QL} {pl : Int} (h : UsT rows) : ∀ q ∈ opnV rows pl, UsQ q := by
  unfold opnV
  split
  · intro q hq; simp at hq
  · exact opnL_U h
theorem opnF_U {rows : List QL} {pl : Int} (h : UsT rows) : UsQ (opnF rows pl) := by
  unfold opnF
  by_cases c : 0 < (opnV rows pl).length
  · rw [show (opnV rows pl).getD 0 zeroQ = (opnV rows pl)[0] by simp [List.getD, c]]
    exact opnV_U h _ (List.getElem_mem c)
  · rw [show (opnV rows pl).getD 0 zeroQ = zeroQ by simp [List.getD, c]]
    refine ⟨⟨⟨?_, ?_⟩, ?_, ?_⟩, ⟨?_, ?_⟩, ?_, ?_⟩ <;> decide
theorem opnR_U {rows : List QL} {pl : Int} (h : UsT rows) : ∀ q ∈ opnR rows pl, UsQ q := fun q hq => opnV_U h q (List.mem_of_mem_drop hq)
def AccRel (w wb : World) (p : Nat → Bool) (M : Nat) (v i : Value) (W : World) : Prop :=
  ∃ j : Nat, j ≤ M ∧ i = .int .i64 (j : Int) ∧ Below w.heap.size w W ∧ Below wb.heap.size wb W ∧ v = .int .i64 (many p j : Nat)
set_option maxRecDepth 100000 in
set_option maxHeartbeats 8000000 in
theorem raccepts_is (k bl fo qu gr : Int) (a : Option Addr) (n c : Nat) (bys : QL) (ta : Option Addr) (tn tc : Nat) (rows : List QL) (fa : Option Addr) (fn fc : Nat) (fin : QL) (w : World) (hk : 0 ≤ k ∧ k ≤ 10) (hb : 1 ≤ bl ∧ bl ≤ 4) (hby : QRowA w a n bys) (hbu : UsR bys) (ht : TabQ w ta tn rows) (htu : UsT rows) (htn : tn ≤ 1000) (htl : ∀ r ∈ rows, r.length ≤ 4294967296) (hf : QRowA w fa fn fin) (hfu : UsR fin) :
    Calls Tryz.prog 13 #[.int .i64 k, .agg #[.int .i64 bl, .int .i64 fo, .int .i64 qu, .int .i64 gr], .slice a n c, .slice ta tn tc, .slice fa fn fc] w (IntPost w (acceptsV k bl fo bys rows fin)) := by
  obtain ⟨K, rfl⟩ := Int.eq_ofNat_of_zero_le hk.1
  obtain ⟨B, rfl⟩ := Int.eq_ofNat_of_zero_le (show 0 ≤ bl by omega)
  have HBY := Lib.hid hby; have HBU := Lib.hid hbu; have HT := Lib.hid ht; have HTU := Lib.hid htu; have HTN := Lib.hid htn; have HTL := Lib.hid htl; have HF := Lib.hid hf; have HFU := Lib.hid hfu
  obtain ⟨M, hM⟩ : ∃ M, K + B - 1 = M := ⟨_, rfl⟩
  have hM13 : M ≤ 13 := by omega
  obtain ⟨g1, g1'⟩ := w_add K B (by omega) (by omega)
  have g2 : IntKind.i64.wrap (((K + B : Nat) : Int) - 1) = (M : Int) := by rw [IntWalk.i64_in _ (by omega)]; omega
  have g3 : wrap64 (((K + B : Nat) : Int) - 1) = (M : Int) := by rw [IntWalk.wrap64_in _ (by omega)]; omega
  have g4 := w_u64 M (by omega)
  have g5 := pw_wrap M (by omega)
  have hM40 : M ≤ 40 := by omega
  have hX := pow13 hM13
  have hend : acceptsV (K : Int) (B : Int) fo bys rows fin = many (fun i => judgeB (K : Int) (B : Int) fo bys (i : Int) (opnF rows (i : Int)) (opnR rows (i : Int)) fin) (2 ^ M) := by
    unfold acceptsV
    rw [show ((K : Int) + (B : Int) - 1).toNat = M by omega]
  rw [hend]
  obtain ⟨X, hXe⟩ : ∃ X, 2 ^ M = X := ⟨_, rfl⟩
  rw [hXe] at g5 hX ⊢
  obtain ⟨p, hp⟩ : ∃ p : Nat → Bool, (fun i : Nat => judgeB (K : Int) (B : Int) fo bys (i : Int) (opnF rows (i : Int)) (opnR rows (i : Int)) fin) = p := ⟨_, rfl⟩
  have HP : Hid (∀ i : Nat, judgeB (K : Int) (B : Int) fo bys (i : Int) (opnF rows (i : Int)) (opnR rows (i : Int)) fin = p i) := Lib.hid fun i => by rw [← hp]
  rw [hp]
  obtain ⟨S, hS⟩ : ∃ S, K + B = S := ⟨_, rfl⟩
  rw [hS] at g1 g1' g2 g3
  clear hS
  clear hby hbu ht htu htn htl hf hfu hk hb hM hend hXe hp
  go_enter Tryz.func13, Tryz.ntmps13
  go_upto_region 1 with fail
  obtain ⟨g, hg⟩ : ∃ g, w.heap.size = g := ⟨_, rfl⟩
  refine wp_gen (fun W => Below w.heap.size w W ∧ RjBox W g (B : Int) fo qu gr) ⟨(Below.refl _ _).alloc (Nat.le_refl _) _, by subst hg; simp [RjBox, go_sem]⟩ ?_
  rintro w0 ⟨hB0, hPB⟩
  simp only [hg]
  have HB0 := Lib.hid hB0; have HPB := Lib.hid hPB
  clear hB0 hPB hg
  go_upto_region 3 with fail
  go_loopw [11, 12] (AccRel w w0 p X) (fun _ i _ => X - (intOf i).toNat)
  case atStart => exact ⟨0, Nat.zero_le _, rfl, HB0.out, Below.refl _ _, rfl⟩
  case round =>
    clear HB0
    obtain ⟨j, hj, rfl, hB, hBw, rfl⟩ := hrel
    obtain ⟨c0, c1, c2, c3⟩ := HPB.out.keep hBw
    have hle := many_le p j
    by_cases hlt : j < X
    · have hltI : (j : Int) < (X : Int) := Int.ofNat_lt.2 hlt
      have hj0 : (0 : Int) ≤ (j : Int) := Int.natCast_nonneg j
      have s1 := rseen_is ta tn tc rows (j : Int) wr (HT.out.keep hB) HTN.out HTL.out (by constructor <;> omega)
      unfold SeenPost at s1
      have hfst : (opnV rows (j : Int)).getD 0 zeroQ = opnF rows (j : Int) := rfl
      have hrst : (opnV rows (j : Int)).drop 1 = opnR rows (j : Int) := rfl
      rw [hfst, hrst] at s1
      have hUF := opnF_U (pl := (j : Int)) HTU.out
      have hUR := opnR_U (pl := (j : Int)) HTU.out
      have hpj := HP.out j
      obtain ⟨FQ, hFQ⟩ : ∃ q, opnF rows (j : Int) = q := ⟨_, rfl⟩
      obtain ⟨RS, hRS⟩ : ∃ q, opnR rows (j : Int) = q := ⟨_, rfl⟩
      rw [hFQ, hRS] at hpj s1
      rw [hFQ] at hUF
      rw [hRS] at hUR
      have HUF := Lib.hid hUF; have HUR := Lib.hid hUR; have HPJ := Lib.hid hpj; have HB := Lib.hid hB; have HBW := Lib.hid hBw; have HJ := Lib.hid hlt
      obtain ⟨RL, hRL⟩ : ∃ q, RS.length = q := ⟨_, rfl⟩
      rw [hRL] at s1
      obtain ⟨⟨f0, f1⟩, ⟨f2, f3⟩⟩ := FQ
      obtain ⟨cn, hcn⟩ : ∃ q, many p j = q := ⟨_, rfl⟩
      rw [hcn] at hle ⊢
      have HCN := Lib.hid hcn
      clear hj hB hBw hlt hfst hrst hUF hUR hpj hFQ hRS hRL hcn
      go_upto_region 6 with (go_at_call 8; (with_reducible refine s1.mono ?_); rintro e w1 ⟨hb1, qa, qc, rfl, hQ⟩; have HQ := Lib.hid hQ; replace HB := Lib.hid (bthen HB.out hb1); replace HBW := Lib.hid (bthen HBW.out hb1); replace c0 := bkeep hb1 c0; replace c1 := bkeep hb1 c1; replace c2 := bkeep hb1 c2; replace c3 := bkeep hb1 c3; clear hb1 hQ)
      clear s1
      obtain ⟨g13, hg13⟩ : ∃ g, w1.heap.size = g := ⟨_, rfl⟩
      refine wp_gen (fun W => Below w1.heap.size w1 W ∧ QuadC W g13 ((f0, f1), (f2, f3))) ⟨(Below.refl _ _).alloc (Nat.le_refl _) _, by rw [← hg13]; simp [QuadC, go_sem]⟩ ?_
      rintro w2 ⟨hb2, d0, d1, d2, d3⟩
      simp only [hg13]
      replace HB := Lib.hid (bthen HB.out hb2)
      replace HBW := Lib.hid (bthen HBW.out hb2)
      replace c0 := bkeep hb2 c0; replace c1 := bkeep hb2 c1; replace c2 := bkeep hb2 c2; replace c3 := bkeep hb2 c3
      have J1 := rjjudge_is (K : Int) (B : Int) fo qu gr a n c bys (j : Int) ((f0, f1), (f2, f3)) qa RL qc RS fa fn fc fin (p j) w2 (HBY.out.keep HB.out) HBU.out HUF.out (HQ.out.keep hb2) HUR.out (HF.out.keep HB.out) HFU.out HPJ.out
      have hstep : many p (j + 1) = cn + (if p j = true then 1 else 0) := by rw [many, HCN.out]
      have HST := Lib.hid hstep
      clear hb2 hg13 hstep
      obtain ⟨pb, hpb⟩ : ∃ b, p j = b := ⟨_, rfl⟩
      rw [hpb] at J1 HST
      clear hpb
      cases pb
      all_goals
        go_wp2_with (go_at_call 26; (with_reducible refine J1.mono ?_); rintro e w3 ⟨rfl, hb3⟩; replace HB := Lib.hid (bthen HB.out hb3); replace HBW := Lib.hid (bthen HBW.out hb3); clear hb3)
        go_roundw
        case rel => exact ⟨j + 1, HJ.out, by go_num, HB.out, HBW.out, by rw [HST.out]; first | rfl | go_num⟩
        case measure =>
          have := HJ.out
          simp [intOf]
          omega
    · obtain rfl : j = X := by omega
      have hltI : ¬ (j : Int) < (j : Int) := by omega
      have HB := Lib.hid hB
      clear hB hBw hj hlt
      go_wp2_with fail
      go_ret
      exact ⟨rfl, HB.out⟩
end Go.Proofs.YthfkfgjhgicfeaaGreatDoor
