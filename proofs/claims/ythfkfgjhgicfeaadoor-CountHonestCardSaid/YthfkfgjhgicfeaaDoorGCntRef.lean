/-
  Append4: append of a whole slice, nil or not, whatever its room. No function of the program is named.
  CountR1: What the document's xs and pick of layer 23 come to.
  CountR2: What the document's subsets of layer 23 come to.
  CountR3: What the document's Agree of layer 23 comes to. (Written by gen_cr3.py.)
  CountR4: What the document's Best of layer 23 comes to. (Written by gen_cr4.py.)
  CountR5: What the document's split of layer 23 comes to. (Written by gen_cr5.py.)
  JudgeQ: Slices of pairs of pairs that are put together; a variable of four cells.
  JLSeen: What is opened of words at a place: the law's 'seen'.
  CountR7: What the document's Seen of layer 23 comes to. (Written by gen_cr7.py.)
  CountR8: What the document's Words and Accepts of layer 23 come to.
-/
import Derived.Test.YthfkfgjhgicfeaaDoorGRows
import Derived.Lib.AppendZerosOnto
import Derived.Lib.SliceRun
import Derived.Test.YthfkfgjhgicfeaaDoorCountW
import Derived.Test.YthfkfgjhgicfeaaDoorGFold
import Derived.Test.YthfkfgjhgicfeaaDoorGArgs
import Derived.Deep.Onto
import Derived.Test.YthfkfgjhgicfeaaDoorEqB
import Derived.Test.YthfkfgjhgicfeaaDoorGRoot
import Derived.BigQuiet
import Derived.Test.YthfkfgjhgicfeaaDoorGJudgeR
import Derived.Test.YthfkfgjhgicfeaaDoorJudgeH
import Derived.BigRegion
namespace Go.Proofs.YthfkfgjhgicfeaaDoor
open Go Go.RowKit
set_option linter.unusedVariables false

theorem run_append_none_any {P : Program} (w : World) (base : Nat) (t ty e : TypeId) (i : TypeInfo) (size : Nat) (ht : P.underlying t = some (.slice e)) (hi : P.info? e = some i)
    (v : Value) (n c : Nat) (xs : List Value) (hown : w.ownsRow base e size v n xs) : (Builtin.append_ #[t, t] ty #[v, .slice none 0 c]).run P w = .ok v w := by
  rcases hown.2 with ⟨rfl, rfl⟩ | ⟨g, cap, cur, rfl, _, _, hnc, _⟩
  · simp [Builtin.append_, run_underlying ht, sizeOf, typeInfo, hi, Builtin.lenOf, Builtin.firstCells]
  · simp [Builtin.append_, run_underlying ht, sizeOf, typeInfo, hi, Builtin.lenOf, Builtin.firstCells, hnc, storeCells]
/-- append of a whole slice, nil or not. -/
theorem wpList_append4 {P : Program} {w : World} {ops : Array Oper} {rest : List Oper} {o : Oper} {a : Act} {Q : Exit → Act → World → Prop} (hgd : o.guard = none) (s x : Operand) (t : TypeId)
    (ho : o.op = .call { callee := .builtin .append, args := #[s, x], argTypes := #[t, t] })
    (base : Nat) (e : TypeId) (i : TypeInfo) (z : Value) (size bytes : Nat) (ht : P.underlying t = some (.slice e)) (hi : P.info? e = some i) (hz : i.zero = some z)
    (hsize : i.size = size) (hby : i.bytes = bytes) (hzs : z.cells.size = size) (hsz : 0 < size)
    (v : Value) (n : Nat) (xs : List Value) (hs : a.eval s = v) (hown : w.ownsRow base e size v n xs)
    (ax : Option Addr) (m c : Nat) (news : List Value) (hx : a.eval x = .slice ax m c) (hl : news.length = m * size) (hm0 : ax = none → m = 0)
    (hnews : ∀ ad, ax = some ad → ∀ j u, news[j]? = some u → w.cell? (ad.add j) = some u) (h1 : ∀ u ∈ news, u.oneCell' = true)
    (h63 : n + m ≤ maxLen) (hbytes : (n + m) * bytes ≤ 140737488355328) (hbase : base ≤ w.heap.size)
    (h : ∀ v' w', w'.ownsRow base e size v' (n + m) (xs ++ news) → w.grownBy w' v.ownBlock → (v'.ownBlock = v.ownBlock ∨ v'.ownBlock = some w.heap.size) → wpList P ops Q rest (a.put o.dst v') w') : wpList P ops Q (o :: rest) a w := by
  cases ax with
  | some ad => exact wpList_append3 hgd s x t ho base e i z size bytes ht hi hz hsize hby hzs hsz v n xs hs hown (some ad) m c news hx hl (by simp) (by simp) hnews h1 h63 hbytes hbase h
  | none =>
    refine wpList_plain hgd fun K hK => ?_
    obtain rfl := hm0 rfl
    obtain rfl : news = [] := List.length_eq_zero_iff.1 (by simpa using hl)
    have hrun := run_append_none_any (P := P) w base t o.type e i size ht hi v n c xs hown
    unfold Oper.wp execOp
    simp only [ho, resolve, invoke, builtin, Sem.run_bind, Sem.run_pure, Result.andThen_ok, List.map_toArray, List.map_cons, List.map_nil, hs, hx, hrun]
    exact hK _ _ (h v w (by simpa using hown) (World.grownBy.refl _ _) (.inl rfl))
end Go.Proofs.YthfkfgjhgicfeaaDoor
namespace Go.Proofs.YthfkfgjhgicfeaaDoor
open Go Go.RowKit
set_option linter.unusedVariables false

def xsL (m f : Int) (k : Nat) : QL := (List.range k).map fun i => encP (ptV m f i)
theorem xsL_len (m f : Int) (k : Nat) : (xsL m f k).length = k := by simp [xsL]
theorem xsL_snoc (m f : Int) (k : Nat) : xsL m f k ++ [encP (ptV m f k)] = xsL m f (k + 1) := by simp [xsL, List.range_succ]
theorem xsL_at (m f : Int) {k i : Nat} (h : i < k) : (xsL m f k).getD i (0, 0) = encP (ptV m f i) := by simp [xsL, List.getD, h]
theorem xsL_qAt (m f : Int) {k i : Nat} (h : i < k) : qAt (xsL m f k) i = ptV m f i := by unfold qAt; rw [xsL_at m f h, toQ_encP]
theorem xsL_U (m f : Int) (k : Nat) : UsR (xsL m f k) := fun n hn => by
  obtain ⟨i, _, rfl⟩ := List.mem_map.1 hn
  exact encP_U _
def XsUp (w : World) (m f : Int) (n : Nat) (v i : Value) (W : World) : Prop := ∃ k : Nat, k ≤ n ∧ i = .int .i64 k ∧ MadeQ w W v (xsL m f k)
theorem MadeQ.rowA {W w : World} {v : Value} {xs : List (Int × Int)} (h : MadeQ W w v xs) : ∃ a c, v = .slice a xs.length c ∧ QRowA w a xs.length xs := by
  obtain ⟨a, c, e, hr⟩ := h.row
  exact ⟨a, c, e, hr.at⟩
/-! ### Some of a list -/
def pickL (zs : QL) (I : List Nat) : QL := I.map fun i => zs.getD i (0, 0)
theorem pickL_len (zs : QL) (I : List Nat) : (pickL zs I).length = I.length := by simp [pickL]
theorem pickL_step (zs : QL) (I : List Nat) {k : Nat} (h : k < I.length) : pickL zs (I.take k) ++ [zs.getD (I.getD k 0) (0, 0)] = pickL zs (I.take (k + 1)) := by
  unfold pickL
  rw [List.take_succ_eq_append_getElem h, List.map_append]
  simp only [List.getD, List.getElem?_eq_getElem h, Option.getD_some, List.map_cons, List.map_nil]
theorem pickL_map (zs : QL) (I : List Nat) : (pickL zs I).map toQ = picks (qAt zs) I := by
  unfold pickL picks
  rw [List.map_map]
  rfl
theorem pickL_U {zs : QL} (h : UsR zs) {I : List Nat} (hI : ∀ i ∈ I, i < zs.length) : UsR (pickL zs I) := fun n hn => by
  obtain ⟨i, hi, rfl⟩ := List.mem_map.1 hn
  rw [show zs.getD i (0, 0) = zs[i]'(hI i hi) by simp [List.getD, hI i hi]]
  exact h _ (List.getElem_mem _)
def PickUp (w : World) (zs : QL) (I : List Nat) (v i : Value) (W : World) : Prop := ∃ k : Nat, k ≤ I.length ∧ i = .int .i64 k ∧ MadeQ w W v (pickL zs (I.take k))
end Go.Proofs.YthfkfgjhgicfeaaDoor
namespace Go.Proofs.YthfkfgjhgicfeaaDoor
open Go Go.RowKit
set_option linter.unusedVariables false

theorem subs_snoc (s k : Nat) : subs (s + 1) (s + (k + 1)) = subs (s + 1) (s + k) ++ (subs s (s + k)).map fun l => l ++ [s + k] := by
  rw [subs, subs, show s + (k + 1) - s = k + 1 by omega, show s + k - s = k by omega, List.range_succ, List.map_append, List.flatten_append]
  simp
theorem subs_none (s : Nat) : subs (s + 1) s = [] := by rw [subs, Nat.sub_self]; rfl
theorem subs_few {s n : Nat} (h : n ≤ s) : subs (s + 1) n = [] := by rw [subs, show n - s = 0 by omega]; rfl
theorem subs_pow : ∀ (s k : Nat), (subs (s + 1) (s + k)).length + 1 ≤ 2 ^ (s + k) ∧ ∀ n, (subs s n).length ≤ 2 ^ n
  | 0, k => by
    have hz : ∀ n, (subs 0 n).length ≤ 2 ^ n := fun n => by rw [subs_zero]; exact Nat.one_le_two_pow
    refine ⟨?_, hz⟩
    induction k with
    | zero => rw [subs_none]; exact Nat.one_le_two_pow
    | succ k ih =>
      rw [subs_snoc, List.length_append, List.length_map, show 0 + (k + 1) = 0 + k + 1 by omega, Nat.pow_succ]
      have := hz (0 + k)
      omega
  | s + 1, k => by
    have hz : ∀ n, (subs (s + 1) n).length ≤ 2 ^ n := fun n => by
      by_cases h : n ≤ s
      · rw [subs_few h]; exact Nat.zero_le _
      · have := (subs_pow s (n - s)).1
        rw [show s + (n - s) = n by omega] at this
        omega
    refine ⟨?_, hz⟩
    induction k with
    | zero => rw [Nat.add_zero, subs_none]; exact Nat.one_le_two_pow
    | succ k ih =>
      rw [subs_snoc, List.length_append, List.length_map, show s + 1 + (k + 1) = s + 1 + k + 1 by omega, Nat.pow_succ]
      have := hz (s + 1 + k)
      omega
theorem subs_le (s n : Nat) (hn : n ≤ 16) : (subs s n).length ≤ 65536 := Nat.le_trans ((subs_pow s 0).2 n) (Nat.le_trans (Nat.pow_le_pow_right (by decide) hn) (by decide))
theorem infoInt23 : (Tryd.prog.info? 3).map (fun i => (i.zero, i.size, i.bytes)) = some (some (.int .i64 0), 1, 8) := by kernel_rfl
theorem own_lt {W : World} {base n size : Nat} {e : TypeId} {v : Value} {xs : List Value} (h : W.ownsRow base e size v n xs) {k : Nat} (hk : v.ownBlock = some k) : k < W.heap.size := by
  obtain ⟨c, hc⟩ := own_block h hk
  exact (Array.getElem?_eq_some_iff.1 hc).1
theorem natsV_one (I : List Nat) : ∀ u ∈ natsV I, u.oneCell' = true := fun u hu => by
  obtain ⟨i, _, rfl⟩ := List.mem_map.1 hu
  rfl
theorem natsV_app (I : List Nat) (k : Nat) : natsV I ++ [.int .i64 (k : Int)] = natsV (I ++ [k]) := by simp [natsV]
theorem take_map_snoc (L : List (List Nat)) (f : List Nat → List Nat) {j : Nat} (h : j < L.length) : (L.take j).map f ++ [f (L.getD j [])] = (L.take (j + 1)).map f := by
  rw [List.take_succ_eq_append_getElem h, List.map_append]
  simp [List.getD, h]
end Go.Proofs.YthfkfgjhgicfeaaDoor
namespace Go.Proofs.YthfkfgjhgicfeaaDoor
open Go Go.RowKit Go.Sort Go.BigFrame
set_option linter.unusedVariables false

theorem lg_bits : ∀ n : Nat, n ≤ 64 → lg (n : Int) = -1 ∨ 0 ≤ lg (n : Int) ∧ lg (n : Int) ≤ 6 := by decide +kernel
theorem lg_small {n : Nat} (h : n ≤ 64) : lg (n : Int) = -1 ∨ ∃ k : Nat, k ≤ 6 ∧ n = 2 ^ k ∧ lg (n : Int) = (k : Int) := by
  rcases lg_bits n h with h1 | ⟨h1, h2⟩
  · exact Or.inl h1
  · obtain ⟨k, _, e, h3⟩ := lg_cases n (by omega) h1 (by omega)
    exact Or.inr ⟨k, by omega, e, h3⟩
def isAt (word : QL) (m f : Int) (line : List F2) (i : Nat) : Bool := decide (atP line (ptV m f i) = qAt word i)
/-- How many up to a place. -/
def agUp (word : QL) (m f : Int) (line : List F2) (two : Bool) (h j : Nat) : Nat :=
  if two = true then many (fun i => isAt word m f line i && isAt word m f line (i + h)) (min j h) else many (isAt word m f line) j
def AgRel (w : World) (word : QL) (m f : Int) (line : List F2) (two : Bool) (h n : Nat) (v i : Value) (W : World) : Prop :=
  ∃ j : Nat, j ≤ n ∧ i = .int .i64 (j : Int) ∧ Below w.heap.size w W ∧ v = .int .i64 (agUp word m f line two h j : Nat)
theorem agUp_one {word : QL} {m f : Int} {line : List F2} {h j : Nat} {r : Bool} (hr : isAt word m f line j = r) : agUp word m f line false h (j + 1) = agUp word m f line false h j + (if r = true then 1 else 0) := by
  unfold agUp
  rw [if_neg (by decide), if_neg (by decide), many, hr]
theorem agUp_far {word : QL} {m f : Int} {line : List F2} {h j : Nat} (hj : ¬ j < h) : agUp word m f line true h (j + 1) = agUp word m f line true h j := by
  unfold agUp
  rw [if_pos rfl, if_pos rfl, show min (j + 1) h = h by omega, show min j h = h by omega]
theorem agUp_two {word : QL} {m f : Int} {line : List F2} {h j : Nat} {r1 r2 : Bool} (hj : j < h) (h1 : isAt word m f line j = r1) (h2 : isAt word m f line (j + h) = r2) : agUp word m f line true h (j + 1) = agUp word m f line true h j + (if (r1 && r2) = true then 1 else 0) := by
  unfold agUp
  rw [if_pos rfl, if_pos rfl, show min (j + 1) h = j + 1 by omega, show min j h = j by omega, many, h1, h2]
theorem agUp_le {word : QL} {m f : Int} {line : List F2} {two : Bool} {h j : Nat} : agUp word m f line two h j ≤ j := by
  unfold agUp
  split
  · exact Nat.le_trans (many_le _ _) (by omega)
  · exact many_le _ _
theorem agUp_end {word : QL} {f : Int} {line : List F2} {two : Bool} (h0 : 0 ≤ lg word.length) : agUp word (lg word.length) f line two (word.length / 2) word.length = agreeV word f line two := by
  unfold agUp agreeV agreeC
  rw [if_pos h0]
  cases two
  · rw [if_neg (by decide), if_neg (by decide)]; rfl
  · rw [if_pos rfl, if_pos rfl, show min word.length (word.length / 2) = word.length / 2 by omega]; rfl
end Go.Proofs.YthfkfgjhgicfeaaDoor
namespace Go.Proofs.YthfkfgjhgicfeaaDoor
open Go Go.RowKit Go.Sort Go.BigFrame
set_option linter.unusedVariables false

theorem picks_congr {x y : Nat → F2} {I : List Nat} (h : ∀ i ∈ I, x i = y i) : picks x I = picks y I := List.map_congr_left h
def bestUp (g : List Nat → Nat) (L : List (List Nat)) (j : Nat) : Nat := (L.take j).foldl (fun b I => max b (g I)) 0
theorem bestUp_step (g : List Nat → Nat) (L : List (List Nat)) {j : Nat} (h : j < L.length) : bestUp g L (j + 1) = max (bestUp g L j) (g (L.getD j [])) := by
  unfold bestUp
  rw [List.take_succ_eq_append_getElem h, List.foldl_append]
  simp [List.getD, h]
theorem bestUp_le {g : List Nat → Nat} {L : List (List Nat)} {j M : Nat} (h : ∀ I, g I ≤ M) : bestUp g L j ≤ M := by
  rcases max_is g (L.take j) 0 with h1 | ⟨I, _, h1⟩
  · unfold bestUp; rw [h1]; exact Nat.zero_le _
  · unfold bestUp; rw [h1]; exact h I
theorem agreeV_le (word : QL) (f : Int) (line : List F2) (two : Bool) : agreeV word f line two ≤ word.length := by
  unfold agreeV agreeC
  split
  · split
    · exact Nat.le_trans (many_le _ _) (Nat.div_le_self _ _)
    · exact many_le _ _
  · exact Nat.zero_le _
theorem oneB_le (word : QL) (f : Int) (two : Bool) (I : List Nat) : oneB word f two I ≤ word.length := by
  unfold oneB
  split
  · exact agreeV_le _ _ _ _
  · exact Nat.zero_le _
theorem encL_U (l : List F2) : UsR (encL l) := fun n hn => by
  obtain ⟨x, _, rfl⟩ := List.mem_map.1 hn
  exact ⟨enc_U _, enc_U _⟩
theorem encL_toQ (l : List F2) : (encL l).map toQ = l := by
  unfold encL
  rw [List.map_map]
  exact (List.map_congr_left fun x _ => toQ_encP x).trans (List.map_id _)
theorem thrL_len {x y : List F2} : (thrL x y).length ≤ x.length := by
  unfold thrL
  split
  · rw [pl_len]; exact tn_le _ _
  · exact Nat.zero_le _
def BestRel (w wb : World) (g : List Nat → Nat) (L : List (List Nat)) (v i : Value) (W : World) : Prop :=
  ∃ j : Nat, j ≤ L.length ∧ i = .int .i64 (j : Int) ∧ Below w.heap.size w W ∧ Below wb.heap.size wb W ∧ v = .int .i64 (bestUp g L j : Nat)
theorem bestOk_no {n : Nat} {dim : Int} (h : ¬ bestOk n dim) {word : QL} (hl : word.length = n) (f : Int) (two : Bool) : bestV word f dim two = 0 := by
  unfold bestV; rw [hl, if_neg h]
def BestR (a xa ai : Option Addr) (n c xc tb tO LN tc j ci : Nat) (I : List Nat) (XI1 XI2 : QL) (LL : List F2) (B : Bool) (sl : Nat) (v : Value) (W : World) : Prop :=
  match sl with
  | 49 => v = .slice xa n xc
  | 50 => v = .slice (some ⟨tb, tO, none⟩) LN tc
  | 51 => v = .int .i64 (j : Int)
  | 52 => v = .pointer (some ⟨tb, tO + j, none⟩)
  | 53 => v = .slice ai I.length ci
  | 54 => ∃ (pa : Option Addr) (pc : Nat), v = .slice pa XI1.length pc ∧ QRow W (.slice pa XI1.length pc) XI1
  | 55 => v = .slice a n c
  | 56 => v = .slice (some ⟨tb, tO, none⟩) LN tc
  | 57 => v = .int .i64 (j : Int)
  | 58 => v = .pointer (some ⟨tb, tO + j, none⟩)
  | 59 => v = .slice ai I.length ci
  | 60 => ∃ (pa : Option Addr) (pc : Nat), v = .slice pa XI2.length pc ∧ QRow W (.slice pa XI2.length pc) XI2
  | 61 => ∃ (al : Option Addr) (cl : Nat), v = .tuple #[.slice al LL.length cl, .bool B] ∧ IsP W (.slice al LL.length cl) LL
  | 48 => ∃ (al : Option Addr) (cl : Nat), v = .tuple #[.slice al LL.length cl, .bool B] ∧ IsP W (.slice al LL.length cl) LL
  | 62 => ∃ (al : Option Addr) (cl : Nat), v = .slice al LL.length cl ∧ IsP W (.slice al LL.length cl) LL
  | 63 => v = .bool B
  | 14 => ∃ (al : Option Addr) (cl : Nat), v = .slice al LL.length cl ∧ IsP W (.slice al LL.length cl) LL
  | 15 => v = .bool B
  | _ => v = .bool true
theorem BestR.keep {a xa ai : Option Addr} {n c xc tb tO LN tc j ci : Nat} {I : List Nat} {XI1 XI2 : QL} {LL : List F2} {B : Bool} {sl : Nat} {v : Value} {W W' : World} (h : BestR a xa ai n c xc tb tO LN tc j ci I XI1 XI2 LL B sl v W) (hb : Below W.heap.size W W') : BestR a xa ai n c xc tb tO LN tc j ci I XI1 XI2 LL B sl v W' := by
  unfold BestR at *
  split at h
  all_goals first | exact h | (obtain ⟨pa, pc, e, hq⟩ := h; exact ⟨pa, pc, e, hq.keep hb⟩)
end Go.Proofs.YthfkfgjhgicfeaaDoor
namespace Go.Proofs.YthfkfgjhgicfeaaDoor
open Go Go.RowKit Go.Sort Go.BigFrame
set_option linter.unusedVariables false

def oddL (word : QL) (f : Int) (h : Nat) : QL := encL (mk h (oddV word f))
theorem oddL_len (word : QL) (f : Int) (h : Nat) : (oddL word f h).length = h := by unfold oddL; rw [encL_len, mk_len]
theorem oddL_at (word : QL) (f : Int) {h i : Nat} (hi : i < h) : (oddL word f h).getD i (0, 0) = encP (oddV word f i) := by
  unfold oddL
  rw [encL_at, mk_at h _ i hi]
  rfl
theorem oddL_qAt (word : QL) (f : Int) {h i : Nat} (hi : i < h) : qAt (oddL word f h) i = oddV word f i := by
  unfold qAt
  rw [oddL_at word f hi]
  exact toQ_encP _
def SplitPost (w : World) (E O : QL) (e : Ending) (w' : World) : Prop :=
  Below w.heap.size w w' ∧ ∃ (ea : Option Addr) (ec : Nat) (oa : Option Addr) (oc : Nat), e = .returned (.tuple #[.slice ea E.length ec, .slice oa O.length oc]) ∧ QRowA w' ea E.length E ∧ QRowA w' oa O.length O
def SplitUp (w w2 : World) (g h : Nat) (f : Nat → F2) (i : Value) (W : World) : Prop :=
  ∃ m : Nat, m ≤ h ∧ i = .int .i64 m ∧ Below w.heap.size w W ∧ Below w2.heap.size w2 W ∧ Arr W g (h * 2) (pc (prt f m))
def SplR (g H bb bo bc eb eo ec j : Nat) (b0 b1 e0 e1 : Int) (m : F2) (sl : Nat) (v : Value) (W : World) : Prop :=
  match sl with
  | 35 => v = .slice (some ⟨g, 0, none⟩) H H
  | 36 => v = .int .i64 (j : Int)
  | 37 => v = .slice (some ⟨bb, bo, none⟩) H bc
  | 38 => v = .int .i64 (j : Int)
  | 39 => v = .pointer (some ⟨bb, bo + j * 2, none⟩)
  | 40 => v = .agg #[.int .u64 b0, .int .u64 b1]
  | 41 => v = .slice (some ⟨eb, eo, none⟩) H ec
  | 42 => v = .int .i64 (j : Int)
  | 43 => v = .pointer (some ⟨eb, eo + j * 2, none⟩)
  | 44 => v = .agg #[.int .u64 e0, .int .u64 e1]
  | 45 => v = .agg #[.int .u64 (enc m.a), .int .u64 (enc m.b)]
  | _ => v = .pointer (some ⟨g, j * 2, none⟩)
theorem SplR.keep {g H bb bo bc eb eo ec j : Nat} {b0 b1 e0 e1 : Int} {m : F2} {sl : Nat} {v : Value} {W W' : World} (h : SplR g H bb bo bc eb eo ec j b0 b1 e0 e1 m sl v W) (hb : Below W.heap.size W W') : SplR g H bb bo bc eb eo ec j b0 b1 e0 e1 m sl v W' := h
end Go.Proofs.YthfkfgjhgicfeaaDoor
namespace Go.Proofs.YthfkfgjhgicfeaaDoor
open Go Go.RowKit
set_option linter.unusedVariables false

def quadL (q : Quad) : List Value := [.int .u64 q.1.1, .int .u64 q.1.2, .int .u64 q.2.1, .int .u64 q.2.2]
def flatD (qs : List Quad) : List Value := qs.flatMap quadL
theorem flatD_app (qs rs : List Quad) : flatD (qs ++ rs) = flatD qs ++ flatD rs := List.flatMap_append
theorem flatD_one (q : Quad) : flatD [q] = quadL q := by simp [flatD]
theorem flatD_len : ∀ qs : List Quad, (flatD qs).length = qs.length * 4
  | [] => rfl
  | q :: qs => by
    have h := flatD_len qs
    unfold flatD at h ⊢
    rw [List.flatMap_cons, List.length_append, h, List.length_cons]
    show 4 + qs.length * 4 = _
    omega
theorem flatD_at : ∀ (qs : List Quad) (i : Nat), i < qs.length → (flatD qs)[i * 4]? = some (.int .u64 (qs.getD i zeroQ).1.1) ∧ (flatD qs)[i * 4 + 1]? = some (.int .u64 (qs.getD i zeroQ).1.2) ∧ (flatD qs)[i * 4 + 2]? = some (.int .u64 (qs.getD i zeroQ).2.1) ∧ (flatD qs)[i * 4 + 3]? = some (.int .u64 (qs.getD i zeroQ).2.2)
  | q :: qs, 0, _ => ⟨rfl, rfl, rfl, rfl⟩
  | q :: qs, i + 1, h => by
    have ih := flatD_at qs i (by simpa using h)
    have e : ∀ j, (flatD (q :: qs))[j + 4]? = (flatD qs)[j]? := fun j => rfl
    have e2 : (q :: qs).getD (i + 1) zeroQ = qs.getD i zeroQ := rfl
    rw [e2]
    obtain ⟨h0, h1, h2, h3⟩ := ih
    refine ⟨?_, ?_, ?_, ?_⟩
    · rw [show (i + 1) * 4 = i * 4 + 4 by omega, e]; exact h0
    · rw [show (i + 1) * 4 + 1 = i * 4 + 1 + 4 by omega, e]; exact h1
    · rw [show (i + 1) * 4 + 2 = i * 4 + 2 + 4 by omega, e]; exact h2
    · rw [show (i + 1) * 4 + 3 = i * 4 + 3 + 4 by omega, e]; exact h3
theorem infoD : (Tryd.prog.info? 52).map (fun i => (i.zero, i.size, i.bytes)) = some (some (.agg #[.int .u64 0, .int .u64 0, .int .u64 0, .int .u64 0]), 4, 32) := by kernel_rfl
theorem own_quads {w : World} {B : Nat} {v : Value} {qs : List Quad} (h : w.ownsRow B 52 4 v qs.length (flatD qs)) : ∃ a c, v = .slice a qs.length c ∧ QuadsA w a qs.length qs := by
  obtain ⟨a, c, rfl⟩ := own_form h
  refine ⟨a, c, rfl, rfl, ?_, ?_⟩
  · rcases h.2 with ⟨_, h0⟩ | ⟨g, cap, cur, hv, hb, hg, hn, hcap, hsz, ht⟩
    · rw [h0]; unfold maxLen; omega
    · omega
  · intro k hk
    rcases h.2 with ⟨_, h0⟩ | ⟨g, cap, cur, hv, hb, hg, hn, hcap, hsz, ht⟩
    · omega
    · cases hv
      obtain ⟨f0, f1, f2, f3⟩ := flatD_at qs k hk
      refine ⟨g, 0, rfl, ?_, ?_, ?_, ?_⟩
      · rw [Nat.zero_add, h.cellAt (k * 4) (by omega)]; exact f0
      · rw [Nat.zero_add, h.cellAt (k * 4 + 1) (by omega)]; exact f1
      · rw [Nat.zero_add, h.cellAt (k * 4 + 2) (by omega)]; exact f2
      · rw [Nat.zero_add, h.cellAt (k * 4 + 3) (by omega)]; exact f3
def MadeD (W w : World) (v : Value) (qs : List Quad) : Prop := w.ownsRow W.heap.size 52 4 v qs.length (flatD qs) ∧ Below W.heap.size W w
section
variable {W w w' : World} {v v' : Value} {qs : List Quad}
theorem MadeD.start (W : World) : MadeD W W (.slice none 0 0) [] := ⟨World.ownsRow_nil _ _ _ _, Below.refl _ _⟩
theorem MadeD.keep (h : MadeD W w v qs) (hb : Below w.heap.size w w') : MadeD W w' v qs := ⟨own_keep h.1 hb, bthen h.2 hb⟩
theorem MadeD.step {q : Quad} (h : MadeD W w v qs) (hown : w'.ownsRow W.heap.size 52 4 v' (qs.length + 1) (flatD qs ++ quadL q)) (hg : w.grownBy w' v.ownBlock) : MadeD W w' v' (qs ++ [q]) :=
  ⟨by rw [List.length_append, flatD_app, flatD_one]; exact hown, h.2.grown hg h.2.size (own_ge h.1)⟩
theorem MadeD.told (h : MadeD W w v qs) : ∃ a c, v = .slice a qs.length c ∧ QuadsA w a qs.length qs := own_quads h.1
end
/-- The source of an append of one pair of pairs. -/
theorem quad_src {W : World} {g : Nat} {x y z u : Value} (h0 : W.cell? ⟨g, 0, none⟩ = some x) (h1 : W.cell? ⟨g, 1, none⟩ = some y) (h2 : W.cell? ⟨g, 2, none⟩ = some z) (h3 : W.cell? ⟨g, 3, none⟩ = some u) : ∀ j t, [x, y, z, u][j]? = some t → W.cell? ((⟨g, 0, none⟩ : Addr).add j) = some t := by
  intro j t ht
  match j, ht with
  | 0, ht => simp at ht; subst ht; exact h0
  | 1, ht => simp at ht; subst ht; exact h1
  | 2, ht => simp at ht; subst ht; exact h2
  | 3, ht => simp at ht; subst ht; exact h3
  | j + 4, ht => simp at ht
/-- Four cells, unfrozen. -/
def Quo (W : World) (g : Nat) (v0 v1 v2 v3 : Value) : Prop :=
  (W.cell? ⟨g, 0, none⟩ = some v0 ∧ W.cell? ⟨g, 1, none⟩ = some v1 ∧ W.cell? ⟨g, 2, none⟩ = some v2 ∧ W.cell? ⟨g, 3, none⟩ = some v3) ∧
  (W.frozen? ⟨g, 0, none⟩ = false ∧ W.frozen? ⟨g, 1, none⟩ = false ∧ W.frozen? ⟨g, 2, none⟩ = false ∧ W.frozen? ⟨g, 3, none⟩ = false)
section
variable {W W' : World} {g : Nat} {v0 v1 v2 v3 : Value}
theorem Quo.lt (h : Quo W g v0 v1 v2 v3) : g < W.heap.size := World.block_lt_of_cell? W _ h.1.1
theorem Quo.keep (h : Quo W g v0 v1 v2 v3) (hb : Below W.heap.size W W') : Quo W' g v0 v1 v2 v3 := by
  obtain ⟨⟨c0, c1, c2, c3⟩, f0, f1, f2, f3⟩ := h
  exact ⟨⟨bkeep hb c0, bkeep hb c1, bkeep hb c2, bkeep hb c3⟩, bfree hb c0 f0, bfree hb c1 f1, bfree hb c2 f2, bfree hb c3 f3⟩
theorem Quo.grown {row : Option Nat} (h : Quo W g v0 v1 v2 v3) (hg : W.grownBy W' row) (hne : ∀ k, row = some k → k ≠ g) : Quo W' g v0 v1 v2 v3 := by
  have hb := hg.block g h.lt (fun e => hne g e.symm rfl)
  obtain ⟨⟨c0, c1, c2, c3⟩, f0, f1, f2, f3⟩ := h
  exact ⟨⟨(World.cell?_of_block (a := ⟨g, 0, none⟩) hb).trans c0, (World.cell?_of_block (a := ⟨g, 1, none⟩) hb).trans c1, (World.cell?_of_block (a := ⟨g, 2, none⟩) hb).trans c2, (World.cell?_of_block (a := ⟨g, 3, none⟩) hb).trans c3⟩,
    (World.frozen?_of_block (a := ⟨g, 0, none⟩) hb).trans f0, (World.frozen?_of_block (a := ⟨g, 1, none⟩) hb).trans f1, (World.frozen?_of_block (a := ⟨g, 2, none⟩) hb).trans f2, (World.frozen?_of_block (a := ⟨g, 3, none⟩) hb).trans f3⟩
theorem Quo.put (h : Quo W g v0 v1 v2 v3) (x0 x1 x2 x3 : Value) : Quo ((((W.setCell ⟨g, 0, none⟩ x0).setCell ⟨g, 1, none⟩ x1).setCell ⟨g, 2, none⟩ x2).setCell ⟨g, 3, none⟩ x3) g x0 x1 x2 x3 := by
  obtain ⟨⟨c0, c1, c2, c3⟩, f0, f1, f2, f3⟩ := h
  simp [Quo, go_sem, c0, c1, c2, c3, f0, f1, f2, f3]
theorem Quo.far (h : Quo W g v0 v1 v2 v3) {g' : Nat} (hne : g' ≠ g) (o : Nat) (x : Value) : Quo (W.setCell ⟨g', o, none⟩ x) g v0 v1 v2 v3 :=
  h.grown (grown_set W g' o x) fun k hk => by cases hk; exact hne
theorem Quo.new (W : World) (t : TypeId) : Quo (W.alloc (.cells #[v0, v1, v2, v3] t)) W.heap.size v0 v1 v2 v3 := by simp [Quo, go_sem]
end
end Go.Proofs.YthfkfgjhgicfeaaDoor
namespace Go.Proofs.YthfkfgjhgicfeaaDoor
open Go Go.RowKit Go.Sort Go.BigFrame
set_option linter.unusedVariables false

def seenAt (m pl j : Nat) : Nat := if j = 0 then pl else jAt m pl (j - 1)
def seenL (rows : List QL) (m pl k : Nat) : List Quad := (List.range k).map fun j => twoAt (rows.getD (j + 1) []) (jAt m pl (j + 1)) (2 ^ (m - 1 - (j + 1)))
theorem seenL_len (rows : List QL) (m pl k : Nat) : (seenL rows m pl k).length = k := by simp [seenL]
theorem seenL_snoc (rows : List QL) (m pl k : Nat) : seenL rows m pl (k + 1) = seenL rows m pl k ++ [twoAt (rows.getD (k + 1) []) (jAt m pl (k + 1)) (2 ^ (m - 1 - (k + 1)))] := by simp [seenL, List.range_succ]
theorem seenL_at (rows : List QL) (m pl : Nat) {k j : Nat} (h : j < k) : (seenL rows m pl k).getD j zeroQ = twoAt (rows.getD (j + 1) []) (jAt m pl (j + 1)) (2 ^ (m - 1 - (j + 1))) := by simp [seenL, List.getD, h]
structure SeenN (N H A a0 : Nat) : Prop where
  q : (N : Int).tdiv 2 = (H : Int)
  r : (a0 : Int).tmod (H : Int) = (A : Int)
  r2 : (a0 : Int) % (H : Int) = (A : Int)
  w : wrap64 (H : Int) = (H : Int)
  s : IntKind.i64.wrap ((A : Int) + (H : Int)) = ((A + H : Nat) : Int)
  t : wrap64 ((A : Int) + (H : Int)) = ((A + H : Nat) : Int)
  h0 : ¬ (H : Int) = 0
  a : (A : Int) < (N : Int)
  a2 : ((A + H : Nat) : Int) < (N : Int)
  a3 : (0 : Int) ≤ (A : Int)
  a4 : (0 : Int) ≤ ((A + H : Nat) : Int)
  n1 : A < N
  n2 : A + H < N
theorem seen_nums {m pl j N H A a0 : Nat} (hm : m ≤ 20) (hj : j < m) (hN : N = 2 ^ (m - j)) (hH : H = 2 ^ (m - 1 - j)) (hA : A = jAt m pl j) (ha : a0 = seenAt m pl j) : SeenN N H A a0 := by
  have e : N = 2 * H := by rw [hN, hH, show m - j = m - 1 - j + 1 by omega, Nat.pow_succ, Nat.mul_comm]
  have hp : 0 < H := by rw [hH]; exact Nat.two_pow_pos _
  have hb : H ≤ 2 ^ 20 := by rw [hH]; exact Nat.pow_le_pow_right (by decide) (by omega)
  rw [show (2 : Nat) ^ 20 = 1048576 by decide] at hb
  have hlt : A < H := by rw [hA, hH]; exact jAt_lt m pl j
  have hmod : a0 % H = A := by
    rw [ha, hH, hA]
    unfold seenAt
    split
    · next c => subst c; rfl
    · next c =>
      have := jAt_next m pl (j - 1) (by omega)
      rw [show m - (j - 1) - 2 = m - 1 - j by omega, show j - 1 + 1 = j by omega] at this
      exact this
  clear hN hH hA ha
  subst e
  refine ⟨?_, ?_, ?_, ?_, ?_, ?_, by omega, by omega, by omega, by omega, by omega, by omega, by omega⟩
  · rw [Int.tdiv_eq_ediv_of_nonneg (by omega)]; omega
  · rw [Int.tmod_eq_emod_of_nonneg (by omega), ← Int.natCast_emod, hmod]
  · rw [← Int.natCast_emod, hmod]
  · exact IntWalk.wrap64_in _ (by omega)
  · rw [IntWalk.i64_in _ (by omega)]; omega
  · rw [IntWalk.wrap64_in _ (by omega)]; omega
theorem own_quads' {w : World} {B n : Nat} {v : Value} {qs : List Quad} (h : w.ownsRow B 52 4 v n (flatD qs)) (hn : qs.length = n) : ∃ a c, v = .slice a n c ∧ QuadsA w a n qs := by
  subst hn
  exact own_quads h
abbrev zI : Value := .int .u64 0
def SeenRel (w : World) (g4 g6 B : Nat) (rows : List QL) (m pl n : Nat) (v at' i : Value) (W : World) : Prop :=
  ∃ j : Nat, j ≤ n ∧ i = .int .i64 j ∧ at' = .int .i64 ((seenAt m pl j : Nat) : Int) ∧ Below w.heap.size w W ∧ Quo W g4 zI zI zI zI ∧ (∃ x0 x1 x2 x3, Quo W g6 x0 x1 x2 x3 ∧ (0 < j → Value.agg #[x0, x1, x2, x3] = quadV (twoAt (rows.getD 0 []) pl (2 ^ (m - 1))))) ∧
    W.ownsRow B 52 4 v (j - 1) (flatD (seenL rows m pl (j - 1))) ∧ B ≤ W.heap.size
end Go.Proofs.YthfkfgjhgicfeaaDoor
namespace Go.Proofs.YthfkfgjhgicfeaaDoor
open Go Go.RowKit Go.Sort Go.BigFrame
set_option linter.unusedVariables false

def halfA (rows : List QL) (k : Nat) : Nat := (rows.getD k []).length / 2
def atK (rows : List QL) (pl : Nat) : Nat → Nat
  | 0 => pl
  | k + 1 => atK rows pl k % halfA rows k
def preL (rows : List QL) (pl k : Nat) : List Quad := (List.range k).map fun j => twoAt (rows.getD j []) (atK rows pl (j + 1)) (halfA rows j)
def outL (rows : List QL) (pl k : Nat) : List Quad := (List.range k).map fun j => twoAt (rows.getD (j + 1) []) (atK rows pl (j + 2)) (halfA rows (j + 1))
theorem outL_len (rows : List QL) (pl k : Nat) : (outL rows pl k).length = k := by simp [outL]
theorem outL_snoc (rows : List QL) (pl k : Nat) : outL rows pl (k + 1) = outL rows pl k ++ [twoAt (rows.getD (k + 1) []) (atK rows pl (k + 2)) (halfA rows (k + 1))] := by simp [outL, List.range_succ]
theorem preL_drop (rows : List QL) (pl : Nat) : ∀ k, (preL rows pl k).drop 1 = outL rows pl (k - 1)
  | 0 => rfl
  | k + 1 => by
    unfold preL outL
    rw [List.range_succ_eq_map, List.map_cons, List.map_map]
    rfl
def fstA (rows : List QL) (pl k : Nat) : Quad := if k = 0 then zeroQ else twoAt (rows.getD 0 []) (atK rows pl 1) (halfA rows 0)
theorem preL_first (rows : List QL) (pl : Nat) : ∀ k, (preL rows pl k).getD 0 zeroQ = fstA rows pl k
  | 0 => rfl
  | k + 1 => by
    unfold preL fstA
    rw [if_neg (by omega)]
    simp [List.getD]
theorem opn_pre (rows : List QL) (pl : Nat) : ∀ k, k ≤ rows.length → (∀ i, i < k → halfA rows i ≠ 0) → opnL rows pl = preL rows pl k ++ opnL (rows.drop k) (atK rows pl k)
  | 0, _, _ => rfl
  | k + 1, hk, h => by
    rw [opn_pre rows pl k (by omega) fun i hi => h i (by omega)]
    have e : rows.drop k = rows[k] :: rows.drop (k + 1) := List.drop_eq_getElem_cons (by omega)
    have e2 : rows.getD k [] = rows[k] := by simp [List.getD, show k < rows.length by omega]
    have h0 := h k (by omega)
    have hh : rows[k].length / 2 = halfA rows k := by unfold halfA; rw [e2]
    rw [e, opnL, hh, if_neg h0, show preL rows pl (k + 1) = preL rows pl k ++ [twoAt (rows.getD k []) (atK rows pl (k + 1)) (halfA rows k)] by simp [preL, List.range_succ], e2, List.append_assoc]
    rfl
/-- Where it ends. -/
theorem opn_end {rows : List QL} {pl k : Nat} (hk : k ≤ rows.length) (h : ∀ i, i < k → halfA rows i ≠ 0) (he : k = rows.length ∨ halfA rows k = 0) : opnL rows pl = preL rows pl k := by
  rw [opn_pre rows pl k hk h]
  by_cases c : k = rows.length
  · rw [c, List.drop_length]; simp [opnL]
  · have h0 := he.resolve_left c
    have e : rows.drop k = rows[k] :: rows.drop (k + 1) := List.drop_eq_getElem_cons (by omega)
    have e2 : rows.getD k [] = rows[k] := by simp [List.getD, show k < rows.length by omega]
    have hh : rows[k].length / 2 = halfA rows k := by unfold halfA; rw [e2]
    rw [e, opnL, hh, if_pos h0, List.append_nil]
theorem seen_all {N H A a0 : Nat} (hN : N ≤ 4294967296) (hH : N / 2 = H) (h0 : H ≠ 0) (hA : a0 % H = A) : SeenN N H A a0 := by
  have hp : 0 < H := by omega
  have hlt : A < H := by rw [← hA]; exact Nat.mod_lt _ hp
  refine ⟨?_, ?_, ?_, ?_, ?_, ?_, by omega, by omega, by omega, by omega, by omega, by omega, by omega⟩
  · rw [Int.tdiv_eq_ediv_of_nonneg (by omega)]; omega
  · rw [Int.tmod_eq_emod_of_nonneg (by omega), ← Int.natCast_emod, hA]
  · rw [← Int.natCast_emod, hA]
  · exact IntWalk.wrap64_in _ (by omega)
  · rw [IntWalk.i64_in _ (by omega)]; omega
  · rw [IntWalk.wrap64_in _ (by omega)]; omega
abbrev QuoQ (W : World) (g : Nat) (q : Quad) : Prop := Quo W g (.int .u64 q.1.1) (.int .u64 q.1.2) (.int .u64 q.2.1) (.int .u64 q.2.2)
def SeenUp (w : World) (g4 g6 B : Nat) (rows : List QL) (pl n : Nat) (v at' i : Value) (W : World) : Prop :=
  ∃ j : Nat, j ≤ n ∧ i = .int .i64 j ∧ at' = .int .i64 ((atK rows pl j : Nat) : Int) ∧ Below w.heap.size w W ∧ Quo W g4 zI zI zI zI ∧ QuoQ W g6 (fstA rows pl j) ∧
    W.ownsRow B 52 4 v (j - 1) (flatD (outL rows pl (j - 1))) ∧ B ≤ W.heap.size ∧ ∀ i, i < j → halfA rows i ≠ 0
theorem atK_le (rows : List QL) (pl : Nat) : ∀ k, atK rows pl k ≤ pl
  | 0 => Nat.le_refl _
  | k + 1 => Nat.le_trans (Nat.mod_le _ _) (atK_le rows pl k)
end Go.Proofs.YthfkfgjhgicfeaaDoor
namespace Go.Proofs.YthfkfgjhgicfeaaDoor
open Go Go.RowKit Go.Sort Go.BigFrame
set_option linter.unusedVariables false

theorem getD_U' {l : QL} (h : UsR l) (i : Nat) : U (l.getD i (0, 0)).1 ∧ U (l.getD i (0, 0)).2 := by
  by_cases c : i < l.length
  · have e : l.getD i (0, 0) = l[i] := by simp [List.getD, c]
    rw [e]; exact h _ (List.getElem_mem c)
  · have e : l.getD i (0, 0) = (0, 0) := by simp [List.getD, c]
    rw [e]; exact ⟨⟨by decide, by decide⟩, by decide, by decide⟩
theorem opnL_U : ∀ {rows : List QL} {a : Nat}, UsT rows → ∀ q ∈ opnL rows a, UsQ q
  | [], a, _, q, hq => by simp [opnL] at hq
  | w :: r, a, h, q, hq => by
    rw [opnL] at hq
    split at hq
    · simp at hq
    · rcases List.mem_cons.1 hq with rfl | hq
      · exact ⟨getD_U' (h w (List.mem_cons_self ..)) _, getD_U' (h w (List.mem_cons_self ..)) _⟩
      · exact opnL_U (fun r' hr => h r' (List.mem_cons_of_mem _ hr)) q hq
theorem opnV_U {rows : List QL} {pl : Int} (h : UsT rows) : ∀ q ∈ opnV rows pl, UsQ q := by
  unfold opnV
  split
  · intro q hq; simp at hq
  · exact opnL_U h
theorem opnF_U {rows : List QL} {pl : Int} (h : UsT rows) : UsQ (opnF rows pl) := by
  unfold opnF
  by_cases c : 0 < (opnV rows pl).length
  · rw [show (opnV rows pl).getD 0 zeroQ = (opnV rows pl)[0] by simp [List.getD, c]]
    exact opnV_U h _ (List.getElem_mem c)
  · rw [show (opnV rows pl).getD 0 zeroQ = zeroQ by simp [List.getD, c]]
    refine ⟨⟨⟨?_, ?_⟩, ?_, ?_⟩, ⟨?_, ?_⟩, ?_, ?_⟩ <;> decide
theorem opnR_U {rows : List QL} {pl : Int} (h : UsT rows) : ∀ q ∈ opnR rows pl, UsQ q := fun q hq => opnV_U h q (List.mem_of_mem_drop hq)
def AccRel (w wb : World) (p : Nat → Bool) (M : Nat) (v i : Value) (W : World) : Prop :=
  ∃ j : Nat, j ≤ M ∧ i = .int .i64 (j : Int) ∧ Below w.heap.size w W ∧ Below wb.heap.size wb W ∧ v = .int .i64 (many p j : Nat)
end Go.Proofs.YthfkfgjhgicfeaaDoor
