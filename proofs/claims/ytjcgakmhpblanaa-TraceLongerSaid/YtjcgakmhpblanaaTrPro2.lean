/-
  What the program's operations and behind of layer 19 come to.
-/
import Derived.Test.YtjcgakmhpblanaaTrPro1
namespace Go.Proofs.Ytjcgakmhpblanaa
open Go Go.RowKit
set_option linter.unusedVariables false

theorem own_le {W : World} {B : Nat} {e : TypeId} {s : Nat} {a : Option Addr} {n c : Nat} {xs : List Value} (h : W.ownsRow B e s (.slice a n c) n xs) : n ≤ c := by
  rcases h.2 with ⟨e, _⟩ | ⟨g, cap, cur, e, _, _, hn, _⟩
  · simp only [Value.slice.injEq] at e; omega
  · simp only [Value.slice.injEq] at e; omega
theorem infoTO : (Try.prog.info? 48).map (fun i => (i.zero, i.size, i.bytes)) = some (some (.slice none 0 0), 1, 24) := by kernel_rfl
/-- Lists of operations, as they are read; in a table of one's own. -/
abbrev OpRows (W : World) (a : Option Addr) (n : Nat) (ls : List (List Opn)) : Prop := RowsP OpA W a n ls
abbrev OpTab (W : World) (B : Nat) (a : Option Addr) (n : Nat) (ls : List (List Opn)) : Prop := TabG OpA W B a n ls
theorem OpA.off {W : World} {a : Option Addr} {n g o : Nat} {v : Value} {l : List Opn} (h : OpA W a n l) (hx : ∀ x, a = some x → x.block ≠ g) : OpA (W.setCell ⟨g, o, none⟩ v) a n l :=
  ⟨h.1, h.2.1, fun k hk => by
    obtain ⟨b, off, e, c0, c1⟩ := h.2.2 k hk
    exact ⟨b, off, e, (World.cell?_setCell_far _ _ _ _ (fun c => hx _ e c.symm)).trans c0, (World.cell?_setCell_far _ _ _ _ (fun c => hx _ e c.symm)).trans c1⟩⟩
theorem opRows_keep {W W' : World} {a : Option Addr} {n : Nat} {ls : List (List Opn)} (h : OpRows W a n ls) (hb : Below W.heap.size W W') : OpRows W' a n ls := RowsP.keep (rowP := OpA) (fun {W W' a n l} (h : OpA W a n l) hb => h.keep hb) h hb
theorem opTab_keep {W W' : World} {B : Nat} {a : Option Addr} {n : Nat} {ls : List (List Opn)} (h : OpTab W B a n ls) (hb : Below W.heap.size W W') : OpTab W' B a n ls := TabG.keep (rowP := OpA) (fun {W W' a n l} (h : OpA W a n l) hb => h.keep hb) h hb
theorem opTab_set {W : World} {B g i n : Nat} {ls : List (List Opn)} {ai : Option Addr} {ci m : Nat} {l : List Opn} (h : OpTab W B (some ⟨g, 0, none⟩) n ls) (hi : i < n) (hm : l.length = m) (hr : OpA W ai l.length l) (hc : l.length ≤ ci) (hx : ∀ x, ai = some x → x.block ≠ g) : OpTab (W.setCell ⟨g, i, none⟩ (.slice ai m ci)) B (some ⟨g, 0, none⟩) n (ls.set i l) := by
  subst hm
  have := TabG.set (rowP := OpA) (fun {W a n g o v l} (h : OpA W a n l) hx => h.off hx) h hi hr hc hx
  rwa [Nat.zero_add] at this
theorem opTab_new (W : World) (n : Nat) (t : TypeId) (ls : List (List Opn)) (hn : n ≤ maxLen) (hl : ls.length = n) (h0 : ∀ k, k < n → ls.getD k [] = []) : OpTab (W.alloc (.cells (madeCells #[.slice none 0 0] n) t)) W.heap.size (some ⟨W.heap.size, 0, none⟩) n ls :=
  ⟨hl, hn, fun k hk => by
    obtain ⟨h1, h2⟩ := Arr.new W #[.slice none 0 0] n t k hk
    refine ⟨W.heap.size, 0, Nat.le_refl _, rfl, by rw [Nat.zero_add]; exact h2, none, 0, ?_, ?_, ?_, (fun x h => by cases h)⟩
    · rw [h0 k hk, Nat.zero_add, h1]; simp [Nat.mod_one]
    · rw [h0 k hk]; exact ⟨rfl, Nat.zero_le _, fun k hk => by simp at hk⟩
    · rw [h0 k hk]; exact Nat.le_refl _⟩
/-- The operations of each text; of the first ones. -/
def opsL (ts : List ByteArray) : List (List Opn) := ts.map fun t => (parseB t).1
def opsUp (ts : List ByteArray) (k : Nat) : List (List Opn) := (List.range ts.length).map fun j => if j < k then (parseB (tx ts j)).1 else []
theorem opsL_len (ts : List ByteArray) : (opsL ts).length = ts.length := by simp [opsL]
theorem opsL_at {ts : List ByteArray} {k : Nat} (h : k < ts.length) : (opsL ts).getD k [] = (parseB (tx ts k)).1 := by simp [opsL, tx, List.getD, h]
theorem opsUp_len (ts : List ByteArray) (k : Nat) : (opsUp ts k).length = ts.length := by simp [opsUp]
theorem opsUp_zero (ts : List ByteArray) (j : Nat) (h : j < ts.length) : (opsUp ts 0).getD j [] = [] := by simp [opsUp, List.getD, h]
theorem opsUp_set (ts : List ByteArray) {k : Nat} (h : k < ts.length) : (opsUp ts k).set k (parseB (tx ts k)).1 = opsUp ts (k + 1) := by
  refine List.ext_getElem (by simp [opsUp]) fun j h1 h2 => ?_
  simp only [opsUp, List.getElem_set, List.getElem_map, List.getElem_range]
  by_cases c : k = j
  · subst c; simp
  · rw [if_neg c]
    by_cases d : j < k
    · rw [if_pos d, if_pos (by omega)]
    · rw [if_neg d, if_neg (by omega)]
theorem opsUp_all (ts : List ByteArray) : opsUp ts ts.length = opsL ts := by
  refine List.ext_getElem (by simp [opsUp, opsL]) fun j h1 h2 => ?_
  have hj : j < ts.length := by simpa [opsL] using h2
  simp only [opsUp, opsL, List.getElem_map, List.getElem_range, if_pos hj]
  rw [show tx ts j = ts[j] by simp [tx, List.getD, hj]]
def OperRel (w : World) (g : Nat) (ts : List ByteArray) (i : Value) (W : World) : Prop := ∃ k : Nat, k ≤ ts.length ∧ i = .int .i64 k ∧ Below w.heap.size w W ∧ g < W.heap.size ∧ OpTab W g (some ⟨g, 0, none⟩) ts.length (opsUp ts k)
set_option maxHeartbeats 2000000 in
theorem poperations_is (a : Option Addr) (cap : Nat) (ts : List ByteArray) (w : World) (hS : StrA w a ts.length (tx ts)) (hz : ∀ t ∈ ts, t.size ≤ 9223372036854775807) (hn : ts.length ≤ 40) :
    Calls Try.prog 25 #[.slice a ts.length cap] w fun e w' => Below w.heap.size w w' ∧ ∃ (a : Option Addr) (c : Nat), e = .returned (.slice a ts.length c) ∧ OpRows w' a ts.length (opsL ts) := by
  have HS := Lib.hid hS; have HZ := Lib.hid hz
  have hmk := fun W => run_make_row' (P := Try.prog) 43 48 (.slice none 0 0) 24 Try.underlying43 infoTO rfl .i64 .i64 ts.length (by omega) (by omega) W
  have hnew := opTab_new w ts.length 48 (opsUp ts 0) (by unfold maxLen; omega) (opsUp_len ts 0) (opsUp_zero ts)
  clear hS hz
  go_enter Try.func25, Try.ntmps25
  go_upto_region 3 with fail
  refine wp_gen (fun W => Below w.heap.size w W ∧ w.heap.size < W.heap.size ∧ OpTab W w.heap.size (some ⟨w.heap.size, 0, none⟩) ts.length (opsUp ts 0)) ⟨(Below.refl _ _).alloc (Nat.le_refl _) _, by simp, hnew⟩ ?_
  obtain ⟨g, hg⟩ : ∃ g, w.heap.size = g := ⟨_, rfl⟩
  rintro w1 ⟨hB1, hs1, hT1⟩
  rw [hg] at hT1 hs1
  simp only [hg]
  have HG : Hid (w.heap.size ≤ g) := Lib.hid (by omega)
  clear hnew hg hmk
  go_loopw [11] (OperRel w g ts) (fun i _ => ts.length - (intOf i).toNat)
  case atStart => exact ⟨0, Nat.zero_le _, rfl, hB1, hs1, hT1⟩
  case round =>
    clear hB1 hs1 hT1
    obtain ⟨k, hk, rfl, hB, hs, hT⟩ := hrel
    have HB := Lib.hid hB; have HT := Lib.hid hT
    by_cases hlt : k < ts.length
    · have hltI : (k : Int) < (ts.length : Int) := by omega
      obtain ⟨b, off, hpa, c0⟩ := (HS.out.keep hB).2 k hlt
      obtain ⟨g', off', _, hpe, hf, ak, ck, hck, _⟩ := hT.2.2 k hlt
      simp only [Option.some.injEq, Addr.mk.injEq] at hpe
      obtain ⟨rfl, rfl, _⟩ := hpe
      rw [Nat.zero_add] at hf hck
      have hset := opsUp_set ts hlt
      have hsz := HZ.out _ (tx_mem hlt)
      generalize tx ts k = T at *
      obtain ⟨m, r, hmr⟩ : ∃ m r, parseB T = (m, r) := ⟨_, _, rfl⟩
      rw [hmr] at hset
      have kp := fun W => kparse_own T m r W hsz hmr
      have HSET := Lib.hid hset
      simp only [hpa]
      clear hB hT hpa hset hsz hmr
      go_upto_region 6 with (go_at_call 44; (with_reducible refine (kp _).mono ?_); rintro E w4 ⟨hb, v4, rfl, ho⟩; obtain ⟨a4, c4, rfl⟩ := own_form ho; replace hf := bfree hb hck hf; replace hck := bkeep hb hck; replace HB := Lib.hid (bthen HB.out hb); replace HT := Lib.hid (opTab_keep HT.out hb); have HSZ := Lib.hid hb.size; have HO := Lib.hid ho; clear hb ho kp)
      go_wp2
      go_roundw
      case rel =>
        obtain ⟨a5, c5, e5, hO, _⟩ := own_oprow HO.out
        simp only [Value.slice.injEq] at e5
        obtain ⟨rfl, _, rfl⟩ := e5
        refine ⟨k + 1, by omega, by go_num, HB.out.setCell HG.out _, by have := HSZ.out; simp; omega, ?_⟩
        rw [← HSET.out]
        exact opTab_set HT.out hlt rfl hO (own_le HO.out) (fun x hx => by
          have := own_ge HO.out x.block (by rw [hx]; rfl)
          have := HSZ.out
          omega)
      case measure => simp [intOf]; omega
    · obtain rfl : k = ts.length := by omega
      clear hB hT
      go_wp2
      go_ret
      rw [opsUp_all] at HT
      exact ⟨HB.out, _, _, rfl, HT.out.rows⟩
/-! ### The row behind -/
/-- What each list leaves of a row. -/
def behV (ls : List (List Opn)) (row : List Int) : List Int := ls.map fun l => enc (evB numA (rowF row) (rowF row) l)
theorem behV_len (ls : List (List Opn)) (row : List Int) : (behV ls row).length = ls.length := by simp [behV]
theorem behV_at {ls : List (List Opn)} {row : List Int} {k : Nat} (h : k < ls.length) : (behV ls row).getD k 0 = enc (evB numA (rowF row) (rowF row) (ls.getD k [])) := by simp [behV, List.getD, h]
/-- The first ones of a row, and 0. -/
def upL (l : List Int) (k : Nat) : List Int := (List.range l.length).map fun j => if j < k then l.getD j 0 else 0
theorem upL_set (l : List Int) {k : Nat} (h : k < l.length) : ((upL l k).map (Value.int .u64)).set k (.int .u64 (l.getD k 0)) = (upL l (k + 1)).map (Value.int .u64) := by
  rw [← List.map_set]
  congr 1
  refine List.ext_getElem (by simp [upL]) fun j h1 h2 => ?_
  simp only [upL, List.getElem_set, List.getElem_map, List.getElem_range]
  by_cases c : k = j
  · subst c; simp
  · rw [if_neg c]
    by_cases d : j < k
    · rw [if_pos d, if_pos (by omega)]
    · rw [if_neg d, if_neg (by omega)]
theorem upL_all (l : List Int) : upL l l.length = l := by
  refine List.ext_getElem (by simp [upL]) fun j h1 h2 => ?_
  simp [upL, List.getD, h2]
theorem upL_zero (l : List Int) {n : Nat} (h : l.length = n) : (upL l 0).map (Value.int .u64) = List.replicate n (.int .u64 0) := by
  subst h
  refine List.ext_getElem (by simp [upL]) fun j h1 h2 => ?_
  simp [upL]
def BehRel (w : World) (g n : Nat) (l : List Int) (i : Value) (W : World) : Prop := ∃ k : Nat, k ≤ l.length ∧ i = .int .i64 k ∧ Below w.heap.size w W ∧ W.ownsRow w.heap.size 46 1 (.slice (some ⟨g, 0, none⟩) n n) n ((upL l k).map (Value.int .u64))
set_option maxHeartbeats 2000000 in
theorem pbehind_is (a : Option Addr) (cap : Nat) (ls : List (List Opn)) (b : Option Addr) (capb : Nat) (row : List Int) (cols : Int) (w : World) (hT : OpRows w a ls.length ls) (hE : ∀ k, k < ls.length → (∀ o ∈ ls.getD k [], OkO o) ∧ EvOk (ls.getD k []) cols) (hr : RowA w b row.length row) (hu : UsR row) (hc : cols ≤ row.length) (hn : ls.length ≤ 40) :
    Calls Try.prog 28 #[.slice a ls.length cap, .slice b row.length capb] w fun e w' => ∃ v, e = .returned v ∧ MadeU w w' v (behV ls row) := by
  have HT := Lib.hid hT; have HE := Lib.hid hE; have HR := Lib.hid hr; have HU := Lib.hid hu
  have hmk := fun W => run_make_row' (P := Try.prog) 26 46 (.int .u64 0) 8 Try.underlying26 info64' rfl .i64 .i64 ls.length (by omega) (by omega) W
  have hnew := own_fresh w w.heap.size ls.length 46 (.int .u64 0) (Nat.le_refl _) (by unfold maxLen; omega)
  rw [← upL_zero (behV ls row) (behV_len ls row)] at hnew
  clear hT hE hr hu
  go_enter Try.func28, Try.ntmps28
  go_upto_region 3 with fail
  refine wp_gen (fun W => Below w.heap.size w W ∧ W.ownsRow w.heap.size 46 1 (.slice (some ⟨w.heap.size, 0, none⟩) ls.length ls.length) ls.length ((upL (behV ls row) 0).map (Value.int .u64))) ⟨(Below.refl _ _).alloc (Nat.le_refl _) _, hnew⟩ ?_
  obtain ⟨B, hB⟩ : ∃ B, w.heap.size = B := ⟨_, rfl⟩
  obtain ⟨g, hg⟩ : ∃ g, w.heap.size = g := ⟨_, rfl⟩
  have HG : Hid (w.heap.size ≤ g) := Lib.hid (by omega)
  rintro w1 ⟨hB1, hO1⟩
  have hO1' : w1.ownsRow w.heap.size 46 1 (.slice (some ⟨g, 0, none⟩) ls.length ls.length) ls.length ((upL (behV ls row) 0).map (Value.int .u64)) := by rw [← hg]; exact hO1
  simp only [hg]
  obtain ⟨n, hnn⟩ : ∃ n, ls.length = n := ⟨_, rfl⟩
  rw [hnn] at hO1'
  have HN := Lib.hid hnn
  clear hnew hmk hO1 hB hg hnn
  go_loopw [13] (BehRel w g n (behV ls row)) (fun i _ => ls.length - (intOf i).toNat)
  case atStart => exact ⟨0, Nat.zero_le _, rfl, hB1, hO1'⟩
  case round =>
    clear hB1 hO1'
    obtain ⟨k, hk, rfl, hB, hO⟩ := hrel
    rw [behV_len] at hk
    have HB := Lib.hid hB; have HO := Lib.hid hO
    by_cases hlt : k < ls.length
    · have hltI : (k : Int) < (ls.length : Int) := by omega
      have hkn : k < n := by have := HN.out; omega
      have hknI : (k : Int) < (n : Int) := by omega
      obtain ⟨b1, off, hpa, ak, ck, c0, hOk, _⟩ := (opRows_keep HT.out hB).2.2 k hlt
      obtain ⟨g', c', e', _, _, _, hA⟩ := own_arr hO (by omega)
      simp only [Value.slice.injEq, Option.some.injEq, Addr.mk.injEq] at e'
      obtain ⟨⟨rfl, _, _⟩, _, _⟩ := e'
      obtain ⟨hck, hf⟩ := hA k (by omega)
      have hset := upL_set (behV ls row) (k := k) (by rw [behV_len]; exact hlt)
      rw [behV_at hlt] at hset
      obtain ⟨hko, hke⟩ := HE.out k hlt
      generalize ls.getD k [] = m at *
      have ka := fun W (h1 : OpA W ak m.length m) (h2 : RowA W b row.length row) => vnat_is ak m.length ck m b row.length capb row b row.length capb row cols _ W h1 hko hke h2 HU.out hc h2 HU.out hc rfl
      generalize enc (evB numA (rowF row) (rowF row) m) = z at *
      have HOK := Lib.hid hOk; have HSET := Lib.hid hset; have HRW := Lib.hid (HR.out.keep hB)
      generalize ((upL (behV ls row) k).map (Value.int .u64)).getD k undef = u at *
      simp only [hpa]
      clear hB hO hpa hA hset hko hke hOk
      go_upto_region 6 with (go_at_call 45; (with_reducible refine (ka _ HOK.out HRW.out).mono ?_); rintro E w4 ⟨rfl, hb⟩; replace hf := bfree hb hck hf; replace hck := bkeep hb hck; replace HB := Lib.hid (bthen HB.out hb); replace HO := Lib.hid (own_keep HO.out hb); clear hb ka)
      go_wp2
      go_roundw
      case rel =>
        refine ⟨k + 1, by rw [behV_len]; omega, by go_num, HB.out.setCell HG.out _, ?_⟩
        rw [← HSET.out]
        exact own_store HO.out hkn
      case measure => simp [intOf]; omega
    · obtain rfl : k = ls.length := by omega
      have hN := HN.out
      subst hN
      clear hB hO
      rw [← behV_len ls row, upL_all] at HO
      go_wp2
      go_ret
      exact ⟨_, rfl, by have h := HO.out; rw [behV_len] at h; rw [behV_len]; exact h, HB.out⟩
end Go.Proofs.Ytjcgakmhpblanaa
