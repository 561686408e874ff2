/-
  What the document's Public of layer 19 comes to. (Written by gen_tpub.py.)
-/
import Derived.Test.YtjcgakmhpblanaaTraceRef
import Derived.Test.YtjcgakmhpblanaaGNum
namespace Go.Proofs.Ytjcgakmhpblanaa
open Go Go.RowKit Go.Sort Go.BigFrame
set_option linter.unusedVariables false

def PubG (u5 : Value) (g b off N cap bb bo M bc rb ro L ck k R C : Nat) (z : Int) (sl : Nat) (v : Value) (W : World) : Prop :=
  match sl with
  | 14 => v = u5
  | 15 => v = .slice (some ⟨b, off, none⟩) N cap
  | 16 => v = .pointer (some ⟨g, 4, none⟩)
  | 17 => v = .slice (some ⟨bb, bo, none⟩) M bc
  | 18 => v = .int .i64 (k : Int)
  | 19 => v = .pointer (some ⟨bb, bo + k * 2, none⟩)
  | 20 => v = .pointer (some ⟨bb, bo + k * 2 + 1, none⟩)
  | 21 => v = .int .i64 (R : Int)
  | 22 => v = .pointer (some ⟨b, off + R, none⟩)
  | 23 => v = .slice (some ⟨rb, ro, none⟩) L ck
  | 24 => v = .pointer (some ⟨g, 4, none⟩)
  | 25 => v = .slice (some ⟨bb, bo, none⟩) M bc
  | 26 => v = .int .i64 (k : Int)
  | 27 => v = .pointer (some ⟨bb, bo + k * 2, none⟩)
  | 28 => v = .pointer (some ⟨bb, bo + k * 2, none⟩)
  | 29 => v = .int .i64 (C : Int)
  | 30 => v = .pointer (some ⟨rb, ro + C, none⟩)
  | 31 => v = .int .u64 z
  | 32 => ∃ q : Nat, v = .slice (some ⟨q, 0, none⟩) 1 1 ∧ W.cell? ⟨q, 0, none⟩ = some (.int .u64 z)
  | _ => v = .bool true
theorem PubG.keep {u5 : Value} {g b off N cap bb bo M bc rb ro L ck k R C : Nat} {z : Int} {sl : Nat} {v : Value} {W W' : World} (h : PubG u5 g b off N cap bb bo M bc rb ro L ck k R C z sl v W) (hb : Below W.heap.size W W') : PubG u5 g b off N cap bb bo M bc rb ro L ck k R C z sl v W' := by
  unfold PubG at *
  split at h
  all_goals first | exact h | (obtain ⟨q, h1, h2⟩ := h; exact ⟨q, h1, bkeep hb h2⟩)
def PubRel (w0 : World) (l : List Int) (m : Nat) (o i : Value) (W : World) : Prop := ∃ k : Nat, k ≤ m ∧ i = .int .i64 k ∧ MadeU w0 W o (l.take k)
theorem MadeU.told {W w : World} {v : Value} {xs : List Int} (h : MadeU W w v xs) : ∃ a c, v = .slice a xs.length c ∧ RowA w a xs.length xs := by
  obtain ⟨a, c, e, hr⟩ := h.row
  exact ⟨a, c, e, Row.at hr⟩
set_option maxRecDepth 100000 in
set_option maxHeartbeats 8000000 in
theorem rtpublic_is (A : AirP) (p : AirAt) (a : Option Addr) (n cap : Nat) (rows : List (List Int)) (l : List Int) (w : World) (hA : AirA w A p) (hc : A.check = 0) (hr : RowsA w a n rows) (hh : A.holds rows) (hl : A.shown rows = l) :
    Calls Try.prog 15 #[A.val p, .slice a n cap] w (RowPost w l) := by
  obtain rfl := hr.1
  obtain ⟨i0, hi, hz0, hz1, hz2⟩ := info_parts info64'
  have hLl : l.length = A.bounds.length := by rw [← hl]; exact AirP.shown_len A rows
  have hM16 : A.bounds.length ≤ 16 := (AirP.check_ok hc).1.2.2
  have HIN := Lib.hid (fun k (hk : k < A.bounds.length) => AirP.bound_in hc hk)
  have HAT := Lib.hid (fun k (hk : k < A.bounds.length) => AirP.shown_at (rows := rows) hk)
  rw [hl] at HAT
  have HH := Lib.hid hh
  have HR := Lib.hid hr
  have hA0' := Lib.hid hA
  have hrmax := hr.2.1
  unfold maxLen at hrmax
  clear hA hc hr hh hl
  go_enter Try.func15, Try.ntmps15
  go_upto_region 1 with fail
  refine wp_gen (fun W => Below w.heap.size w W ∧ AirC W w.heap.size A p) ⟨(Below.refl _ _).alloc (Nat.le_refl _) _, AirC.new _ _ _ _⟩ ?_
  obtain ⟨g, hg⟩ : ∃ g, w.heap.size = g := ⟨_, rfl⟩
  rintro w0 ⟨hB0, hC0⟩
  rw [hg] at hC0
  simp only [hg]
  have HA0 := Lib.hid (hA0'.out.keep hB0)
  have HB0 := Lib.hid hB0
  have HC0 := Lib.hid hC0
  have HR0 := Lib.hid (rowsA_keep HR.out hB0)
  clear hB0 hg hA0' hC0 HR
  go_upto_region 3 with fail
  go_loopw [5, 6] (PubRel w0 l A.bounds.length) (fun _ i _ => A.bounds.length - (intOf i).toNat)
  case atStart => exact ⟨0, Nat.zero_le _, rfl, MadeU.start _⟩
  case round =>
    obtain ⟨k, hk, rfl, hM⟩ := hrel
    rename_i u5 _
    obtain ⟨_, _, _, _, x4⟩ := HC0.out.keep hM.2
    by_cases hlt : k < A.bounds.length
    · have hltI : (k : Int) < (A.bounds.length : Int) := by omega
      have hk0 : (0 : Int) ≤ (k : Int) := by omega
      obtain ⟨bb, bo, hpb, c0, c1⟩ := (HA0.out.keep hM.2).2.2.1.2.2 k hlt
      have hin := HIN.out k hlt
      have hat := HAT.out k hlt
      rw [show A.bounds.getD k (0, 0) = A.bound k from rfl] at c0 c1
      generalize A.bound k = bd at *
      obtain ⟨C', R'⟩ := bd
      dsimp only at c0 c1 hin hat
      obtain ⟨i1, i2, i3, i4⟩ := hin
      obtain ⟨C, rfl⟩ := Int.eq_ofNat_of_zero_le i1
      obtain ⟨R, rfl⟩ := Int.eq_ofNat_of_zero_le i3
      simp only [Int.toNat_natCast] at hat
      have hRl : R < rows.length := by have := HH.out.1; omega
      obtain ⟨b, off, hpa, ak, ck, e0, hrow, _⟩ := (rowsA_keep HR0.out hM.2).2.2 R hRl
      have hcl := rows_at (Q := fun r => (r.length : Int) = A.cols) HH.out.2 hRl
      rw [show rows.getD R [] = rowN rows R from rfl] at e0 hrow
      have hlk : (rowN rows R).length ≤ maxLen := hrow.2.1
      generalize rowN rows R = row at *
      have hCl : C < row.length := by omega
      obtain ⟨rb, ro, hpr, f0⟩ := hrow.2.2 C hCl
      rw [← hat] at f0
      rw [hpb] at x4
      rw [hpr] at e0
      have hz : (l.take k ++ [l.getD k 0]) = l.take (k + 1) := (take_one (by omega)).symm
      generalize l.getD k 0 = z at *
      have HZ := Lib.hid hz
      have htl : (l.take k).length = k := by simp; omega
      have HTL := Lib.hid htl
      have hown := hM.1
      rw [htl] at hown
      have hbase := hM.2.size
      have HM := Lib.hid hM
      have hRI : (R : Int) < (rows.length : Int) := by omega
      have hR0 : (0 : Int) ≤ (R : Int) := by omega
      have hCI : (C : Int) < (row.length : Int) := by omega
      have hC0 : (0 : Int) ≤ (C : Int) := by omega
      generalize hLL : row.length = L at *
      generalize hMM : A.bounds.length = M at *
      generalize hNN : rows.length = N at *
      have hkM : k + 1 ≤ M := by omega
      unfold maxLen at hlk
      simp only [hpa]
      clear i1 i2 i3 i4 hat hrow hcl hpb hpr hz hM htl hLL hMM hpa
      go_upto_region 5 with fail
      refine wp_loose [(14, []), (15, []), (16, []), (17, [16]), (18, []), (19, [17, 18]), (20, [19]), (21, [20]), (22, [15, 21]), (23, [22]), (24, []), (25, [24]), (26, []), (27, [25, 26]), (28, [27]), (29, [28]), (30, [23, 29]), (31, [30]), (32, [31])]
        (PubG u5 g b off N cap bb bo M p.bc rb ro L ck k R C z) (fun d => false) (by kernel_rfl) (by kernel_rfl) (fun _ _ _ _ h hb => h.keep hb) ?_ ?_
      · refine opsrun_cons ?_ (opsrun_cons ?_ (opsrun_cons ?_ (opsrun_cons ?_ (opsrun_cons ?_ (opsrun_cons ?_ (opsrun_cons ?_ (opsrun_cons ?_ (opsrun_cons ?_ (opsrun_cons ?_ (opsrun_cons ?_ (opsrun_cons ?_ (opsrun_cons ?_ (opsrun_cons ?_ (opsrun_cons ?_ (opsrun_cons ?_ (opsrun_cons ?_ (opsrun_cons ?_ (opsrun_cons ?_ opsrun_nil))))))))))))))))))
        all_goals
          refine OpRuns.any ?_
          intro Q0 σ W' K hb hn hK
          simp only [fill, List.map, Act.put, List.setIfInBounds_toArray, List.set_cons_zero, List.set_cons_succ] at hK ⊢
        · clear hn
          go_simp
          exact hK _ _ rfl (Below.refl _ _) (fun h => absurd h (by decide))
        · clear hn
          go_simp
          exact hK _ _ rfl (Below.refl _ _) (fun h => absurd h (by decide))
        · clear hn
          go_simp
          exact hK _ _ rfl (Below.refl _ _) (fun h => absurd h (by decide))
        · have h16 : σ 16 = _ := hn 16 (by decide)
          clear hn
          simp only [h16] at hK
          have x4' := bkeep hb x4
          clear x4
          go_simp
          exact hK _ _ rfl (Below.refl _ _) (fun h => absurd h (by decide))
        · clear hn
          go_simp
          exact hK _ _ rfl (Below.refl _ _) (fun h => absurd h (by decide))
        · have h17 : σ 17 = _ := hn 17 (by decide)
          have h18 : σ 18 = _ := hn 18 (by decide)
          clear hn
          simp only [h17, h18] at hK
          go_simp
          exact hK _ _ rfl (Below.refl _ _) (fun h => absurd h (by decide))
        · have h19 : σ 19 = _ := hn 19 (by decide)
          clear hn
          simp only [h19] at hK
          go_simp
          exact hK _ _ rfl (Below.refl _ _) (fun h => absurd h (by decide))
        · have h20 : σ 20 = _ := hn 20 (by decide)
          clear hn
          simp only [h20] at hK
          have c1' := bkeep hb c1
          clear c1
          go_simp
          exact hK _ _ rfl (Below.refl _ _) (fun h => absurd h (by decide))
        · have h15 : σ 15 = _ := hn 15 (by decide)
          have h21 : σ 21 = _ := hn 21 (by decide)
          clear hn
          simp only [h15, h21] at hK
          go_simp
          exact hK _ _ rfl (Below.refl _ _) (fun h => absurd h (by decide))
        · have h22 : σ 22 = _ := hn 22 (by decide)
          clear hn
          simp only [h22] at hK
          have e0' := bkeep hb e0
          clear e0
          go_simp
          exact hK _ _ rfl (Below.refl _ _) (fun h => absurd h (by decide))
        · clear hn
          go_simp
          exact hK _ _ rfl (Below.refl _ _) (fun h => absurd h (by decide))
        · have h24 : σ 24 = _ := hn 24 (by decide)
          clear hn
          simp only [h24] at hK
          have x4' := bkeep hb x4
          clear x4
          go_simp
          exact hK _ _ rfl (Below.refl _ _) (fun h => absurd h (by decide))
        · clear hn
          go_simp
          exact hK _ _ rfl (Below.refl _ _) (fun h => absurd h (by decide))
        · have h25 : σ 25 = _ := hn 25 (by decide)
          have h26 : σ 26 = _ := hn 26 (by decide)
          clear hn
          simp only [h25, h26] at hK
          go_simp
          exact hK _ _ rfl (Below.refl _ _) (fun h => absurd h (by decide))
        · have h27 : σ 27 = _ := hn 27 (by decide)
          clear hn
          simp only [h27] at hK
          go_simp
          exact hK _ _ rfl (Below.refl _ _) (fun h => absurd h (by decide))
        · have h28 : σ 28 = _ := hn 28 (by decide)
          clear hn
          simp only [h28] at hK
          have c0' := bkeep hb c0
          clear c0
          go_simp
          exact hK _ _ rfl (Below.refl _ _) (fun h => absurd h (by decide))
        · have h23 : σ 23 = _ := hn 23 (by decide)
          have h29 : σ 29 = _ := hn 29 (by decide)
          clear hn
          simp only [h23, h29] at hK
          go_simp
          exact hK _ _ rfl (Below.refl _ _) (fun h => absurd h (by decide))
        · have h30 : σ 30 = _ := hn 30 (by decide)
          clear hn
          simp only [h30] at hK
          have f0' := bkeep hb f0
          clear f0
          go_simp
          exact hK _ _ rfl (Below.refl _ _) (fun h => absurd h (by decide))
        · have h31 : σ 31 = _ := hn 31 (by decide)
          clear hn
          simp only [h31] at hK
          go_simp
          exact hK _ _ ⟨W'.heap.size, rfl, by simp [go_sem]⟩ ((Below.refl _ _).alloc (Nat.le_refl _) _) (fun h => absurd h (by decide))
      · intro σ W' hb hR' hF
        have h14 : σ 14 = u5 := hR' 14 (by decide)
        obtain ⟨q, h32, hq⟩ : ∃ q : Nat, σ 32 = .slice (some ⟨q, 0, none⟩) 1 1 ∧ W'.cell? ⟨q, 0, none⟩ = some (.int .u64 z) := hR' 32 (by decide)
        have hown' := own_keep hown hb
        have hsz' : w0.heap.size ≤ W'.heap.size := Nat.le_trans hbase hb.size
        have HM' := Lib.hid (HM.out.keep hb)
        clear hR' hF hown HM x4 c0 c1 e0 f0 hb hbase
        generalize hfx : (l.take k).map (Value.int .u64) = fx at *
        simp only [fill, List.map, Act.put, List.setIfInBounds_toArray, List.set_cons_zero, List.set_cons_succ, List.length_cons, List.length_nil, List.drop_succ_cons, List.drop_zero, Nat.reduceAdd, h14, h32]
        go_wp2_with (at_builtin; refine wpList_append_own _ rfl _ _ 26 rfl w0.heap.size 46 i0 (.int .u64 0) 1 8 Try.underlying26 hi hz0 hz1 hz2 rfl (by decide) _ _ _ rfl hown' ⟨q, 0, none⟩ 1 1 [.int .u64 z] rfl rfl ?c1 ?c2 ?c3 ?c4 ?c5 ?_)
        case c1 => exact one_src hq
        case c2 => first | rfl | (intro u hu; simp at hu; subst hu; rfl)
        case c3 => unfold maxLen; omega
        case c4 => omega
        case c5 => exact hsz'
        · intro v' w3 hown2 hgrow _
          have R3 : Hid (MadeU w0 w3 v' (l.take (k + 1))) := Lib.hid (by
            rw [← HZ.out]
            exact ⟨by rw [List.length_append, HTL.out, List.map_append, hfx]; exact hown2, HM'.out.2.grown hgrow HM'.out.2.size (own_ge HM'.out.1)⟩)
          clear hown2 hgrow hown' HM' hfx
          go_wp2
          go_roundw
          case rel => exact ⟨k + 1, hkM, by go_num, R3.out⟩
          case measure => simp [intOf]; omega
    · obtain rfl : k = A.bounds.length := by omega
      rw [← hLl, List.take_length] at hM
      obtain ⟨a5, c5, rfl, hrow⟩ := hM.told
      have hfr : ∀ x, a5 = some x → w.heap.size ≤ x.block := fun x hx => Nat.le_trans HB0.out.size (own_ge hM.1 x.block (by rw [hx]; rfl))
      have HBE := Lib.hid (bthen HB0.out hM.2)
      have HROW := Lib.hid hrow
      clear hM hrow
      go_wp2_with fail
      go_ret
      exact ⟨HBE.out, a5, c5, rfl, HROW.out, hfr⟩
end Go.Proofs.Ytjcgakmhpblanaa
