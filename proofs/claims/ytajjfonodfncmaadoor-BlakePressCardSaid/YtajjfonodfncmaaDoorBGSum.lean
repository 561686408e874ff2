/-
  The program's write and end, of a sum under way. (Written by gen_bgsum.py.)
-/
import Derived.Test.YtajjfonodfncmaaDoorBGSumM
import Derived.Test.YtajjfonodfncmaaDoorBGPress
import Derived.Test.YtajjfonodfncmaaDoorOwn
namespace Go.Proofs.YtajjfonodfncmaaDoor
open Go Go.RowKit
set_option linter.unusedVariables false

def WriteR2 (g : Nat) (n : Int) (x b h2 : Nat → Int) (sl : Nat) (v : Value) (W : World) : Prop :=
  match sl with
  | 13 => v = .pointer (some ⟨g, 0, none⟩)
  | 14 => v = .pointer (some ⟨g, 0, none⟩)
  | 15 => v = .pointer (some ⟨g, 0, none⟩)
  | 16 => v = .pointer (some ⟨g, 0, none⟩)
  | 17 => v = .agg (cellsA 8 (w32 x))
  | 18 => v = .pointer (some ⟨g, 0, none⟩)
  | 19 => v = .pointer (some ⟨g, 0, none⟩)
  | 20 => v = .pointer (some ⟨g, 8, none⟩)
  | 21 => v = .agg (cellsA 64 (w8 b))
  | 22 => v = .pointer (some ⟨g, 0, none⟩)
  | 23 => v = .pointer (some ⟨g, 0, none⟩)
  | 24 => v = .pointer (some ⟨g, 73, none⟩)
  | 25 => v = .int .u64 n
  | 26 => v = .agg (cellsA 8 (w32 h2))
  | 27 => v = .pointer (some ⟨g, 0, none⟩)
  | _ => v = .pointer (some ⟨g, 0, none⟩)
theorem WriteR2.keep {g : Nat} {n : Int} {x b h2 : Nat → Int} {sl : Nat} {v : Value} {W W' : World} (h : WriteR2 g n x b h2 sl v W) (hb : Below W.heap.size W W') : WriteR2 g n x b h2 sl v W' := h
def WriteR4 (g k : Nat) (T : ByteArray) (sl : Nat) (v : Value) (W : World) : Prop :=
  match sl with
  | 32 => v = .pointer (some ⟨g, 0, none⟩)
  | 33 => v = .pointer (some ⟨g, 0, none⟩)
  | 34 => v = .pointer (some ⟨g, 8, none⟩)
  | 35 => v = .pointer (some ⟨g, 0, none⟩)
  | 36 => v = .pointer (some ⟨g, 0, none⟩)
  | 37 => v = .pointer (some ⟨g, 72, none⟩)
  | 38 => v = .int .i64 k
  | 39 => v = .slice (some ⟨g, 8 + k, none⟩) (64 - k) (64 - k)
  | _ => v = .string T
theorem WriteR4.keep {g k : Nat} {T : ByteArray} {sl : Nat} {v : Value} {W W' : World} (h : WriteR4 g k T sl v W) (hb : Below W.heap.size W W') : WriteR4 g k T sl v W' := h

theorem cast_64 : ((64 : Nat) : Int) = 64 := rfl
def szT : Value → Nat
  | .string s => s.size
  | _ => 0
/-- write under way: what is left of the text. -/
def WrLoop (w : World) (s : ByteArray) (g pe : Nat) (x : Value) (W : World) : Prop :=
  ∃ (T : ByteArray) (p : Nat), x = .string T ∧ (∀ i, i < T.size → byt T i = byt s (p + i)) ∧ p + T.size = pe ∧ But g w W ∧ SumSt s g p W
set_option maxRecDepth 100000 in
set_option maxHeartbeats 8000000 in
theorem gwrite_is (s t : ByteArray) (g p : Nat) (ht : ∀ i, i < t.size → byt t i = byt s (p + i)) (hp : p + t.size ≤ s.size) (hs : s.size ≤ 1000000) (hg1 : g ≠ 0) (hg2 : g ≠ 1) (w : World) (hT : TabB w) (hS : SumSt s g p w) :
    Calls Tryd.prog 11 #[.pointer (some ⟨g, 0, none⟩), .string t] w fun e w' => e = .returned (.tuple #[]) ∧ But g w w' ∧ SumSt s g (p + t.size) w' := by
  have HT := Lib.hid hT
  have H0 : Hid (WrLoop w s g (p + t.size) (.string t) w) := Lib.hid ⟨t, p, rfl, ht, rfl, But.refl _ _, hS⟩
  generalize hpe : p + t.size = pe at *
  clear ht hT hS
  go_enter Tryd.func11, Tryd.ntmps11
  go_upto_region 0 with fail
  go_loopw [1] (WrLoop w s g pe) (fun x _ => szT x)
  case atStart => exact H0.out
  case round =>
    clear H0 hpe p t
    obtain ⟨T, p, rfl, hT, hpe, hBut, q, k, b, hS, hpos⟩ := hrel
    by_cases hlt : 0 < T.size
    · have hl1 : (0 : Int) < (T.size : Int) := by omega
      have HB := Lib.hid hBut; have HS := Lib.hid hS
      have ck := (hS.arr 72 (by decide)).1
      rw [sumC_k] at ck
      have hk := hS.held
      have HBT := Lib.hid hT
      have ltg := hS.arr.lt (by decide)
      clear hBut hS hT
      go_upto_if 12 with fail
      go_cut [1] (fun x W => x = .string T ∧ But g w W ∧ ∃ (q k : Nat) (b : Nat → Int), SumC s g p q k b W ∧ k < 64)
      case first =>
        by_cases h64 : k = 64
        · subst h64
          have HH := Lib.hid (fun j hj => sumC_h (hseq s q) b (64 : Nat) p j hj)
          have HBB := Lib.hid HS.out.full
          have cn := (HS.out.arr 73 (by decide)).1
          rw [sumC_n] at cn
          have hat := HS.out.at_
          have hple := HS.out.le
          have hnp : (p : Int) = 64 * (q : Int) + 64 := by omega
          have kp := gpress_is (hseq s q) (blkOf s (64 * q)) p false (blkOf_bytes _ _) ⟨by omega, by omega⟩
          have hkp : press (hseq s q) (blkOf s (64 * q)) p false = hseq s (q + 1) := by
            show _ = press (hseq s q) (blkOf s (64 * q)) (64 * ((q : Int) + 1)) false
            rw [show 64 * ((q : Int) + 1) = (p : Int) by omega]
          rw [hkp] at kp
          have HA := Lib.hid HS.out.arr
          have HT2 := Lib.hid (HT.out.but HB.out hg1 hg2)
          have HE := Lib.hid (fun j hj => sumC_seth (hseq s q) b (hseq s (q + 1)) (64 : Nat) p j hj)
          have HAT := Lib.hid hat
          clear hkp hnp hat
          simp only [cast_64] at *
          generalize hF : sumC (hseq s q) b 64 p = F at *
          generalize hh2 : hseq s (q + 1) = h2 at *
          have HQ := Lib.hid hh2
          clear hh2
          generalize hseq s q = h at *
          generalize blkOf s (64 * q) = bb at *
          clear hF
          go_upto_region 2 with fail
          refine wp_loose [(13, []), (14, []), (15, [14]), (16, [15]), (17, [16]), (18, []), (19, [18]), (20, [19]), (21, [20]), (22, []), (23, [22]), (24, [23]), (25, [24]), (26, [17, 21, 25]), (27, [13]), (28, [27])]
            (WriteR2 g p h bb h2) (fun d => false) (by kernel_rfl) (by kernel_rfl) (fun _ _ _ _ h hb => h.keep hb) ?_ ?_
          · refine opsrun_cons ?_ (opsrun_cons ?_ (opsrun_cons ?_ (opsrun_cons ?_ (opsrun_cons ?_ (opsrun_cons ?_ (opsrun_cons ?_ (opsrun_cons ?_ (opsrun_cons ?_ (opsrun_cons ?_ (opsrun_cons ?_ (opsrun_cons ?_ (opsrun_cons ?_ (opsrun_cons ?_ (opsrun_cons ?_ (opsrun_cons ?_ opsrun_nil)))))))))))))))
            all_goals
              refine OpRuns.any ?_
              intro Q0 σ W' K hb hn hK
              simp only [fill, List.map, Act.put, List.setIfInBounds_toArray, List.set_cons_zero, List.set_cons_succ] at hK ⊢
            · clear hn
              go_simp
              exact hK _ _ rfl (Below.refl _ _) (fun h => absurd h (by decide))
            · clear hn
              go_simp
              exact hK _ _ rfl (Below.refl _ _) (fun h => absurd h (by decide))
            · have h14 : σ 14 = _ := hn 14 (by decide)
              clear hn
              simp only [h14] at hK
              go_simp
              exact hK _ _ rfl (Below.refl _ _) (fun h => absurd h (by decide))
            · have h15 : σ 15 = _ := hn 15 (by decide)
              clear hn
              simp only [h15] at hK
              go_simp
              exact hK _ _ rfl (Below.refl _ _) (fun h => absurd h (by decide))
            · have h16 : σ 16 = _ := hn 16 (by decide)
              clear hn
              simp only [h16] at hK
              simp only [h16]
              rw [if_pos]
              · refine wp_pieceA 27 26 _ rfl g 0 74 8 F (w32 h) rfl (HA.out.keep hb) (by decide) (fun j hj => HH.out j hj) (by kernel_rfl) (by kernel_rfl) ?_
                exact hK _ _ rfl (Below.refl _ _) (fun h => absurd h (by decide))
              · rfl
            · clear hn
              go_simp
              exact hK _ _ rfl (Below.refl _ _) (fun h => absurd h (by decide))
            · have h18 : σ 18 = _ := hn 18 (by decide)
              clear hn
              simp only [h18] at hK
              go_simp
              exact hK _ _ rfl (Below.refl _ _) (fun h => absurd h (by decide))
            · have h19 : σ 19 = _ := hn 19 (by decide)
              clear hn
              simp only [h19] at hK
              go_simp
              exact hK _ _ rfl (Below.refl _ _) (fun h => absurd h (by decide))
            · have h20 : σ 20 = _ := hn 20 (by decide)
              clear hn
              simp only [h20] at hK
              simp only [h20]
              rw [if_pos]
              · refine wp_pieceA 28 5 _ rfl g 8 74 64 F (w8 bb) rfl (HA.out.keep hb) (by decide) (fun j hj => HBB.out j hj) (by kernel_rfl) (by kernel_rfl) ?_
                exact hK _ _ rfl (Below.refl _ _) (fun h => absurd h (by decide))
              · rfl
            · clear hn
              go_simp
              exact hK _ _ rfl (Below.refl _ _) (fun h => absurd h (by decide))
            · have h22 : σ 22 = _ := hn 22 (by decide)
              clear hn
              simp only [h22] at hK
              go_simp
              exact hK _ _ rfl (Below.refl _ _) (fun h => absurd h (by decide))
            · have h23 : σ 23 = _ := hn 23 (by decide)
              clear hn
              simp only [h23] at hK
              go_simp
              exact hK _ _ rfl (Below.refl _ _) (fun h => absurd h (by decide))
            · have h24 : σ 24 = _ := hn 24 (by decide)
              clear hn
              simp only [h24] at hK
              have cn' := bkeep hb cn
              clear cn
              go_simp
              exact hK _ _ rfl (Below.refl _ _) (fun h => absurd h (by decide))
            · have h17 : σ 17 = _ := hn 17 (by decide)
              have h21 : σ 21 = _ := hn 21 (by decide)
              have h25 : σ 25 = _ := hn 25 (by decide)
              clear hn
              simp only [h17, h21, h25] at hK
              go_simp
              go_at_call 9
              refine (kp _ (HT2.out.keep hb)).mono ?_
              rintro e w1 ⟨rfl, hb1⟩
              exact hK _ _ rfl hb1 (fun h => absurd h (by decide))
            · have h13 : σ 13 = _ := hn 13 (by decide)
              clear hn
              simp only [h13] at hK
              go_simp
              exact hK _ _ rfl (Below.refl _ _) (fun h => absurd h (by decide))
            · have h27 : σ 27 = _ := hn 27 (by decide)
              clear hn
              simp only [h27] at hK
              go_simp
              exact hK _ _ rfl (Below.refl _ _) (fun h => absurd h (by decide))
          · intro σ W' hb hR' hF
            have h26 : σ 26 = _ := hR' 26 (by decide)
            have h28 : σ 28 = _ := hR' 28 (by decide)
            replace HB := Lib.hid (HB.out.then hb); replace HA := Lib.hid (HA.out.keep hb)
            clear hR' hF hb HT2 cn ck
            simp only [fill, List.map, Act.put, List.setIfInBounds_toArray, List.set_cons_zero, List.set_cons_succ, List.length_cons, List.length_nil, List.drop_succ_cons, List.drop_zero, Nat.reduceAdd, h26, h28]
            clear h26 h28
            go_upto_region 3 with (refine wpList_storePiece rfl 27 _ _ rfl rfl g 0 8 74 F _ rfl rfl HA.out (cellsA_size _ _) (by decide) (by kernel_rfl) (g32_all _ _) ?_)
            refine wp_gen (fun W => But g w W ∧ Arr W g 74 (sumC h2 b 64 p)) ⟨But.cells _ _ _ HB.out, (HA.out.setCells _ 0 (by rw [cellsA_list]; simp)).same HE.out⟩ ?_
            clear HB HA
            rintro W6 ⟨hB, hA⟩
            obtain ⟨ck, fk⟩ := hA 72 (by decide)
            rw [sumC_k] at ck
            have HB := Lib.hid hB; have HA := Lib.hid hA
            clear hB hA
            go_wp2_with fail
            go_meet
            refine ⟨rfl, HB.out.setCell (Or.inl rfl) _, q + 1, 0, b, ⟨by have := HAT.out; omega, hple, by decide, fun j hj => by omega, ?_⟩, by decide⟩
            rw [HQ.out]
            exact (HA.out.set 72 _ (by decide)).same fun j hj => sumC_setk _ _ _ _ _ j hj
        · have hne : ¬ (k : Int) = 64 := by omega
          go_wp2_with fail
          go_meet
          exact ⟨rfl, HB.out, q, k, b, HS.out, by omega⟩
      case rest =>
        clear HB HS ck hk hpos ltg q k b
        obtain ⟨rfl, hB, q, k, b, hS, hk⟩ := hcut
        have ck := (hS.arr 72 (by decide)).1
        rw [sumC_k] at ck
        have HB := Lib.hid hB; have HS := Lib.hid hS; have HA := Lib.hid hS.arr
        have hkI : (k : Int) < 64 := by omega
        have hkJ : (k : Int) ≤ 64 := by omega
        obtain ⟨m, hm⟩ : ∃ m, Nat.min T.size (64 - k) = m := ⟨_, rfl⟩
        have hm1 : m ≤ T.size := by rw [← hm]; exact Nat.min_le_left _ _
        have hm2 : m ≤ 64 - k := by rw [← hm]; exact Nat.min_le_right _ _
        have hm3 : 0 < m := by rw [← hm]; exact Nat.lt_min.2 ⟨hlt, by omega⟩
        have HM := Lib.hid hm
        clear hB hS hm
        have HSL : Hid (Value.slice (some (if 64 = k then ⟨g, 8, none⟩ else ⟨g, 8 + k, none⟩)) (64 - k) (64 - k) = Value.slice (some ⟨g, 8 + k, none⟩) (64 - k) (64 - k)) := Lib.hid (by rw [if_neg (by omega)])
        go_upto_region 4 with fail
        refine wp_loose [(32, []), (33, [32]), (34, [33]), (35, []), (36, [35]), (37, [36]), (38, [37]), (39, [34, 38]), (40, [])]
          (WriteR4 g k T) (fun d => false) (by kernel_rfl) (by kernel_rfl) (fun _ _ _ _ h hb => h.keep hb) ?_ ?_
        · refine opsrun_cons ?_ (opsrun_cons ?_ (opsrun_cons ?_ (opsrun_cons ?_ (opsrun_cons ?_ (opsrun_cons ?_ (opsrun_cons ?_ (opsrun_cons ?_ (opsrun_cons ?_ opsrun_nil))))))))
          all_goals
            refine OpRuns.any ?_
            intro Q0 σ W' K hb hn hK
            simp only [fill, List.map, Act.put, List.setIfInBounds_toArray, List.set_cons_zero, List.set_cons_succ] at hK ⊢
          · clear hn
            go_simp
            exact hK _ _ rfl (Below.refl _ _) (fun h => absurd h (by decide))
          · have h32 : σ 32 = _ := hn 32 (by decide)
            clear hn
            simp only [h32] at hK
            go_simp
            exact hK _ _ rfl (Below.refl _ _) (fun h => absurd h (by decide))
          · have h33 : σ 33 = _ := hn 33 (by decide)
            clear hn
            simp only [h33] at hK
            go_simp
            exact hK _ _ rfl (Below.refl _ _) (fun h => absurd h (by decide))
          · clear hn
            go_simp
            exact hK _ _ rfl (Below.refl _ _) (fun h => absurd h (by decide))
          · have h35 : σ 35 = _ := hn 35 (by decide)
            clear hn
            simp only [h35] at hK
            go_simp
            exact hK _ _ rfl (Below.refl _ _) (fun h => absurd h (by decide))
          · have h36 : σ 36 = _ := hn 36 (by decide)
            clear hn
            simp only [h36] at hK
            go_simp
            exact hK _ _ rfl (Below.refl _ _) (fun h => absurd h (by decide))
          · have h37 : σ 37 = _ := hn 37 (by decide)
            clear hn
            simp only [h37] at hK
            have ck' := bkeep hb ck
            clear ck
            go_simp
            exact hK _ _ rfl (Below.refl _ _) (fun h => absurd h (by decide))
          · have h34 : σ 34 = _ := hn 34 (by decide)
            have h38 : σ 38 = _ := hn 38 (by decide)
            clear hn
            simp only [h34, h38] at hK
            go_simp
            exact hK _ _ HSL.out (Below.refl _ _) (fun h => absurd h (by decide))
          · clear hn
            go_simp
            exact hK _ _ rfl (Below.refl _ _) (fun h => absurd h (by decide))
        · intro σ W' hb hR' hF
          have h39 : σ 39 = _ := hR' 39 (by decide)
          have h40 : σ 40 = _ := hR' 40 (by decide)
          replace HB := Lib.hid (HB.out.then hb); replace HA := Lib.hid (HA.out.keep hb)
          clear hR' hF hb ck HSL
          simp only [fill, List.map, Act.put, List.setIfInBounds_toArray, List.set_cons_zero, List.set_cons_succ, List.length_cons, List.length_nil, List.drop_succ_cons, List.drop_zero, Nat.reduceAdd, h39, h40]
          clear h39 h40
          go_upto_region 5 with (refine wpList_copy_strN rfl _ _ 41 9 rfl 5 (by kernel_rfl) (by kernel_rfl) g 74 (8 + k) (64 - k) (64 - k) m rfl T rfl _ HA.out HM.out (by omega) ?_; intro W5 HB5 HA5)
          refine wp_gen (fun W => But g w W ∧ Arr W g 74 (sumC (hseq s q) (bput b T k m) k p)) ⟨HB.out.trans HB5.out, HA5.out.same fun j hj => sumC_put _ _ _ _ _ _ _ hm1 (by omega) j hj⟩ ?_
          clear HB HA HM hkI hkJ
          rintro W6 ⟨hB, hA⟩
          have HB := Lib.hid hB
          have hple := HS.out.le
          have hpT : p + m ≤ s.size := by omega
          obtain ⟨ck, fk⟩ := hA 72 (by decide)
          rw [sumC_k] at ck
          have HA := Lib.hid hA
          have w1 : IntKind.i64.wrap ((k : Int) + (m : Int)) = ((k + m : Nat) : Int) := by rw [IntWalk.i64_in _ (by omega)]; omega
          clear hB hA hple
          go_upto_region 6 with fail
          refine wp_gen (fun W => But g w W ∧ Arr W g 74 (sumC (hseq s q) (bput b T k m) ((k + m : Nat) : Int) p)) ⟨HB.out.setCell (Or.inl rfl) _, (HA.out.set 72 _ (by decide)).same fun j hj => sumC_setk _ _ _ _ _ j hj⟩ ?_
          clear HB HA ck fk w1
          rintro W7 ⟨hB, hA⟩
          have HB := Lib.hid hB
          obtain ⟨cn, fn⟩ := hA 73 (by decide)
          rw [sumC_n] at cn
          have HA := Lib.hid hA
          have w1 : IntKind.u64.wrap ((p : Int) + (m : Int)) = ((p + m : Nat) : Int) := by rw [IntWalk.u64_in _ (by omega)]; omega
          have w2 : IntKind.u64.wrap (m : Int) = (m : Int) := IntWalk.u64_in _ (by omega)
          clear hB hA
          go_upto_region 7 with fail
          refine wp_gen (fun W => But g w W ∧ SumC s g (p + m) q (k + m) (bput b T k m) W) ⟨HB.out.setCell (Or.inl rfl) _, HS.out.put HBT.out hm1 (by omega) hpT ((HA.out.set 73 _ (by decide)).same fun j hj => sumC_setn _ _ _ _ _ j hj)⟩ ?_
          clear HB HA HS cn fn w1 w2
          rintro W8 ⟨hB, hS⟩
          have hmI : (m : Int) ≤ (T.size : Int) := by omega
          go_wp2_with fail
          go_roundw
          case rel => exact ⟨T.extract m T.size, p + m, rfl, fun i hi => by rw [ByteArray.size_extract] at hi; rw [byt_extract T m T.size i (Nat.le_refl _) (by omega), HBT.out (m + i) (by omega), Nat.add_assoc], by rw [ByteArray.size_extract]; omega, hB, q, k + m, _, hS, Or.inr (by omega)⟩
          case measure => simp [szT]; omega
    · have h0 : T.size = 0 := by omega
      have h0I : ¬ (0 : Int) < (T.size : Int) := by omega
      go_wp2_with fail
      go_end0
      refine ⟨rfl, hBut, ?_⟩
      rw [← hpe, h0, Nat.add_zero]
      exact ⟨q, k, b, hS, hpos⟩
end Go.Proofs.YtajjfonodfncmaaDoor
