/-
  The program's end, of a sum under way. (Written by gen_bgend.py.)
-/
import Derived.Test.YtajjfonodfncmaaDoorBGSum
namespace Go.Proofs.YtajjfonodfncmaaDoor
open Go Go.RowKit
set_option linter.unusedVariables false

def EndR1 (g k off : Nat) (sl : Nat) (v : Value) (W : World) : Prop :=
  match sl with
  | 6 => v = .pointer (some ⟨g, 0, none⟩)
  | 7 => v = .pointer (some ⟨g, 0, none⟩)
  | 8 => v = .pointer (some ⟨g, 8, none⟩)
  | 9 => v = .pointer (some ⟨g, 0, none⟩)
  | 10 => v = .pointer (some ⟨g, 0, none⟩)
  | 11 => v = .pointer (some ⟨g, 72, none⟩)
  | 12 => v = .int .i64 k
  | _ => v = .slice (some ⟨g, off, none⟩) (64 - k) (64 - k)
theorem EndR1.keep {g k off : Nat} {sl : Nat} {v : Value} {W W' : World} (h : EndR1 g k off sl v W) (hb : Below W.heap.size W W') : EndR1 g k off sl v W' := h
def EndR3 (g : Nat) (n : Int) (x b h2 : Nat → Int) (sl : Nat) (v : Value) (W : World) : Prop :=
  match sl with
  | 14 => v = .pointer (some ⟨g, 0, none⟩)
  | 15 => v = .pointer (some ⟨g, 0, none⟩)
  | 16 => v = .pointer (some ⟨g, 0, none⟩)
  | 17 => v = .agg (cellsA 8 (w32 x))
  | 18 => v = .pointer (some ⟨g, 0, none⟩)
  | 19 => v = .pointer (some ⟨g, 0, none⟩)
  | 20 => v = .pointer (some ⟨g, 8, none⟩)
  | 21 => v = .agg (cellsA 64 (w8 b))
  | 22 => v = .pointer (some ⟨g, 0, none⟩)
  | 23 => v = .pointer (some ⟨g, 0, none⟩)
  | 24 => v = .pointer (some ⟨g, 73, none⟩)
  | 25 => v = .int .u64 n
  | 26 => v = .agg (cellsA 8 (w32 h2))
  | _ => v = .int .i64 0
theorem EndR3.keep {g : Nat} {n : Int} {x b h2 : Nat → Int} {sl : Nat} {v : Value} {W W' : World} (h : EndR3 g n x b h2 sl v W) (hb : Below W.heap.size W W') : EndR3 g n x b h2 sl v W' := h

def outV (h : Nat → Int) (n : Nat) : List Value := (List.range n).map fun j => .int .u8 (outI h j)
theorem outV_next (h : Nat → Int) (i : Nat) : outV h (4 * i) ++ [.int .u8 (h i % 256), .int .u8 (h i / 256 % 256), .int .u8 (h i / 65536 % 256), .int .u8 (h i / 16777216 % 256)] = outV h (4 * (i + 1)) := by
  unfold outV
  rw [show 4 * (i + 1) = 4 * i + 1 + 1 + 1 + 1 by omega, List.range_succ, List.range_succ, List.range_succ, List.range_succ]
  simp only [List.map_append, List.map_cons, List.map_nil, List.append_assoc, List.cons_append, List.nil_append]
  have e0 : outI h (4 * i) = h i % 256 := by unfold outI; rw [show 4 * i / 4 = i by omega, show 4 * i % 4 = 0 by omega]; simp
  have e1 : outI h (4 * i + 1) = h i / 256 % 256 := by unfold outI; rw [show (4 * i + 1) / 4 = i by omega, show (4 * i + 1) % 4 = 1 by omega]; simp
  have e2 : outI h (4 * i + 1 + 1) = h i / 65536 % 256 := by unfold outI; rw [show (4 * i + 1 + 1) / 4 = i by omega, show (4 * i + 1 + 1) % 4 = 2 by omega]; rfl
  have e3 : outI h (4 * i + 1 + 1 + 1) = h i / 16777216 % 256 := by unfold outI; rw [show (4 * i + 1 + 1 + 1) / 4 = i by omega, show (4 * i + 1 + 1 + 1) % 4 = 3 by omega]; rfl
  rw [e0, e1, e2, e3]
theorem four_src {W : World} {t : TypeId} (b0 b1 b2 b3 : Int) : ∀ j u, [Value.int .u8 b0, .int .u8 b1, .int .u8 b2, .int .u8 b3][j]? = some u → (W.alloc (.cells #[.int .u8 b0, .int .u8 b1, .int .u8 b2, .int .u8 b3] t)).cell? ((⟨W.heap.size, 0, none⟩ : Addr).add j) = some u := by
  intro j u hu
  rcases j with _ | _ | _ | _ | j <;> simp at hu <;> subst hu <;> simp [go_sem]
theorem info8 : (Tryd.prog.info? 5).map (fun i => (i.zero, i.size, i.bytes)) = some (some (.int .u8 0), 1, 1) := by kernel_rfl
def EndLoop (W2 : World) (h : Nat → Int) (i x : Value) (W : World) : Prop := ∃ j : Nat, j ≤ 8 ∧ i = .int .i64 j ∧ W.ownsRow W2.heap.size 5 1 x (4 * j) (outV h (4 * j)) ∧ Below W2.heap.size W2 W
theorem own_out {W : World} {base : Nat} {e : TypeId} {x : Value} {h : Nat → Int} (ho : W.ownsRow base e 1 x 32 (outV h 32)) : ∃ g c : Nat, x = .slice (some ⟨g, 0, none⟩) 32 c ∧ ∀ i, i < 32 → W.cell? ⟨g, 0 + i, none⟩ = some (.int .u8 (((List.range 32).map (outI h)).getD i 0)) := by
  rcases ho.2 with ⟨_, h0⟩ | ⟨g, cap, cur, rfl, hb, hg, hnc, hcm, hcs, htake⟩
  · omega
  · refine ⟨g, cap, rfl, fun i hi => ?_⟩
    rw [Nat.zero_add, cell_of_row _ _ _ _ _ _ hg]
    have h1 : (outV h 32)[i]? = some (.int .u8 (outI h i)) := by simp [outV, hi]
    rw [← htake, Nat.mul_one, List.getElem?_take_of_lt hi] at h1
    have h2 : ((List.range 32).map (outI h)).getD i 0 = outI h i := by simp [List.getD, hi]
    rw [h2]
    simpa using h1
theorem sumC_clr2 (h b : Nat → Int) (k off : Nat) (n x : Int) (hk : k ≤ 64) (ho : off = 8 + k ∨ k = 64) (j : Nat) (hj : j < 74) : cop (sumC h b x n) off (List.replicate (64 - k) (.int .u8 0)) j = sumC h (bclr b k) x n j := by
  rcases ho with rfl | rfl
  · exact sumC_clr h b k n x hk j hj
  · rw [← sumC_clr h b 64 n x hk j hj]
    show cop _ off [] j = cop _ _ [] j
    rw [cop_nil, cop_nil]
set_option maxRecDepth 100000 in
set_option maxHeartbeats 8000000 in
theorem gend_is (s : ByteArray) (g : Nat) (hs : s.size ≤ 1000000) (hg1 : g ≠ 0) (hg2 : g ≠ 1) (w : World) (hT : TabB w) (hS : SumSt s g s.size w) :
    Calls Tryd.prog 12 #[.pointer (some ⟨g, 0, none⟩)] w fun e w' => e = .returned (.string (sumB s)) ∧ But g w w' := by
  have HT := Lib.hid hT
  obtain ⟨i0, hi, hz0, hz1, hz2⟩ := info_parts info8
  obtain ⟨q, k, b, hS, hpos⟩ := hS
  have hk := hS.held
  have hat := hS.at_
  have hnb : nbl s = q := nbl_is (by omega) (by omega)
  have kp := gpress_is (hseq s q) (blkOf s (64 * q)) s.size true (blkOf_bytes _ _) ⟨by omega, by omega⟩
  have hkp : press (hseq s q) (blkOf s (64 * q)) s.size true = hend s := by unfold hend; rw [hnb]
  rw [hkp] at kp
  have ck := (hS.arr 72 (by decide)).1
  rw [sumC_k] at ck
  obtain ⟨O, hO⟩ : ∃ O, sumB s = O := ⟨_, rfl⟩
  rw [hO]
  have HO := Lib.hid hO
  have HA := Lib.hid hS.arr; have HS := Lib.hid hS
  have HB := Lib.hid (But.refl g w)
  have HH := Lib.hid (fun j hj => sumC_h (hseq s q) (bclr b k) k s.size j hj)
  have HBB := Lib.hid hS.last
  have HC : Hid (∀ off, (off = 8 + k ∨ k = 64) → ∀ j, j < 74 → cop (sumC (hseq s q) b k s.size) off (List.replicate (64 - k) (.int .u8 0)) j = sumC (hseq s q) (bclr b k) k s.size j) := Lib.hid (fun off ho j hj => sumC_clr2 _ _ k off _ _ hk ho j hj)
  have HN := Lib.hid (sumC_n (hseq s q) (bclr b k) k s.size)
  obtain ⟨off, hoff, hoff2, hoff3⟩ : ∃ off, (if 64 = k then (⟨g, 8, none⟩ : Addr) else ⟨g, 8 + k, none⟩) = ⟨g, off, none⟩ ∧ (off = 8 + k ∨ k = 64) ∧ off + (64 - k) ≤ 74 := by
    by_cases h64 : 64 = k
    · exact ⟨8, by rw [if_pos h64], Or.inr h64.symm, by omega⟩
    · exact ⟨8 + k, by rw [if_neg h64], Or.inl rfl, by omega⟩
  have HSL : Hid (Value.slice (some (if 64 = k then (⟨g, 8, none⟩ : Addr) else ⟨g, 8 + k, none⟩)) (64 - k) (64 - k) = Value.slice (some ⟨g, off, none⟩) (64 - k) (64 - k)) := Lib.hid (by rw [hoff])
  have hkI : (k : Int) ≤ 64 := by omega
  have HSB := Lib.hid (show sumB s = strOfNums ((List.range 32).map (outI (hend s))) from rfl)
  clear hkp hnb hat hT hO hS hpos hoff
  generalize hF : sumC (hseq s q) b k s.size = F at *
  generalize hF2 : sumC (hseq s q) (bclr b k) k s.size = F2 at *
  generalize hend s = h2 at *
  generalize hseq s q = h at *
  generalize blkOf s (64 * q) = bb at *
  clear hF hF2
  go_enter Tryd.func12, Tryd.ntmps12
  go_upto_region 1 with fail
  refine wp_loose [(6, []), (7, [6]), (8, [7]), (9, []), (10, [9]), (11, [10]), (12, [11]), (13, [8, 12])]
    (EndR1 g k off) (fun d => false) (by kernel_rfl) (by kernel_rfl) (fun _ _ _ _ h hb => h.keep hb) ?_ ?_
  · refine opsrun_cons ?_ (opsrun_cons ?_ (opsrun_cons ?_ (opsrun_cons ?_ (opsrun_cons ?_ (opsrun_cons ?_ (opsrun_cons ?_ (opsrun_cons ?_ opsrun_nil)))))))
    all_goals
      refine OpRuns.any ?_
      intro Q0 σ W' K hb hn hK
      simp only [fill, List.map, Act.put, List.setIfInBounds_toArray, List.set_cons_zero, List.set_cons_succ] at hK ⊢
    · clear hn
      go_simp
      exact hK _ _ rfl (Below.refl _ _) (fun h => absurd h (by decide))
    · have h6 : σ 6 = _ := hn 6 (by decide)
      clear hn
      simp only [h6] at hK
      go_simp
      exact hK _ _ rfl (Below.refl _ _) (fun h => absurd h (by decide))
    · have h7 : σ 7 = _ := hn 7 (by decide)
      clear hn
      simp only [h7] at hK
      go_simp
      exact hK _ _ rfl (Below.refl _ _) (fun h => absurd h (by decide))
    · clear hn
      go_simp
      exact hK _ _ rfl (Below.refl _ _) (fun h => absurd h (by decide))
    · have h9 : σ 9 = _ := hn 9 (by decide)
      clear hn
      simp only [h9] at hK
      go_simp
      exact hK _ _ rfl (Below.refl _ _) (fun h => absurd h (by decide))
    · have h10 : σ 10 = _ := hn 10 (by decide)
      clear hn
      simp only [h10] at hK
      go_simp
      exact hK _ _ rfl (Below.refl _ _) (fun h => absurd h (by decide))
    · have h11 : σ 11 = _ := hn 11 (by decide)
      clear hn
      simp only [h11] at hK
      have ck' := bkeep hb ck
      clear ck
      go_simp
      exact hK _ _ rfl (Below.refl _ _) (fun h => absurd h (by decide))
    · have h8 : σ 8 = _ := hn 8 (by decide)
      have h12 : σ 12 = _ := hn 12 (by decide)
      clear hn
      simp only [h8, h12] at hK
      go_simp
      exact hK _ _ HSL.out (Below.refl _ _) (fun h => absurd h (by decide))
  intro σ W' hb hR' hF
  have h13 : σ 13 = _ := hR' 13 (by decide)
  replace HB := Lib.hid (HB.out.then hb); replace HA := Lib.hid (HA.out.keep hb)
  clear hR' hF hb ck HSL HS
  simp only [fill, List.map, Act.put, List.setIfInBounds_toArray, List.set_cons_zero, List.set_cons_succ, List.length_cons, List.length_nil, List.drop_succ_cons, List.drop_zero, Nat.reduceAdd, h13]
  clear h13
  go_upto_region 2 with (refine wpList_clear_arr rfl _ 41 rfl 5 (.int .u8 0) rfl (by kernel_rfl) rfl rfl g 74 off (64 - k) (64 - k) rfl _ HA.out hoff3 ?_; intro W5 HB5 HA5)
  refine wp_gen (fun W => But g w W ∧ Arr W g 74 F2) ⟨HB.out.trans HB5.out, HA5.out.same fun j hj => HC.out off hoff2 j hj⟩ ?_
  clear HB HA HC
  rintro W6 ⟨hB, hA⟩
  have cn := (hA 73 (by decide)).1
  rw [HN.out] at cn
  have HT2 := Lib.hid (HT.out.but hB hg1 hg2)
  have HB := Lib.hid hB; have HA := Lib.hid hA
  clear hB hA HN
  go_upto_region 3 with fail
  refine wp_loose [(14, []), (15, [14]), (16, [15]), (17, [16]), (18, []), (19, [18]), (20, [19]), (21, [20]), (22, []), (23, [22]), (24, [23]), (25, [24]), (26, [17, 21, 25]), (27, [])]
    (EndR3 g s.size h bb h2) (fun d => false) (by kernel_rfl) (by kernel_rfl) (fun _ _ _ _ h hb => h.keep hb) ?_ ?_
  · refine opsrun_cons ?_ (opsrun_cons ?_ (opsrun_cons ?_ (opsrun_cons ?_ (opsrun_cons ?_ (opsrun_cons ?_ (opsrun_cons ?_ (opsrun_cons ?_ (opsrun_cons ?_ (opsrun_cons ?_ (opsrun_cons ?_ (opsrun_cons ?_ (opsrun_cons ?_ (opsrun_cons ?_ opsrun_nil)))))))))))))
    all_goals
      refine OpRuns.any ?_
      intro Q0 σ W' K hb hn hK
      simp only [fill, List.map, Act.put, List.setIfInBounds_toArray, List.set_cons_zero, List.set_cons_succ] at hK ⊢
    · clear hn
      go_simp
      exact hK _ _ rfl (Below.refl _ _) (fun h => absurd h (by decide))
    · have h14 : σ 14 = _ := hn 14 (by decide)
      clear hn
      simp only [h14] at hK
      go_simp
      exact hK _ _ rfl (Below.refl _ _) (fun h => absurd h (by decide))
    · have h15 : σ 15 = _ := hn 15 (by decide)
      clear hn
      simp only [h15] at hK
      go_simp
      exact hK _ _ rfl (Below.refl _ _) (fun h => absurd h (by decide))
    · have h16 : σ 16 = _ := hn 16 (by decide)
      clear hn
      simp only [h16] at hK
      simp only [h16]
      rw [if_pos]
      · refine wp_pieceA 27 26 _ rfl g 0 74 8 F2 (w32 h) rfl (HA.out.keep hb) (by decide) (fun j hj => HH.out j hj) (by kernel_rfl) (by kernel_rfl) ?_
        exact hK _ _ rfl (Below.refl _ _) (fun h => absurd h (by decide))
      · rfl
    · clear hn
      go_simp
      exact hK _ _ rfl (Below.refl _ _) (fun h => absurd h (by decide))
    · have h18 : σ 18 = _ := hn 18 (by decide)
      clear hn
      simp only [h18] at hK
      go_simp
      exact hK _ _ rfl (Below.refl _ _) (fun h => absurd h (by decide))
    · have h19 : σ 19 = _ := hn 19 (by decide)
      clear hn
      simp only [h19] at hK
      go_simp
      exact hK _ _ rfl (Below.refl _ _) (fun h => absurd h (by decide))
    · have h20 : σ 20 = _ := hn 20 (by decide)
      clear hn
      simp only [h20] at hK
      simp only [h20]
      rw [if_pos]
      · refine wp_pieceA 28 5 _ rfl g 8 74 64 F2 (w8 bb) rfl (HA.out.keep hb) (by decide) (fun j hj => HBB.out j hj) (by kernel_rfl) (by kernel_rfl) ?_
        exact hK _ _ rfl (Below.refl _ _) (fun h => absurd h (by decide))
      · rfl
    · clear hn
      go_simp
      exact hK _ _ rfl (Below.refl _ _) (fun h => absurd h (by decide))
    · have h22 : σ 22 = _ := hn 22 (by decide)
      clear hn
      simp only [h22] at hK
      go_simp
      exact hK _ _ rfl (Below.refl _ _) (fun h => absurd h (by decide))
    · have h23 : σ 23 = _ := hn 23 (by decide)
      clear hn
      simp only [h23] at hK
      go_simp
      exact hK _ _ rfl (Below.refl _ _) (fun h => absurd h (by decide))
    · have h24 : σ 24 = _ := hn 24 (by decide)
      clear hn
      simp only [h24] at hK
      have cn' := bkeep hb cn
      clear cn
      go_simp
      exact hK _ _ rfl (Below.refl _ _) (fun h => absurd h (by decide))
    · have h17 : σ 17 = _ := hn 17 (by decide)
      have h21 : σ 21 = _ := hn 21 (by decide)
      have h25 : σ 25 = _ := hn 25 (by decide)
      clear hn
      simp only [h17, h21, h25] at hK
      go_simp
      go_at_call 9
      refine (kp _ (HT2.out.keep hb)).mono ?_
      rintro e w1 ⟨rfl, hb1⟩
      exact hK _ _ rfl hb1 (fun h => absurd h (by decide))
    · clear hn
      go_simp
      exact hK _ _ rfl (Below.refl _ _) (fun h => absurd h (by decide))
  intro σ W' hb hR' hF
  have h26 : σ 26 = _ := hR' 26 (by decide)
  have h27 : σ 27 = _ := hR' 27 (by decide)
  replace HB := Lib.hid (HB.out.then hb)
  clear hR' hF hb cn HT2 HA
  simp only [fill, List.map, Act.put, List.setIfInBounds_toArray, List.set_cons_zero, List.set_cons_succ, List.length_cons, List.length_nil, List.drop_succ_cons, List.drop_zero, Nat.reduceAdd, h26, h27]
  clear h26 h27
  go_upto_region 4 with fail
  go_loopw [27, 3] (EndLoop W' h2) (fun i _ _ => 8 - (intOf i).toNat)
  case atStart => exact ⟨0, by decide, rfl, World.ownsRow_nil _ _ _ _, Below.refl _ _⟩
  case round =>
    obtain ⟨i, hi8', rfl, hown, hbe⟩ := hrel
    by_cases hlt : i < 8
    · have hi8 : (i : Int) < 8 := by omega
      have hsz := hbe.size
      have HV := Lib.hid (outV_next h2 i)
      have HE := Lib.hid hbe; have HW := Lib.hid hown
      have hge := own_ge hown
      have HG := Lib.hid hge
      clear hbe hge
      generalize outV h2 (4 * i) = cs at *
      go_upto_region 6 with (refine wpList_indexA rfl 27 26 _ _ rfl 8 _ .i64 i rfl rfl hlt (by kernel_rfl) (by kernel_rfl) (by kernel_rfl) ?_)
      simp only [w32]
      generalize h2 i = x at *
      go_upto_region 7 with (at_builtin; refine wpList_append_own _ rfl _ _ 41 rfl W'.heap.size 5 i0 (.int .u8 0) 1 1 Tryd.underlying41 hi hz0 hz1 hz2 rfl (by decide) _ _ _ rfl (hown.alloc _) ⟨wr.heap.size, 0, none⟩ 4 4 [.int .u8 (x % 256), .int .u8 (x / 256 % 256), .int .u8 (x / 65536 % 256), .int .u8 (x / 16777216 % 256)] rfl rfl ?c1 ?c2 ?c3 ?c4 ?c5 ?_)
      case c1 => exact four_src _ _ _ _
      case c2 => intro u hu; simp at hu; rcases hu with rfl | rfl | rfl | rfl <;> rfl
      case c3 => unfold maxLen; omega
      case c4 => omega
      case c5 => simp; omega
      · intro v' w1 hown' hgrow _
        rw [HV.out] at hown'
        have hB2 : Below W'.heap.size W' w1 := (HE.out.alloc hsz _).grown hgrow (by simp; omega) HG.out
        clear hgrow hown HV HE HW HG
        go_wp2
        go_roundw
        case rel => exact ⟨i + 1, by omega, by go_num, hown', hB2⟩
        case measure => simp [intOf]; omega
    · obtain rfl : i = 8 := by omega
      obtain ⟨gg, cc, rfl, hcell⟩ := own_out hown
      have hcv := run_convert_bytes_arg (P := Tryd.prog) wr 41 5 rfl rfl gg 0 32 cc ((List.range 32).map (outI h2)) (by simp) hcell 9 rfl
      rw [← HSB.out, HO.out] at hcv
      clear hcell hown
      go_wp2_with fail
      go_ret
      exact ⟨rfl, HB.out.then hbe⟩
end Go.Proofs.YtajjfonodfncmaaDoor
