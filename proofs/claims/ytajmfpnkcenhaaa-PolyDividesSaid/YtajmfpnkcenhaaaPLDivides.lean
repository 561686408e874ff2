/-
  The walk of PolyDivides: it answers true, where the program's calls do what is asked of them. (Written by gen_plaw_divides.py.)
-/
import Derived.Test.YtajmfpnkcenhaaaPolyNwt
import Derived.Test.YtajmfpnkcenhaaaApps
import Derived.Test.YtajmfpnkcenhaaaFlat
namespace Go.Proofs.Ytajmfpnkcenhaaa
open Go.RowKit Go.Sort Go.BigFrame
set_option linter.unusedVariables false

def DivVal (v7 v8 : Value) (b off n cp k : Nat) (z0 z1 z2 z3 : Int) (sl : Nat) : Value :=
  match sl with
  | 36 => v7
  | 37 => .slice (some ⟨b, off, none⟩) n cp
  | 38 => .int .i64 k
  | 39 => .pointer (some ⟨b, off + k * 4, none⟩)
  | 40 => .pointer (some ⟨b, off + k * 4, none⟩)
  | 41 => .agg #[.int .u64 z0, .int .u64 z1]
  | 44 => v8
  | 45 => .slice (some ⟨b, off, none⟩) n cp
  | 46 => .int .i64 k
  | 47 => .pointer (some ⟨b, off + k * 4, none⟩)
  | 48 => .pointer (some ⟨b, off + k * 4 + 2, none⟩)
  | _ => .agg #[.int .u64 z2, .int .u64 z3]

def dxs (z : Nat → Int) (k : Nat) : List (Int × Int) := (List.range k).map fun i => (z (i * 4), z (i * 4 + 1))
def dys (z : Nat → Int) (k : Nat) : List (Int × Int) := (List.range k).map fun i => (z (i * 4 + 2), z (i * 4 + 3))
def dns (z : Nat → Int) (k : Nat) : List Int := (List.range k).map fun i => z (i * 4)
theorem dxs_len (z : Nat → Int) (k : Nat) : (dxs z k).length = k := by simp [dxs]
theorem dys_len (z : Nat → Int) (k : Nat) : (dys z k).length = k := by simp [dys]
theorem dns_len (z : Nat → Int) (k : Nat) : (dns z k).length = k := by simp [dns]
theorem dxs_succ (z : Nat → Int) (k : Nat) : dxs z k ++ [(z (k * 4), z (k * 4 + 1))] = dxs z (k + 1) := by unfold dxs; rw [List.range_succ, List.map_append]; rfl
theorem dys_succ (z : Nat → Int) (k : Nat) : dys z k ++ [(z (k * 4 + 2), z (k * 4 + 3))] = dys z (k + 1) := by unfold dys; rw [List.range_succ, List.map_append]; rfl
theorem dns_succ (z : Nat → Int) (k : Nat) : dns z k ++ [z (k * 4)] = dns z (k + 1) := by unfold dns; rw [List.range_succ, List.map_append]; rfl
theorem dxs_u {z : Nat → Int} {n : Nat} (h : ∀ j, j < n * 4 → U (z j)) : ∀ x ∈ dxs z n, U x.1 ∧ U x.2 := fun x hx => by
  obtain ⟨i, hi, rfl⟩ := List.mem_map.1 hx
  have := List.mem_range.1 hi
  exact ⟨h _ (by omega), h _ (by omega)⟩
theorem dys_u {z : Nat → Int} {n : Nat} (h : ∀ j, j < n * 4 → U (z j)) : ∀ x ∈ dys z n, U x.1 ∧ U x.2 := fun x hx => by
  obtain ⟨i, hi, rfl⟩ := List.mem_map.1 hx
  have := List.mem_range.1 hi
  exact ⟨h _ (by omega), h _ (by omega)⟩
theorem dns_u {z : Nat → Int} {n : Nat} (h : ∀ j, j < n * 4 → U (z j)) : ∀ x ∈ dns z n, U x := fun x hx => by
  obtain ⟨i, hi, rfl⟩ := List.mem_map.1 hx
  have := List.mem_range.1 hi
  exact h _ (by omega)
def DivUp (w : World) (z : Nat → Int) (n : Nat) (v7 v8 v9 i : Value) (W : World) : Prop :=
  ∃ k : Nat, k ≤ n ∧ i = .int .i64 k ∧ MadeQ w W v7 (dxs z k) ∧ MadeQ w W v8 (dys z k) ∧ MadeU w W v9 (dns z k) ∧ ∀ j, v7.ownBlock = some j → v8.ownBlock ≠ some j
/-- A slice of elements of q cells, by a letter for its address. -/
theorem IsFlat.at {q : Nat} {w : World} {a : Option Addr} {len cap : Nat} {z : Nat → Int} (h : IsFlat .u64 q w a len cap z) : (∀ j, j < len * q → U (z j)) ∧ ∀ j, j < len * q → ∃ b off : Nat, a = some ⟨b, off, none⟩ ∧ w.cell? ⟨b, off + j, none⟩ = some (.int .u64 (z j)) := by
  rcases h with ⟨rfl, rfl, rfl⟩ | ⟨x, rfl, hl, hm, hc⟩
  · exact ⟨fun j hj => by omega, fun j hj => by omega⟩
  · refine ⟨fun j hj => U_wf (hc j hj).2, fun j hj => ?_⟩
    have h1 := (hc j hj).1
    obtain ⟨b, off, spot⟩ := x
    have hspot : spot = none := by simpa [Addr.add] using World.cell?_spot (hc 0 (by omega)).1
    subst hspot
    rw [Addr.add_lit] at h1
    exact ⟨b, off, rfl, h1⟩

set_option maxRecDepth 100000 in
set_option maxHeartbeats 16000000 in
theorem pdivides_body (hA : AskPoly) (aw : ∀ W, Calls Try.prog 9 #[] W fun e w' => e = .returned (.bool true) ∧ Below W.heap.size W w') (a : Option Addr) (la ca : Nat) (l : List F2) (x0 x1 : Int) (x : F2) (c : Option Addr) (n cp : Nat) (z : Nat → Int) (w : World) (h1 : Poly w (.slice a la ca) l) (hx : Rep x0 x1 x) (h2 : IsFlat .u64 4 w c n cp z) :
    Calls Try.prog 4 #[.slice a la ca, .agg #[.int .u64 x0, .int .u64 x1], .slice c n cp] w fun e w' => e = .returned (.bool true) ∧ Below w.heap.size w w' := by
  obtain ⟨i0, hi, hz0, hz1, hz2⟩ := info_parts infoQ5
  obtain ⟨i1, ki, kz0, kz1, kz2⟩ := info_parts info64'
  have e1 := h1.at.1
  obtain ⟨hu, hc2⟩ := h2.at
  by_cases hc : la ≤ 30 ∧ n ≤ 10
  · obtain ⟨l1, l2⟩ := hc
    have HC := Lib.hid hc2; have HU := Lib.hid hu
    have HP1 := Lib.hid h1; have HLL := Lib.hid e1
    have n1 : (la : Int) ≤ 30 := by omega
    have n2 : (n : Int) ≤ 10 := by omega
    clear hc2 hu h1 h2 e1
    go_enter Try.func4, Try.ntmps4
    go_upto_region 6 with fail
    refine wp_gen (fun W => Below w.heap.size w W ∧ Var W w.heap.size x0 x1) ⟨(Below.refl _ _).alloc (Nat.le_refl _) _, Var.new _ _ _ _⟩ ?_
    rintro W1 ⟨hB1, hX1⟩
    have HB1 := Lib.hid hB1; have HX1 := Lib.hid hX1
    clear hB1 hX1
    go_loopw [7, 8, 9, 10] (fun v7 v8 v9 i W => DivUp W1 z n v7 v8 v9 i W) (fun _ _ _ i _ => n - (intOf i).toNat)
    case atStart => exact ⟨0, Nat.zero_le _, rfl, MadeQ.start W1, MadeQ.start W1, MadeU.start W1, fun j hj => by simp [Value.ownBlock] at hj⟩
    case round =>
      obtain ⟨k, hk, rfl, h7, h8, h9, hap⟩ := hrel
      by_cases hlt : k < n
      · obtain ⟨b, off, rfl, g0⟩ := HC.out (k * 4) (by omega)
        obtain ⟨b', off', he, g1⟩ := HC.out (k * 4 + 1) (by omega)
        cases he
        obtain ⟨b', off', he, g2⟩ := HC.out (k * 4 + 2) (by omega)
        cases he
        obtain ⟨b', off', he, g3⟩ := HC.out (k * 4 + 3) (by omega)
        cases he
        have hk1 : (k : Int) < (n : Int) := by omega
        have hk0 : (0 : Int) ≤ (k : Int) := by omega
        have SX := Lib.hid (dxs_succ z k); have SY := Lib.hid (dys_succ z k); have SN := Lib.hid (dns_succ z k)
        have G0 := Lib.hid (bkeep HB1.out g0); have G1 := Lib.hid (bkeep HB1.out g1); have G2 := Lib.hid (bkeep HB1.out g2); have G3 := Lib.hid (bkeep HB1.out g3)
        rw [← Nat.add_assoc] at G1 G2 G3
        rw [show off + k * 4 + 3 = off + k * 4 + 2 + 1 by omega] at G3
        clear g0 g1 g2 g3
        generalize z (k * 4) = z0 at *
        generalize z (k * 4 + 1) = z1 at *
        generalize z (k * 4 + 2) = z2 at *
        generalize z (k * 4 + 3) = z3 at *
        go_upto_region 8 with fail
        have hdw := (Below.refl wr.heap.size wr).drew
        have hX8 := h7.keep hdw; have hY8 := h8.keep hdw; have hN8 := h9.keep hdw
        refine wp_lay [(36, []), (37, []), (38, []), (39, [37, 38]), (40, [39]), (41, [40]), (42, [41]), (43, [36, 42]), (44, []), (45, []), (46, []), (47, [45, 46]), (48, [47]), (49, [48]), (50, [49]), (51, [44, 50])]
          (Apps W1 42 43 7 50 51 8 u7 u8 u9 (dxs z k) (dys z k) (z0, z1) (z2, z3) (dns z k) [36, 37, 38, 39, 40, 41, 44, 45, 46, 47, 48, 49] (DivVal u7 u8 b off n cp k z0 z1 z2 z3)) (by kernel_rfl) (by kernel_rfl) (fun σ => Apps.start (w := W1) hX8 hY8 hN8 hap σ) ?_ ?_
        · refine opsw_cons ?_ (opsw_cons ?_ (opsw_cons ?_ (opsw_cons ?_ (opsw_cons ?_ (opsw_cons ?_ (opsw_cons ?_ (opsw_cons ?_ (opsw_cons ?_ (opsw_cons ?_ (opsw_cons ?_ (opsw_cons ?_ (opsw_cons ?_ (opsw_cons ?_ (opsw_cons ?_ (opsw_cons ?_ opsw_nil)))))))))))))))
          all_goals
            refine OpRunsW.any ?_
            intro Q0 D σ W K hW hd hn hK
            simp only [fill, List.map, Act.put, List.setIfInBounds_toArray, List.set_cons_zero, List.set_cons_succ] at hK ⊢
          · have HW := Lib.hid hW
            clear hW
            go_simp
            exact hK _ _ (HW.out.next (Below.refl _ _) hd (by decide) rfl)
          · have HW := Lib.hid hW
            clear hW
            go_simp
            exact hK _ _ (HW.out.next (Below.refl _ _) hd (by decide) rfl)
          · have HW := Lib.hid hW
            clear hW
            go_simp
            exact hK _ _ (HW.out.next (Below.refl _ _) hd (by decide) rfl)
          · have h37 : σ 37 = _ := hW.sv 37 (by decide) (hn 37 (by decide))
            have h38 : σ 38 = _ := hW.sv 38 (by decide) (hn 38 (by decide))
            unfold DivVal at h37 h38
            simp only [h37, h38] at hK
            have HW := Lib.hid hW
            clear hW
            go_simp
            exact hK _ _ (HW.out.next (Below.refl _ _) hd (by decide) rfl)
          · have h39 : σ 39 = _ := hW.sv 39 (by decide) (hn 39 (by decide))
            unfold DivVal at h39
            simp only [h39] at hK
            have HW := Lib.hid hW
            clear hW
            go_simp
            exact hK _ _ (HW.out.next (Below.refl _ _) hd (by decide) rfl)
          · have h40 : σ 40 = _ := hW.sv 40 (by decide) (hn 40 (by decide))
            unfold DivVal at h40
            simp only [h40] at hK
            have g0' := bkeep hW.rx.2 G0.out
            have g1' := bkeep hW.rx.2 G1.out
            have HW := Lib.hid hW
            clear hW
            go_simp
            exact hK _ _ (HW.out.next (Below.refl _ _) hd (by decide) rfl)
          · have h41 : σ 41 = _ := hW.sv 41 (by decide) (hn 41 (by decide))
            unfold DivVal at h41
            simp only [h41] at hK
            have HW := Lib.hid hW
            clear hW
            go_simp
            exact hK _ _ (HW.out.lay1 _ hd (by decide) (by decide))
          · have h36 : σ 36 = _ := hW.sv 36 (by decide) (hn 36 (by decide))
            unfold DivVal at h36
            obtain ⟨g, h42, hv, hg1, hg2⟩ := hW.n1 (hn 42 (by decide)) hd
            simp only [h36, h42] at hK ⊢
            rw [if_pos (by rfl)]
            have hm := hW.rx
            unfold curV curL at hm
            rw [hd, if_neg (by decide), if_neg (by decide)] at hm
            refine wp_append_own_at (.tmp 36) (.tmp 42) 22 (by rfl) W1.heap.size 25 i0 (.agg #[.int .u64 0, .int .u64 0]) 2 16 Try.underlying22 hi hz0 hz1 hz2 rfl (by decide) u7 _ _ (by rfl) hm.1 ⟨g, 0, none⟩ 1 1 [.int .u64 z0, .int .u64 z1] (by rfl) rfl (two_src hv.1 hv.2.1) (by intro u hu; simp at hu; rcases hu with rfl | rfl <;> rfl) (by rw [dxs_len]; unfold maxLen; omega) (by rw [dxs_len]; omega) hm.2.size ?_
            intro v' w' hown hgr hat
            exact hK _ _ (hW.app1 (by decide) hd (by decide) (by decide) hown hgr hat)
          · have HW := Lib.hid hW
            clear hW
            go_simp
            exact hK _ _ (HW.out.next (Below.refl _ _) hd (by decide) rfl)
          · have HW := Lib.hid hW
            clear hW
            go_simp
            exact hK _ _ (HW.out.next (Below.refl _ _) hd (by decide) rfl)
          · have HW := Lib.hid hW
            clear hW
            go_simp
            exact hK _ _ (HW.out.next (Below.refl _ _) hd (by decide) rfl)
          · have h45 : σ 45 = _ := hW.sv 45 (by decide) (hn 45 (by decide))
            have h46 : σ 46 = _ := hW.sv 46 (by decide) (hn 46 (by decide))
            unfold DivVal at h45 h46
            simp only [h45, h46] at hK
            have HW := Lib.hid hW
            clear hW
            go_simp
            exact hK _ _ (HW.out.next (Below.refl _ _) hd (by decide) rfl)
          · have h47 : σ 47 = _ := hW.sv 47 (by decide) (hn 47 (by decide))
            unfold DivVal at h47
            simp only [h47] at hK
            have HW := Lib.hid hW
            clear hW
            go_simp
            exact hK _ _ (HW.out.next (Below.refl _ _) hd (by decide) rfl)
          · have h48 : σ 48 = _ := hW.sv 48 (by decide) (hn 48 (by decide))
            unfold DivVal at h48
            simp only [h48] at hK
            have g2' := bkeep hW.rx.2 G2.out
            have g3' := bkeep hW.rx.2 G3.out
            have HW := Lib.hid hW
            clear hW
            go_simp
            exact hK _ _ (HW.out.next (Below.refl _ _) hd (by decide) rfl)
          · have h49 : σ 49 = _ := hW.sv 49 (by decide) (hn 49 (by decide))
            unfold DivVal at h49
            simp only [h49] at hK
            have HW := Lib.hid hW
            clear hW
            go_simp
            exact hK _ _ (HW.out.turn.lay1 _ hd (by decide) (by decide)).turn
          · have h44 : σ 44 = _ := hW.sv 44 (by decide) (hn 44 (by decide))
            unfold DivVal at h44
            obtain ⟨g, h50, hv, hg1, hg2⟩ := hW.n2 (hn 50 (by decide)) hd
            simp only [h44, h50] at hK ⊢
            rw [if_pos (by rfl)]
            have hm := hW.ry
            unfold curV curL at hm
            rw [hd, if_neg (by decide), if_neg (by decide)] at hm
            refine wp_append_own_at (.tmp 44) (.tmp 50) 22 (by rfl) W1.heap.size 25 i0 (.agg #[.int .u64 0, .int .u64 0]) 2 16 Try.underlying22 hi hz0 hz1 hz2 rfl (by decide) u8 _ _ (by rfl) hm.1 ⟨g, 0, none⟩ 1 1 [.int .u64 z2, .int .u64 z3] (by rfl) rfl (two_src hv.1 hv.2.1) (by intro u hu; simp at hu; rcases hu with rfl | rfl <;> rfl) (by rw [dys_len]; unfold maxLen; omega) (by rw [dys_len]; omega) hm.2.size ?_
            intro v' w' hown hgr hat
            exact hK _ _ (hW.turn.app1 (by decide) hd (by decide) (by decide) hown hgr hat).turn
        · intro D σ W hW hD
          have d43 : D 43 = true := hD 43 (by decide)
          have d51 : D 51 = true := hD 51 (by decide)
          obtain ⟨rx, ry, rn, hap', _, _, _, _, _⟩ := hW
          unfold curV curL at rx ry
          unfold curV at hap'
          simp only [d43, d51, if_true] at rx ry hap'
          rw [SX.out] at rx
          rw [SY.out] at ry
          generalize hs43 : σ 43 = v43 at *
          generalize hs51 : σ 51 = v51 at *
          have hlen : (dns z k).length ≤ 10 := by rw [dns_len]; omega
          have HRX := Lib.hid rx; have HRY := Lib.hid ry; have HAP := Lib.hid hap'
          have HBW : Hid (Below W1.heap.size W1 W) := Lib.hid rn.2
          have q0 := bkeep HBW.out G0.out
          have HT := Lib.hid (fun w1 v' => @MadeU.step W1 W w1 u9 v' (dns z k) z0 rn)
          have HNX : Hid (∀ W2 v' (o : Obj), (W.alloc o).grownBy W2 u9.ownBlock → W2.ownsRow W1.heap.size 23 1 v' ((dns z k).length + 1) ((dns z k).map (Value.int .u64) ++ [.int .u64 z0]) → MadeQ W1 W2 v43 (dxs z (k + 1)) ∧ MadeQ W1 W2 v51 (dys z (k + 1))) := Lib.hid (fun W2 v' o hg ho => by
            have hg' : W.grownBy W2 u9.ownBlock := World.grownBy.trans (World.grownBy_alloc W o _) hg
            exact ⟨rx.kept hg' (own_unlike rx.1 rn.1 (by decide)) (own_ge rn.1), ry.kept hg' (own_unlike ry.1 rn.1 (by decide)) (own_ge rn.1)⟩)
          have hown := rn.1
          have hsz := rn.2.size
          clear rx ry hap' rn hD h7 h8 h9 hap hX8 hY8 hN8 hdw
          generalize (dns z k).length = nn at *
          generalize (dns z k).map (Value.int .u64) = cs at *
          simp only [fill, List.map, Act.put, List.setIfInBounds_toArray, List.set_cons_zero, List.set_cons_succ, List.length_cons, List.length_nil, List.drop_succ_cons, List.drop_zero, Nat.reduceAdd, hs43, hs51]
          go_wp2_with (at_builtin; refine wpList_append_own _ rfl _ _ 35 rfl W1.heap.size 23 i1 (.int .u64 0) 1 8 Try.underlying35 ki kz0 kz1 kz2 rfl (by decide) _ _ _ rfl (hown.alloc _) ⟨W.heap.size, 0, none⟩ 1 1 [.int .u64 z0] rfl rfl ?c1 ?c2 ?c3 ?c4 ?c5 ?_)
          case c2 => first | rfl | (intro u hu; simp at hu; subst hu; rfl)
          case c3 => unfold maxLen; omega
          case c4 => omega
          case c5 => first | omega | (simp; omega)
          · intro v' W2 hown' hgrow _
            have R := Lib.hid (HT.out W2 v' _ hown' hgrow)
            have RQ := Lib.hid (HNX.out W2 v' _ hgrow hown')
            clear hown' hgrow hown HT HNX q0
            go_wp2_with fail
            go_roundw
            case rel => exact ⟨k + 1, by omega, by go_num, RQ.out.1, RQ.out.2, by rw [← SN.out]; exact R.out, HAP.out⟩
            case measure => simp [intOf]; omega
      · have hkn : k = n := by omega
        subst hkn
        have hk3 : ¬ (k : Int) < (k : Int) := by omega
        have UX := dxs_u HU.out; have UY := dys_u HU.out; have UN := dns_u HU.out
        have lX := dxs_len z k; have lY := dys_len z k; have lN := dns_len z k
        obtain ⟨a7, c7, hv7, r7⟩ := h7.row
        obtain ⟨a8, c8, hv8, r8⟩ := h8.row
        obtain ⟨a9, c9, hv9, r9⟩ := h9.row
        have HO7 := Lib.hid h7.1
        have HB := Lib.hid h7.2
        have p7 : Poly wr u7 ((dxs z k).map toQ) := ⟨_, by rw [hv7]; exact r7, UX, rfl⟩
        have p8 : Poly wr u8 ((dys z k).map toQ) := ⟨_, by rw [hv8]; exact r8, UY, rfl⟩
        have p9 : Row wr u9 (dns z k) := by rw [hv9]; exact r9
        have HLX : Hid (((dxs z k).map toQ).length = k) := Lib.hid (by rw [List.length_map]; exact lX)
        have HLY : Hid (((dys z k).map toQ).length = k) := Lib.hid (by rw [List.length_map]; exact lY)
        have HLN := Lib.hid lN
        have k1 := fun W (hb : Below wr.heap.size wr W) => hA.divide _ l x0 x1 x W (HP1.out.keep (bthen (bthen HB1.out HB.out) hb)) hx (by have := HLL.out; omega)
        have k2 := fun W (hb : Below wr.heap.size wr W) => ddivide _ l x0 x1 x W (HP1.out.keep (bthen (bthen HB1.out HB.out) hb)) hx (by have := HLL.out; omega)
        have k3 := fun W (hb : Below wr.heap.size wr W) => hA.through u7 u8 _ _ W (p7.keep hb) (p8.keep hb) (by rw [HLX.out]; omega) (by rw [HLY.out]; omega)
        have k4 := fun W (hb : Below wr.heap.size wr W) => dthrough u7 u8 _ _ W (p7.keep hb) (p8.keep hb) (by rw [HLX.out]; omega) (by rw [HLY.out]; omega)
        have k6 := fun W (hb : Below wr.heap.size wr W) => hA.lift u9 (dns z k) W (p9.below hb) UN (by omega)
        have k7 := fun W (hb : Below wr.heap.size wr W) => dlift u9 (dns z k) W (p9.below hb) UN (by omega)
        have HQ7 : Hid (QRow wr u7 (dxs z k)) := Lib.hid (by rw [hv7]; exact r7)
        have HP8 := Lib.hid p8
        have T3 : Hid (∀ W v', Below wr.heap.size wr W → Poly W v' (x :: (dxs z k).map toQ) → Calls Try.prog 25 #[v', u8] W fun e w' => ∃ v, e = .returned (.tuple #[v, .bool false]) ∧ Below W.heap.size W w') := Lib.hid (fun W v' hb hp => by
          have := hA.through v' u8 _ _ W hp (HP8.out.keep hb) (by rw [List.length_cons, HLX.out]; omega) (by rw [HLY.out]; omega)
          refine this.mono fun e w' hr => ?_
          obtain ⟨v, h1, h2, _⟩ := hr
          rw [thrB_len (by rw [List.length_cons, HLX.out, HLY.out]; omega)] at h1
          exact ⟨v, h1, h2⟩)
        have hX := HX1.out.keep HB.out
        have HBB := Lib.hid (bthen HB1.out HB.out)
        have A1 := fun W (hb : Below wr.heap.size wr W) => aw W
        have HXR : Hid (toQ (x0, x1) = x) := Lib.hid (F2.eq hx.2.2.1 hx.2.2.2)
        have HXU : Hid (U x0 ∧ U x1) := Lib.hid ⟨hx.1, hx.2.1⟩
        have HXS : Hid (∀ n ∈ dxs z k, U n.1 ∧ U n.2) := Lib.hid UX
        have hkl : (dxs z k).length ≤ 10 := by rw [lX]; exact l2
        unfold RetD at k1 k2
        unfold RetT at k3 k4
        clear h7 h8 h9 hap hlt hk UX UY UN lX lY lN hv7 hv8 hv9 r7 r8 r9 p7 p8 p9 HB hk3 HO7
        generalize hlq : divP l x = lq at *
        generalize atP l x = r at *
        generalize hll : liftL (dns z k) = ll at *
        clear hlq hll
        generalize hDX : dxs z k = DX at *
        clear hDX
        obtain ⟨X, hXX⟩ : ∃ X, DX.map toQ = X := ⟨_, rfl⟩
        rw [hXX] at k3 k4 HLX T3
        have HDXX := Lib.hid hXX
        clear hXX
        generalize (dys z k).map toQ = Y at *
        generalize hlt0 : thrL X Y = lt at *
        generalize hbt0 : thrB X Y = bt at *
        clear hlt0 hbt0
        have HX := Lib.hid hX
        obtain ⟨xc0, xc1, _, _⟩ := hX
        have K1 := k1 wr (Below.refl _ _)
        clear k1
        go_upto_region 11 with (go_at_call 23; ((with_reducible refine K1.mono ?_); rintro e Wa ⟨v11, rfl, hb, hp⟩; clear K1))
        refine wp_gen (fun W => Below wr.heap.size wr W ∧ Var W w.heap.size x0 x1 ∧ IsP W v11 lq ∧ Var W Wa.heap.size (enc r.a) (enc r.b)) ⟨hb.alloc hb.size _, (HX.out.keep hb).alloc _, hp.keep ((Below.refl _ _).alloc (Nat.le_refl _) _), Var.new _ _ _ _⟩ ?_
        clear hb hp HX xc0 xc1
        rintro W2 ⟨hB, hX, h11, hR⟩
        generalize Wa.heap.size = ga at *
        have K2 := k2 W2 hB
        have HX := Lib.hid hX; have HB := Lib.hid hB; have H11 := Lib.hid h11; have HR := Lib.hid hR
        obtain ⟨xc0, xc1, _, _⟩ := hX
        clear k2 hB h11 hR
        go_upto_region 12 with (go_at_call 24; ((with_reducible refine K2.mono ?_); rintro e Wb ⟨v13, rfl, hb, hp⟩; clear K2))
        refine wp_gen (fun W => Below wr.heap.size wr W ∧ Var W w.heap.size x0 x1 ∧ IsP W v11 lq ∧ Var W ga (enc r.a) (enc r.b) ∧ IsP W v13 lq ∧ Var W Wb.heap.size (enc r.a) (enc r.b)) ⟨(bthen HB.out hb).alloc (bthen HB.out hb).size _, (HX.out.keep hb).alloc _, (H11.out.keep hb).keep ((Below.refl _ _).alloc (Nat.le_refl _) _), (HR.out.keep hb).alloc _, hp.keep ((Below.refl _ _).alloc (Nat.le_refl _) _), Var.new _ _ _ _⟩ ?_
        clear hb hp HX HB H11 HR xc0 xc1
        rintro W3 ⟨hB, hX, h11, hR, h13, hR2⟩
        generalize Wb.heap.size = gb at *
        have HX := Lib.hid hX; have HB := Lib.hid hB; have H11 := Lib.hid h11; have HR := Lib.hid hR; have H13 := Lib.hid h13; have HR2 := Lib.hid hR2
        have K3 := k3 W3 hB
        have K4 := fun W hb => k4 W (bthen HB.out hb)
        clear k3 k4 hB hX h11 hR h13 hR2
        go_upto_region 14 with (first
          | (go_at_call 25; ((with_reducible refine K3.mono ?_); rintro e Wc ⟨v15, rfl, hb1, hp1⟩; have K4' := K4 Wc hb1; clear K3 K4))
          | (go_at_call 26; ((with_reducible refine K4'.mono ?_); rintro e Wd ⟨v17, rfl, hb2, hp2⟩; clear K4')))
        have hbb := bthen hb1 hb2
        refine wp_gen (fun W => Below wr.heap.size wr W ∧ Var W w.heap.size x0 x1 ∧ IsP W v11 lq ∧ Var W ga (enc r.a) (enc r.b) ∧ IsP W v13 lq ∧ Var W gb (enc r.a) (enc r.b) ∧ IsP W v15 lt ∧ IsP W v17 lt) ⟨bthen HB.out hbb, HX.out.keep hbb, H11.out.keep hbb, HR.out.keep hbb, H13.out.keep hbb, HR2.out.keep hbb, hp1.keep hb2, hp2⟩ ?_
        clear hb1 hb2 hbb hp1 hp2 HX HB H11 HR H13 HR2
        rintro W4 ⟨hB, hX, h11, hR, h13, hR2, h15, h17⟩
        have hQ7 := HQ7.out.keep hB
        have HB := Lib.hid hB; have H11 := Lib.hid h11; have HR := Lib.hid hR; have H13 := Lib.hid h13; have HR2 := Lib.hid hR2; have H15 := Lib.hid h15; have H17 := Lib.hid h17
        obtain ⟨xc0, xc1, _, _⟩ := hX
        have hbA := (Below.refl W4.heap.size W4).alloc (Nat.le_refl _) (.cells #[.int .u64 x0, .int .u64 x1] 25)
        have hQ7' := hQ7.keep hbA
        have hown : (W4.alloc (.cells #[.int .u64 x0, .int .u64 x1] 25)).ownsRow W4.heap.size 25 2 (.slice (some ⟨W4.heap.size, 0, none⟩) 1 1) 1 [.int .u64 x0, .int .u64 x1] := World.ownsRow_lit W4 #[.int .u64 x0, .int .u64 x1] 1 (Nat.le_refl _) (by unfold maxLen; omega) rfl
        have hbsz : W4.heap.size ≤ (W4.alloc (.cells #[.int .u64 x0, .int .u64 x1] 25)).heap.size := by simp
        have HT4 : Hid (∀ v' W5, W5.ownsRow W4.heap.size 25 2 v' (1 + DX.length) ([.int .u64 x0, .int .u64 x1] ++ flat DX) → (W4.alloc (.cells #[.int .u64 x0, .int .u64 x1] 25)).grownBy W5 (Value.slice (some ⟨W4.heap.size, 0, none⟩) 1 1).ownBlock → Below W4.heap.size W4 W5 ∧ Poly W5 v' (x :: X)) := Lib.hid (fun v' W5 ho hg => by
          have hbw : Below W4.heap.size W4 W5 := hbA.grown hg hbsz (fun q hq => by simp [Value.ownBlock] at hq; omega)
          have hm : MadeQ W4 W5 v' ((x0, x1) :: DX) := ⟨by rw [List.length_cons, Nat.add_comm]; exact ho, hbw⟩
          obtain ⟨aa, cc, hv, hrow⟩ := hm.row
          refine ⟨hbw, (x0, x1) :: DX, by rw [hv]; exact hrow, fun y hy => ?_, ?_⟩
          · rcases List.mem_cons.1 hy with rfl | hy
            · exact HXU.out
            · exact HXS.out y hy
          · rw [List.map_cons, HXR.out, HDXX.out])
        clear hB h11 hR h13 hR2 h15 h17 hQ7 hbA
        go_wp2_with (at_builtin; refine wpList_append_q rfl _ _ 22 rfl W4.heap.size 25 i0 (.agg #[.int .u64 0, .int .u64 0]) 16 Try.underlying22 hi hz0 hz1 hz2 rfl _ 1 [.int .u64 x0, .int .u64 x1] rfl hown u7 DX rfl hQ7' (by unfold maxLen; omega) (by omega) hbsz ?_)
        intro v' W5 ho hg
        obtain ⟨hb5, hp5⟩ := HT4.out v' W5 ho hg
        have K5 := T3.out W5 v' (bthen HB.out hb5) hp5
        replace HB := Lib.hid (bthen HB.out hb5); replace H11 := Lib.hid (H11.out.keep hb5); replace HR := Lib.hid (HR.out.keep hb5); replace H13 := Lib.hid (H13.out.keep hb5); replace HR2 := Lib.hid (HR2.out.keep hb5); replace H15 := Lib.hid (H15.out.keep hb5); replace H17 := Lib.hid (H17.out.keep hb5)
        clear ho hg hb5 hp5 HT4 hown hQ7' hbsz xc0 xc1 T3
        go_upto_region 15 with (go_at_call 25; ((with_reducible refine K5.mono ?_); rintro e W6 ⟨v19, rfl, hb⟩; clear K5))
        refine wp_gen (fun W => Below wr.heap.size wr W ∧ IsP W v11 lq ∧ Var W ga (enc r.a) (enc r.b) ∧ IsP W v13 lq ∧ Var W gb (enc r.a) (enc r.b) ∧ IsP W v15 lt ∧ IsP W v17 lt) ⟨bthen HB.out hb, H11.out.keep hb, HR.out.keep hb, H13.out.keep hb, HR2.out.keep hb, H15.out.keep hb, H17.out.keep hb⟩ ?_
        clear hb HB H11 HR H13 HR2 H15 H17
        rintro W8 ⟨hB, h11, hR, h13, hR2, h15, h17⟩
        have HB := Lib.hid hB
        have AW8 := aw W8
        have S1 := fun W (hb : Below W8.heap.size W8 W) => sameP v11 v13 lq W (h11.keep hb) (h13.keep hb)
        have S2 := fun W (hb : Below W8.heap.size W8 W) => sameP v15 v17 lt W (h15.keep hb) (h17.keep hb)
        have K6 := fun W (hb : Below W8.heap.size W8 W) => k6 W (bthen HB.out hb)
        have K7 := fun W (hb : Below W8.heap.size W8 W) => k7 W (bthen HB.out hb)
        obtain ⟨r0, r1, _, _⟩ := hR
        obtain ⟨q0, q1, _, _⟩ := hR2
        clear k6 k7 hB h11 h13 h15 h17 A1
        go_wp2_with (first
          | (go_at_call 9; ((with_reducible refine AW8.mono ?_); rintro e Wa ⟨rfl, hba⟩; have s1 := S1 Wa hba; clear AW8 S1))
          | (go_at_call 10; ((with_reducible refine s1.mono ?_); rintro e Wb ⟨rfl, hbb⟩; have hB2 := bthen hba hbb; replace r0 := bkeep hB2 r0; replace r1 := bkeep hB2 r1; replace q0 := bkeep hB2 q0; replace q1 := bkeep hB2 q1; have s2 := S2 Wb hB2; clear s1 S2))
          | (go_at_call 10; ((with_reducible refine s2.mono ?_); rintro e Wc ⟨rfl, hbc⟩; have hB3 := bthen hB2 hbc; have k6' := K6 Wc hB3; clear s2 K6 r0 r1 q0 q1))
          | (go_at_call 27; ((with_reducible refine k6'.mono ?_); rintro e Wd ⟨v6, rfl, hbd, hpd⟩; have hB4 := bthen hB3 hbd; have k7' := K7 Wd hB4; clear k6' K7))
          | (go_at_call 28; ((with_reducible refine k7'.mono ?_); rintro e We ⟨v7, rfl, hbe, hpe⟩; have hB5 := bthen hB4 hbe; have s3 := sameP v6 v7 ll We (hpd.keep hbe) hpe; clear k7' hpd hpe))
          | (go_at_call 10; ((with_reducible refine s3.mono ?_); rintro e Wf ⟨rfl, hbf⟩; have HBE := Lib.hid (bthen HBB.out (bthen HB.out (bthen hB5 hbf))); clear s3)))
        go_ret
        exact ⟨rfl, HBE.out⟩
  · clear h1 hx hA h2 hu hc2 e1
    by_cases c1 : la ≤ 30
    · have c2 : 10 < n := by omega
      clear hc
      go_enter Try.func4, Try.ntmps4
      go_wp2_with (go_at_call 9; ((with_reducible refine (aw _).mono ?_); rintro e w1 ⟨rfl, hb⟩; have HB := Lib.hid (((Below.refl w.heap.size w).alloc (Nat.le_refl _) _).trans (hb.mono (by simp))); clear hb))
      go_ret
      exact ⟨rfl, HB.out⟩
    · have c2 : 30 < la := by omega
      clear hc
      go_enter Try.func4, Try.ntmps4
      go_wp2_with (go_at_call 9; ((with_reducible refine (aw _).mono ?_); rintro e w1 ⟨rfl, hb⟩; have HB := Lib.hid (((Below.refl w.heap.size w).alloc (Nat.le_refl _) _).trans (hb.mono (by simp))); clear hb))
      go_ret
      exact ⟨rfl, HB.out⟩
end Go.Proofs.Ytajmfpnkcenhaaa
