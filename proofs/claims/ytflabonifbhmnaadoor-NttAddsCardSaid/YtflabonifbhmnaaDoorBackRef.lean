/-
  What the document's Back of layer 4 comes to: contracts for the walk. (Written by gen_backref.py.)
-/
import Derived.Test.YtflabonifbhmnaaDoorForthRef
namespace Go.Proofs.YtflabonifbhmnaaDoor
open Go.RowKit Go.Sort Go.BigFrame
set_option linter.unusedVariables false

/-- The coefficients of what comes to these values. -/
def backL (zs : List Int) (s : F) (k : Nat) : List Int := (List.range (2 ^ k)).map fun j => enc (bk s k (co zs) j)
theorem backL_len (zs : List Int) (s : F) (k : Nat) : (backL zs s k).length = 2 ^ k := by simp [backL]
theorem backL_at (zs : List Int) (s : F) (k i : Nat) (h : i < 2 ^ k) : (backL zs s k).getD i 0 = enc (bk s k (co zs) i) := by simp [backL, List.getD, h]
theorem backL_U (zs : List Int) (s : F) (k : Nat) : ∀ n ∈ backL zs s k, U n := by
  intro n hn
  simp only [backL, List.mem_map] at hn
  obtain ⟨z, _, rfl⟩ := hn
  exact enc_U _
theorem toF_nat (n : Nat) : toF (n : Int) = nat n := by unfold toF nat; rw [Int.toNat_natCast]

/-- A power of what gives 1 with the root. -/
def wp (k j : Nat) : F := fpow (finv (rootOf k)) j
/-- The row while the j-th one is under way, down to the i-th value. -/
def bin (zs : List Int) (s : F) (k j i : Nat) (m : Nat) : Int := if m < j then (backL zs s k).getD m 0 else if m = j then enc (ho (2 ^ k) (co zs) (wp k j) i) else 0
def BOuter (w : World) (zs : List Int) (s : F) (k g : Nat) (i : Value) (W : World) : Prop :=
  ∃ m : Nat, m ≤ 2 ^ k ∧ i = .int .i64 m ∧ Below w.heap.size w W ∧ Arr W g (2 ^ k) (fun j => .int .u64 (if j < m then (backL zs s k).getD j 0 else 0))
def BInner (w : World) (zs : List Int) (s : F) (k g m : Nat) (j : Value) (W : World) : Prop :=
  ∃ r : Nat, r ≤ 2 ^ k ∧ j = .int .i64 ((r : Int) - 1) ∧ Below w.heap.size w W ∧ Arr W g (2 ^ k) (fun j => .int .u64 (bin zs s k m r j))
theorem bin_start (zs : List Int) (s : F) (k m : Nat) : ∀ j, j < 2 ^ k → (Value.int .u64 (if j < m then (backL zs s k).getD j 0 else 0)) = .int .u64 (bin zs s k m (2 ^ k) j) := by
  intro j hj
  unfold bin
  by_cases h : j < m
  · rw [if_pos h, if_pos h]
  · rw [if_neg h, if_neg h, ho_end]
    by_cases e : j = m
    · rw [if_pos e]; rfl
    · rw [if_neg e]
theorem bin_end {zs : List Int} {s : F} {k m : Nat} {o : Int} (ho' : enc (bk s k (co zs) m) = o) : ∀ j, j < 2 ^ k → (if j = m then Value.int .u64 o else .int .u64 (bin zs s k m 0 j)) = .int .u64 (if j < m + 1 then (backL zs s k).getD j 0 else 0) := by
  intro j hj
  unfold bin
  by_cases e : j = m
  · subst e; rw [if_pos rfl, if_pos (by omega), backL_at zs s k j hj, ho']
  · rw [if_neg e]
    by_cases h : j < m
    · rw [if_pos h, if_pos (by omega)]
    · rw [if_neg h, if_neg e, if_neg (by omega)]
theorem bin_step {zs : List Int} {s : F} {k m r : Nat} {y : Int} (hy : enc (ho (2 ^ k) (co zs) (wp k m) r) = y) : ∀ j, j < 2 ^ k → (if j = m then Value.int .u64 y else .int .u64 (bin zs s k m (r + 1) j)) = .int .u64 (bin zs s k m r j) := by
  intro j hj
  unfold bin
  by_cases e : j = m
  · subst e; rw [if_pos rfl, if_neg (by omega), if_pos rfl, hy]
  · rw [if_neg e]
    by_cases h : j < m
    · rw [if_pos h, if_pos h]
    · rw [if_neg h, if_neg e, if_neg h, if_neg e]
theorem bin_at (zs : List Int) (s : F) (k m r : Nat) : bin zs s k m r m = enc (ho (2 ^ k) (co zs) (wp k m) r) := by unfold bin; rw [if_neg (by omega), if_pos rfl]

/-- What the slots of the drawn regions hold. -/
def BackR (g n m b off len cap i : Nat) (y x t z y' : Int) (sl : Nat) (v : Value) (W : World) : Prop :=
  match sl with
  | 68 => v = .slice (some ⟨g, 0, none⟩) n n
  | 69 => v = .int .i64 m
  | 70 => v = .slice (some ⟨g, 0, none⟩) n n
  | 71 => v = .int .i64 m
  | 72 => v = .pointer (some ⟨g, m, none⟩)
  | 73 => v = .int .u64 y
  | 74 => v = .int .u64 x
  | 75 => v = .int .u64 t
  | 76 => v = .slice (some ⟨b, off, none⟩) len cap
  | 77 => v = .int .i64 i
  | 78 => v = .pointer (some ⟨b, off + i, none⟩)
  | 79 => v = .int .u64 z
  | 80 => v = .int .u64 y'
  | _ => v = .pointer (some ⟨g, m, none⟩)
theorem BackR.keep {g n m b off len cap i : Nat} {y x t z y' : Int} {sl : Nat} {v : Value} {W W' : World} (h : BackR g n m b off len cap i y x t z y' sl v W) (hb : Below W.heap.size W W') : BackR g n m b off len cap i y x t z y' sl v W' := h
def BackR2 (g n m : Nat) (y n' s' p o : Int) (sl : Nat) (v : Value) (W : World) : Prop :=
  match sl with
  | 82 => v = .slice (some ⟨g, 0, none⟩) n n
  | 83 => v = .int .i64 m
  | 84 => v = .slice (some ⟨g, 0, none⟩) n n
  | 85 => v = .int .i64 m
  | 86 => v = .pointer (some ⟨g, m, none⟩)
  | 87 => v = .int .u64 y
  | 88 => v = .int .u64 n'
  | 89 => v = .int .u64 s'
  | 90 => v = .int .i64 m
  | 91 => v = .int .u64 m
  | 92 => v = .int .u64 p
  | 93 => ∃ q : Nat, v = .slice (some ⟨q, 0, none⟩) 3 3 ∧ W.cell? ⟨q, 0, none⟩ = some (.int .u64 y) ∧ W.cell? ⟨q, 1, none⟩ = some (.int .u64 n') ∧ W.cell? ⟨q, 2, none⟩ = some (.int .u64 p)
  | 94 => v = .int .u64 o
  | _ => v = .pointer (some ⟨g, m, none⟩)
theorem BackR2.keep {g n m : Nat} {y n' s' p o : Int} {sl : Nat} {v : Value} {W W' : World} (h : BackR2 g n m y n' s' p o sl v W) (hb : Below W.heap.size W W') : BackR2 g n m y n' s' p o sl v W' := by
  unfold BackR2 at *
  split at h
  all_goals first | exact h | (obtain ⟨q, e, c0, c1, c2⟩ := h; exact ⟨q, e, bkeep hb c0, bkeep hb c1, bkeep hb c2⟩)

set_option maxHeartbeats 8000000 in
theorem refback_yes (a : Option Addr) (len cap : Nat) (zs : List Int) (zi : Int) (hz : U zi) (s : F) (hs : toF zi = s) (hs0 : s ≠ 0) (k : Nat) (hk : k ≤ 20) (w : World) (hr : RowA w a len zs) (hu : ∀ n ∈ zs, U n) (hl : len = 2 ^ k) :
    Calls Tryd.prog 13 #[.slice a len cap, .int .u64 zi] w (NewOk w (2 ^ k) (backL zs s k)) := by
  have P2 : 2 ^ k ≤ 2 ^ 20 := Nat.pow_le_pow_right (by decide) hk
  have hmk := fun W => run_make_row' (P := Tryd.prog) 22 23 (.int .u64 0) 8 Tryd.underlying22 info64' rfl .i64 .i64 len (by omega) (by omega) W
  have l1 := reflog_is (len : Int) (k : Int) (by unfold I64; omega) (by rw [hl]; exact lg_pow k)
  have i1 := fun W => ref_below (refinv_yes zi hz (by rw [hs]; exact hs0) W)
  rw [hs, show fpow s 18446744069414584319 = finv s from rfl] at i1
  have i2 := fun W => ref_below (refinv_yes (len : Int) (by unfold U; omega) (by rw [toF_nat, hl]; exact nat_pow_ne k (by omega)) W)
  rw [toF_nat, hl, show fpow (nat (2 ^ k)) 18446744069414584319 = finv (nat (2 ^ k)) from rfl] at i2
  have f1 := fun W => ref_below (refof_is k (enc (rootOf k)) (by rw [ofv_in (by omega) (by omega)]; rfl) W)
  have i3 := fun W => ref_below (refinv_yes (enc (rootOf k)) (enc_U _) (by rw [toF_enc]; exact root_ne k (by omega)) W)
  rw [toF_enc, show fpow (rootOf k) 18446744069414584319 = finv (rootOf k) from rfl] at i3
  have HR := Lib.hid hr
  have HU := Lib.hid (U_getD hu)
  have hzl := hr.1
  have HBK : ∀ m, Hid (enc (ho (2 ^ k) (co zs) (wp k m) 0 * (finv (nat (2 ^ k)) * fpow (finv s) m)) = enc (bk s k (co zs) m)) := fun m => Lib.hid (by rw [ho_zero]; rfl)
  have o1' := fun m W v hr' => ref_below (refprod_tri (enc (ho (2 ^ k) (co zs) (wp k m) 0)) (enc (finv (nat (2 ^ k)))) (enc (fpow (finv s) m)) _ v W (enc_U _) (enc_U _) (enc_U _) hr' (by rw [toF_enc, toF_enc, toF_enc]))
  have p1' := fun (m : Nat) (hm : m < 18446744073709551616) W => ref_below (refpow_any (enc (finv s)) (m : Int) (enc_U _) (by unfold U; omega) W)
  have q1' := fun (m : Nat) (hm : m < 18446744073709551616) W => ref_below (refpow_any (enc (finv (rootOf k))) (m : Int) (enc_U _) (by unfold U; omega) W)
  simp only [toF_enc, Int.toNat_natCast] at p1' q1'
  obtain ⟨n, hn⟩ : ∃ n, 2 ^ k = n := ⟨_, rfl⟩
  have HN := Lib.hid hn
  rw [hn] at P2
  have hl2 : n = len := (hl.trans hn).symm
  obtain ⟨s', hs'⟩ : ∃ v, enc (finv s) = v := ⟨_, rfl⟩
  obtain ⟨n', hn'⟩ : ∃ v, enc (finv (nat (2 ^ k))) = v := ⟨_, rfl⟩
  obtain ⟨v', hv'⟩ : ∃ v, enc (finv (rootOf k)) = v := ⟨_, rfl⟩
  rw [hs'] at i1 p1'
  rw [hn'] at i2 o1'
  rw [hv'] at i3 q1'
  have HO := Lib.hid o1'; have HP1 := Lib.hid p1'; have HQ1 := Lib.hid q1'
  subst hl2
  have hk' : (k : Int) ≤ 20 := by omega
  rw [hn] at i2
  clear hr hu hz hs hs0 hn hl hs' hn' hv' o1' p1' q1'
  go_enter Tryd.func13, Tryd.ntmps13
  go_upto_region 2 with ((go_at_call 27; ((with_reducible refine (l1 _).mono ?_); rintro e W ⟨rfl, rfl⟩)))
  go_upto_region 3 with ((go_at_call 28; ((with_reducible refine (i1 _).mono ?_); rintro e W1 ⟨rfl, hB⟩)))
  go_upto_region 6 with ((go_at_call 28; ((with_reducible refine (i2 _).mono ?_); rintro e W2 ⟨rfl, hb⟩; replace hB := bthen hB hb; clear hb)))
  go_upto_region 7 with (first
    | (go_at_call 28; ((with_reducible refine (i3 _).mono ?_); rintro e w1 ⟨rfl, hb⟩; replace hB := bthen hB hb; clear hb))
    | (go_at_call 29; ((with_reducible refine (f1 _).mono ?_); rintro e W3 ⟨rfl, hb⟩; replace hB := bthen hB hb; clear hb)))
  clear i1 i2 i3 f1 l1
  go_upto_region 9 with fail
  go_loopw [14] (BOuter w1 zs s k w1.heap.size) (fun i _ => n - (intOf i).toNat)
  case atStart => exact ⟨0, Nat.zero_le _, rfl, (Below.refl _ _).alloc (Nat.le_refl _) _, by rw [HN.out]; exact (Arr.new w1 _ _ _).same (fun j hj => by simp [Nat.mod_one])⟩
  case round =>
    obtain ⟨m, hm, rfl, hW, hA⟩ := hrel
    rw [HN.out] at hm hA
    by_cases hlt : m < n
    · have hlt' : (m : Int) < (n : Int) := by omega
      have q1 := HQ1.out m (by omega)
      rw [show fpow (finv (rootOf k)) m = wp k m from rfl] at q1
      go_upto_region 13 with ((go_at_call 30; ((with_reducible refine (q1 _).mono ?_); rintro e W4 ⟨rfl, hb⟩; replace hA := hA.keep hb; replace hW := bthen hW hb; clear hb)))
      clear q1
      go_loopw [16] (BInner w1 zs s k w1.heap.size m) (fun j _ => (intOf j + 1).toNat)
      case atStart => exact ⟨n, by rw [HN.out]; omega, rfl, hW, by rw [HN.out]; exact hA.same (by rw [← HN.out]; exact bin_start zs s k m)⟩
      case round =>
        clear hW hA
        obtain ⟨r, hr, rfl, hW, hA⟩ := hrel
        rw [HN.out] at hr hA
        cases r with
        | zero =>
          rw [show ((0 : Nat) : Int) - 1 = -1 from rfl]
          have f0 := (hA m hlt).2
          have c0 := (hA m hlt).1
          dsimp only at c0
          rw [bin_at] at c0
          have o1 := HO.out m
          have p1 := HP1.out m (by omega)
          have hb1 := HBK m
          obtain ⟨o, hoo⟩ : ∃ v, enc (bk s k (co zs) m) = v := ⟨_, rfl⟩
          rw [show enc (ho (2 ^ k) (co zs) (wp k m) 0 * (finv (nat (2 ^ k)) * fpow (finv s) m)) = o from hb1.out.trans hoo] at o1
          have HS : Hid (∀ j, j < 2 ^ k → (if j = m then Value.int .u64 o else .int .u64 (bin zs s k m 0 j)) = .int .u64 (if j < m + 1 then (backL zs s k).getD j 0 else 0)) := Lib.hid (bin_end hoo)
          have HF := Lib.hid hA
          have HW := Lib.hid hW
          clear hA hW hb1 hoo
          generalize enc (ho (2 ^ k) (co zs) (wp k m) 0) = y at *
          generalize enc (fpow (finv s) m) = p at *
          have hm0 : (0 : Int) ≤ (m : Int) := by omega
          have hm1 : (m : Int) < 18446744073709551616 := by omega
          have wm : IntKind.u64.wrap (m : Int) = (m : Int) := by rw [IntKind.wrap_u64]; omega
          go_upto_region 16 with fail
          refine wp_loose [(82, []), (83, []), (84, []), (85, []), (86, [84, 85]), (87, [86]), (88, []), (89, []), (90, []), (91, [90]), (92, [89, 91]), (93, [87, 88, 92]), (94, [93]), (95, [82, 83])]
            (BackR2 w1.heap.size n m y n' s' p o) (fun d => false) (by kernel_rfl) (by kernel_rfl) (fun _ _ _ _ h hb => h.keep hb) ?_ ?_
          · refine opsrun_cons ?_ (opsrun_cons ?_ (opsrun_cons ?_ (opsrun_cons ?_ (opsrun_cons ?_ (opsrun_cons ?_ (opsrun_cons ?_ (opsrun_cons ?_ (opsrun_cons ?_ (opsrun_cons ?_ (opsrun_cons ?_ (opsrun_cons ?_ (opsrun_cons ?_ (opsrun_cons ?_ opsrun_nil)))))))))))))
            all_goals
              refine OpRuns.any ?_
              intro Q0 σ W' K hb hn hK
              simp only [fill, List.map, Act.put, List.setIfInBounds_toArray, List.set_cons_zero, List.set_cons_succ] at hK ⊢
            · clear hn
              go_simp
              exact hK _ _ rfl (Below.refl _ _) (fun h => absurd h (by decide))
            · clear hn
              go_simp
              exact hK _ _ rfl (Below.refl _ _) (fun h => absurd h (by decide))
            · clear hn
              go_simp
              exact hK _ _ rfl (Below.refl _ _) (fun h => absurd h (by decide))
            · clear hn
              go_simp
              exact hK _ _ rfl (Below.refl _ _) (fun h => absurd h (by decide))
            · have h84 : σ 84 = _ := hn 84 (by decide)
              have h85 : σ 85 = _ := hn 85 (by decide)
              clear hn
              simp only [h84, h85] at hK
              go_simp
              exact hK _ _ rfl (Below.refl _ _) (fun h => absurd h (by decide))
            · have h86 : σ 86 = _ := hn 86 (by decide)
              clear hn
              simp only [h86] at hK
              have c0' := bkeep hb c0
              clear c0
              go_simp
              exact hK _ _ rfl (Below.refl _ _) (fun h => absurd h (by decide))
            · clear hn
              go_simp
              exact hK _ _ rfl (Below.refl _ _) (fun h => absurd h (by decide))
            · clear hn
              go_simp
              exact hK _ _ rfl (Below.refl _ _) (fun h => absurd h (by decide))
            · clear hn
              go_simp
              exact hK _ _ rfl (Below.refl _ _) (fun h => absurd h (by decide))
            · have h90 : σ 90 = _ := hn 90 (by decide)
              clear hn
              simp only [h90] at hK
              go_simp
              exact hK _ _ rfl (Below.refl _ _) (fun h => absurd h (by decide))
            · have h89 : σ 89 = _ := hn 89 (by decide)
              have h91 : σ 91 = _ := hn 91 (by decide)
              clear hn
              simp only [h89, h91] at hK
              go_simp
              go_at_call 30
              refine (p1 _).mono ?_
              rintro e w1 ⟨rfl, hb1⟩
              exact hK _ _ rfl hb1 (fun h => absurd h (by decide))
            · have h87 : σ 87 = _ := hn 87 (by decide)
              have h88 : σ 88 = _ := hn 88 (by decide)
              have h92 : σ 92 = _ := hn 92 (by decide)
              clear hn
              simp only [h87, h88, h92] at hK
              go_simp
              exact hK _ _ ⟨_, rfl, by simp [go_sem], by simp [go_sem], by simp [go_sem]⟩ ((Below.refl _ _).alloc (Nat.le_refl _) _) (fun h => absurd h (by decide))
            · obtain ⟨q, h93, k0, k1, k2⟩ : ∃ q : Nat, σ 93 = .slice (some ⟨q, 0, none⟩) 3 3 ∧ W'.cell? ⟨q, 0, none⟩ = some (.int .u64 y) ∧ W'.cell? ⟨q, 1, none⟩ = some (.int .u64 n') ∧ W'.cell? ⟨q, 2, none⟩ = some (.int .u64 p) := hn 93 (by decide)
              clear hn
              simp only [h93] at hK
              go_simp
              go_at_call 31
              refine (o1 _ _ (row_tri k0 k1 k2)).mono ?_
              rintro e w2 ⟨rfl, hb1⟩
              exact hK _ _ rfl hb1 (fun h => absurd h (by decide))
            · have h82 : σ 82 = _ := hn 82 (by decide)
              have h83 : σ 83 = _ := hn 83 (by decide)
              clear hn
              simp only [h82, h83] at hK
              go_simp
              exact hK _ _ rfl (Below.refl _ _) (fun h => absurd h (by decide))
          · intro σ W' hb hR' hF
            have h94 : σ 94 = _ := hR' 94 (by decide)
            have h95 : σ 95 = _ := hR' 95 (by decide)
            have c0' := bkeep hb c0
            have f0' := bfree hb c0 f0
            have HB2 := Lib.hid (bthen HW.out hb)
            have HA2 := Lib.hid hb
            clear hR' hF c0 f0 o1 p1 hb
            simp only [fill, List.map, Act.put, List.setIfInBounds_toArray, List.set_cons_zero, List.set_cons_succ, List.length_cons, List.length_nil, List.drop_succ_cons, List.drop_zero, Nat.reduceAdd, h94, h95]
            clear h94 h95
            go_wp2
            go_roundw
            case rel => exact ⟨m + 1, by rw [HN.out]; omega, by go_num, HB2.out.setCell (by simp) _, by rw [HN.out]; exact ((HF.out.keep HA2.out).set m _ hlt).same (by rw [← HN.out]; exact HS.out)⟩
            case measure => simp [intOf]; omega
        | succ i =>
          rw [show ((i + 1 : Nat) : Int) - 1 = (i : Int) by omega]
          obtain ⟨b, off, rfl, g00⟩ := (HR.out.keep hB).2.2 i (by omega)
          have g0 := bkeep hW g00
          clear g00
          have gU := HU.out i (by omega)
          have f0 := (hA m hlt).2
          have c0 := (hA m hlt).1
          dsimp only at c0
          rw [bin_at] at c0
          have m1 := fun W => ref_below (refmul_any (enc (ho (2 ^ k) (co zs) (wp k m) (i + 1))) (enc (wp k m)) (enc_U _) (enc_U _) W)
          have a1 := fun W => same_below (refadd_any (enc (ho (2 ^ k) (co zs) (wp k m) (i + 1) * wp k m)) (zs.getD i 0) (enc_U _) gU W)
          simp only [toF_enc] at m1 a1
          rw [show ho (2 ^ k) (co zs) (wp k m) (i + 1) * wp k m + toF (zs.getD i 0) = ho (2 ^ k) (co zs) (wp k m) i from (ho_step _ _ _ i (by rw [HN.out]; omega)).symm] at a1
          obtain ⟨y', hy⟩ : ∃ v, enc (ho (2 ^ k) (co zs) (wp k m) i) = v := ⟨_, rfl⟩
          rw [hy] at a1
          have HF := Lib.hid hA
          have HS : Hid (∀ j, j < 2 ^ k → (if j = m then Value.int .u64 y' else .int .u64 (bin zs s k m (i + 1) j)) = .int .u64 (bin zs s k m i j)) := Lib.hid (bin_step hy)
          have HW := Lib.hid hW
          clear hA hW gU hy
          generalize enc (ho (2 ^ k) (co zs) (wp k m) (i + 1) * wp k m) = t at *
          generalize enc (ho (2 ^ k) (co zs) (wp k m) (i + 1)) = y at *
          generalize enc (wp k m) = x at *
          generalize zs.getD i 0 = z at *
          have hj1 : (i : Int) < (n : Int) := by omega
          have hj0 : (0 : Int) ≤ (i : Int) := by omega
          have hi0 : (0 : Int) ≤ (m : Int) := by omega
          go_upto_region 15 with fail
          refine wp_loose [(68, []), (69, []), (70, []), (71, []), (72, [70, 71]), (73, [72]), (74, []), (75, [73, 74]), (76, []), (77, []), (78, [76, 77]), (79, [78]), (80, [75, 79]), (81, [68, 69])]
            (BackR w1.heap.size n m b off n cap i y x t z y') (fun d => false) (by kernel_rfl) (by kernel_rfl) (fun _ _ _ _ h hb => h.keep hb) ?_ ?_
          · refine opsrun_cons ?_ (opsrun_cons ?_ (opsrun_cons ?_ (opsrun_cons ?_ (opsrun_cons ?_ (opsrun_cons ?_ (opsrun_cons ?_ (opsrun_cons ?_ (opsrun_cons ?_ (opsrun_cons ?_ (opsrun_cons ?_ (opsrun_cons ?_ (opsrun_cons ?_ (opsrun_cons ?_ opsrun_nil)))))))))))))
            all_goals
              refine OpRuns.any ?_
              intro Q0 σ W' K hb hn hK
              simp only [fill, List.map, Act.put, List.setIfInBounds_toArray, List.set_cons_zero, List.set_cons_succ] at hK ⊢
            · clear hn
              go_simp
              exact hK _ _ rfl (Below.refl _ _) (fun h => absurd h (by decide))
            · clear hn
              go_simp
              exact hK _ _ rfl (Below.refl _ _) (fun h => absurd h (by decide))
            · clear hn
              go_simp
              exact hK _ _ rfl (Below.refl _ _) (fun h => absurd h (by decide))
            · clear hn
              go_simp
              exact hK _ _ rfl (Below.refl _ _) (fun h => absurd h (by decide))
            · have h70 : σ 70 = _ := hn 70 (by decide)
              have h71 : σ 71 = _ := hn 71 (by decide)
              clear hn
              simp only [h70, h71] at hK
              go_simp
              exact hK _ _ rfl (Below.refl _ _) (fun h => absurd h (by decide))
            · have h72 : σ 72 = _ := hn 72 (by decide)
              clear hn
              simp only [h72] at hK
              have c0' := bkeep hb c0
              clear c0
              go_simp
              exact hK _ _ rfl (Below.refl _ _) (fun h => absurd h (by decide))
            · clear hn
              go_simp
              exact hK _ _ rfl (Below.refl _ _) (fun h => absurd h (by decide))
            · have h73 : σ 73 = _ := hn 73 (by decide)
              have h74 : σ 74 = _ := hn 74 (by decide)
              clear hn
              simp only [h73, h74] at hK
              go_simp
              go_at_call 23
              refine (m1 _).mono ?_
              rintro e w1 ⟨rfl, hb1⟩
              exact hK _ _ rfl hb1 (fun h => absurd h (by decide))
            · clear hn
              go_simp
              exact hK _ _ rfl (Below.refl _ _) (fun h => absurd h (by decide))
            · clear hn
              go_simp
              exact hK _ _ rfl (Below.refl _ _) (fun h => absurd h (by decide))
            · have h76 : σ 76 = _ := hn 76 (by decide)
              have h77 : σ 77 = _ := hn 77 (by decide)
              clear hn
              simp only [h76, h77] at hK
              go_simp
              exact hK _ _ rfl (Below.refl _ _) (fun h => absurd h (by decide))
            · have h78 : σ 78 = _ := hn 78 (by decide)
              clear hn
              simp only [h78] at hK
              have g0' := bkeep hb g0
              clear g0
              go_simp
              exact hK _ _ rfl (Below.refl _ _) (fun h => absurd h (by decide))
            · have h75 : σ 75 = _ := hn 75 (by decide)
              have h79 : σ 79 = _ := hn 79 (by decide)
              clear hn
              simp only [h75, h79] at hK
              go_simp
              go_at_call 22
              refine (a1 _).mono ?_
              rintro e w1 ⟨rfl, hb1⟩
              exact hK _ _ rfl hb1 (fun h => absurd h (by decide))
            · have h68 : σ 68 = _ := hn 68 (by decide)
              have h69 : σ 69 = _ := hn 69 (by decide)
              clear hn
              simp only [h68, h69] at hK
              go_simp
              exact hK _ _ rfl (Below.refl _ _) (fun h => absurd h (by decide))
          · intro σ W' hb hR' hF
            have h80 : σ 80 = _ := hR' 80 (by decide)
            have h81 : σ 81 = _ := hR' 81 (by decide)
            have c0' := bkeep hb c0
            have f0' := bfree hb c0 f0
            have HB2 := Lib.hid (bthen HW.out hb)
            have HA2 := Lib.hid hb
            clear hR' hF c0 f0 g0 m1 a1 hb
            simp only [fill, List.map, Act.put, List.setIfInBounds_toArray, List.set_cons_zero, List.set_cons_succ, List.length_cons, List.length_nil, List.drop_succ_cons, List.drop_zero, Nat.reduceAdd, h80, h81]
            clear h80 h81
            go_wp2
            go_roundw
            case rel => exact ⟨i, by rw [HN.out]; omega, rfl, HB2.out.setCell (by simp) _, by rw [HN.out]; exact ((HF.out.keep HA2.out).set m _ hlt).same (by rw [← HN.out]; exact HS.out)⟩
            case measure => simp [intOf]
    · obtain rfl : m = n := by omega
      have hrow := Arr.row (hA.same (fun j hj => by rw [if_pos hj])) (by rw [backL_len]; exact HN.out) (by unfold maxLen; omega)
      replace hB := bthen hB hW
      clear hA hW hlt
      go_wp2
      exact bodyPost_ret (v := .tuple #[.slice (some ⟨w1.heap.size, 0, none⟩) m m, .int .i64 0]) (by simp [results, Tryd.results13, go_sem]) rfl ⟨_, _, by rw [HN.out], hB, by rw [HN.out]; exact hrow⟩

theorem refback_no (a : Option Addr) (len cap : Nat) (zi : Int) (hz : U zi) (s : F) (hs : toF zi = s) (hlm : len ≤ maxLen) (w : World) (h : ¬ (0 ≤ lg len ∧ lg len ≤ 20 ∧ s ≠ 0)) :
    Calls Tryd.prog 13 #[.slice a len cap, .int .u64 zi] w (ErrArg w) := by
  unfold maxLen at hlm
  obtain ⟨K, hK⟩ : ∃ K, lg len = K := ⟨_, rfl⟩
  have l1 := reflog_is (len : Int) K (by unfold I64; omega) hK
  rw [hK] at h
  have hB := Below.refl w.heap.size w
  by_cases h0 : s = 0
  · have i1 := fun W => ref_below (refinv_no zi hz (by rw [hs]; exact h0) W)
    clear h hK hs h0 hz
    by_cases h1 : K < 0
    · go_enter Tryd.func13, Tryd.ntmps13
      go_wp2_with (first
        | (go_at_call 27; ((with_reducible refine (l1 _).mono ?_); rintro e W ⟨rfl, rfl⟩))
        | (go_at_call 28; ((with_reducible refine (i1 _).mono ?_); rintro e W1 ⟨rfl, hb⟩)))
      exact bodyPost_ret (v := .tuple #[.slice none 0 0, .int .i64 1]) (by simp [results, Tryd.results13, go_sem]) rfl ⟨rfl, hb⟩
    · by_cases h2 : 20 < K
      · go_enter Tryd.func13, Tryd.ntmps13
        go_wp2_with (first
          | (go_at_call 27; ((with_reducible refine (l1 _).mono ?_); rintro e W ⟨rfl, rfl⟩))
          | (go_at_call 28; ((with_reducible refine (i1 _).mono ?_); rintro e W1 ⟨rfl, hb⟩)))
        exact bodyPost_ret (v := .tuple #[.slice none 0 0, .int .i64 1]) (by simp [results, Tryd.results13, go_sem]) rfl ⟨rfl, hb⟩
      · go_enter Tryd.func13, Tryd.ntmps13
        go_wp2_with (first
          | (go_at_call 27; ((with_reducible refine (l1 _).mono ?_); rintro e W ⟨rfl, rfl⟩))
          | (go_at_call 28; ((with_reducible refine (i1 _).mono ?_); rintro e W1 ⟨rfl, hb⟩)))
        exact bodyPost_ret (v := .tuple #[.slice none 0 0, .int .i64 1]) (by simp [results, Tryd.results13, go_sem]) rfl ⟨rfl, hb⟩
  · have i1 := fun W => ref_below (refinv_yes zi hz (by rw [hs]; exact h0) W)
    generalize enc (fpow (toF zi) 18446744069414584319) = s' at *
    by_cases h1 : K < 0
    · clear h hK hs h0 hz
      go_enter Tryd.func13, Tryd.ntmps13
      go_wp2_with (first
        | (go_at_call 27; ((with_reducible refine (l1 _).mono ?_); rintro e W ⟨rfl, rfl⟩))
        | (go_at_call 28; ((with_reducible refine (i1 _).mono ?_); rintro e W1 ⟨rfl, hb⟩)))
      exact bodyPost_ret (v := .tuple #[.slice none 0 0, .int .i64 1]) (by simp [results, Tryd.results13, go_sem]) rfl ⟨rfl, hb⟩
    · have h2 : 20 < K := by
        refine Int.not_le.mp fun hh => h ⟨by omega, hh, h0⟩
      clear h hK hs h0 hz
      go_enter Tryd.func13, Tryd.ntmps13
      go_wp2_with (first
        | (go_at_call 27; ((with_reducible refine (l1 _).mono ?_); rintro e W ⟨rfl, rfl⟩))
        | (go_at_call 28; ((with_reducible refine (i1 _).mono ?_); rintro e W1 ⟨rfl, hb⟩)))
      exact bodyPost_ret (v := .tuple #[.slice none 0 0, .int .i64 1]) (by simp [results, Tryd.results13, go_sem]) rfl ⟨rfl, hb⟩
/-- A number of values is a power of two, or it isn't. -/
theorem lg_cases (n : Nat) (hn : n ≤ 9223372036854775807) (h0 : 0 ≤ lg n) (h1 : lg n ≤ 20) : ∃ k : Nat, k ≤ 20 ∧ n = 2 ^ k ∧ lg n = k := by
  unfold lg at *
  split at h0
  · rename_i hh
    rw [if_pos hh] at h1 ⊢
    rw [Int.toNat_natCast] at *
    exact ⟨n.log2, by omega, and_pred (by omega) hh.2, rfl⟩
  · omega
end Go.Proofs.YtflabonifbhmnaaDoor
