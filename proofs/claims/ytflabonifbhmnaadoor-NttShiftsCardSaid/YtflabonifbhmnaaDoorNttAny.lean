/-
  What the program's calls of layer 4 come to: Points, Forth, Back, ForthPairs, BackPairs.
-/
import Derived.Test.YtflabonifbhmnaaDoorNttC
import Derived.Test.YtflabonifbhmnaaDoorNttMath
import Derived.Test.YtflabonifbhmnaaDoorNttAround
import Derived.Test.YtflabonifbhmnaaDoorLibRow
import Derived.Test.YtflabonifbhmnaaDoorRepeat
namespace Go.Proofs.YtflabonifbhmnaaDoor
open Go.RowKit
set_option linter.unusedVariables false

theorem fits_yes (k : Int) (h0 : 0 ≤ k) (h1 : k ≤ 20) (w : World) : Calls Tryd.prog 32 #[.int .i64 k] w fun e w' => e = .returned (.bool true) ∧ w = w' := by
  go_enter Tryd.func32, Tryd.ntmps32
  go_wp2
  go_ret
  exact ⟨by simp, rfl⟩
theorem fits_no (k : Int) (h : ¬ (0 ≤ k ∧ k ≤ 20)) (w : World) : Calls Tryd.prog 32 #[.int .i64 k] w fun e w' => e = .returned (.bool false) ∧ w = w' := by
  by_cases c : 0 ≤ k
  · have d : ¬ k ≤ 20 := fun d => h ⟨c, d⟩
    clear h
    go_enter Tryd.func32, Tryd.ntmps32
    go_wp2
    go_ret
    exact ⟨by simp, rfl⟩
  · clear h
    go_enter Tryd.func32, Tryd.ntmps32
    go_wp2
    go_ret
    exact ⟨by simp, rfl⟩
theorem finv_is (a z : Int) (ha : U a) (h : toF a ≠ 0) (hz : enc (finv (toF a)) = z) (w : World) : Calls Tryd.prog 48 #[.int .u64 a] w fun e w' => e = .returned (.tuple #[.int .u64 z, .bool true]) ∧ w = w' := by
  subst hz; exact inv_yes a ha h w

theorem RowA.src {W : World} {a : Option Addr} {len : Nat} {zs : List Int} (h : RowA W a len zs) (h0 : 0 < len) : ∃ ad, a = some ad ∧ ∀ j v, (zs.map (Value.int .u64))[j]? = some v → W.cell? (ad.add j) = some v := by
  obtain ⟨hz, hm, hc⟩ := h
  obtain ⟨b, off, rfl, _⟩ := hc 0 h0
  refine ⟨_, rfl, fun j v hv => ?_⟩
  have hj : j < zs.length := by have := (List.getElem?_eq_some_iff.1 hv).1; simpa using this
  obtain ⟨b', off', e, h⟩ := hc j (by omega)
  cases e
  rw [Addr.add_lit, h, ← hv]; simp [List.getD, hj]
theorem QRowA.src {W : World} {a : Option Addr} {len : Nat} {zs : List (Int × Int)} (h : QRowA W a len zs) (h0 : 0 < len) : ∃ ad, a = some ad ∧ ∀ j v, (flat zs)[j]? = some v → W.cell? (ad.add j) = some v := by
  obtain ⟨hz, hm, hc⟩ := h
  obtain ⟨b, off, rfl, _⟩ := hc 0 h0
  refine ⟨_, rfl, fun j v hv => ?_⟩
  have hj2 : j < len * 2 := by have := (List.getElem?_eq_some_iff.1 hv).1; rw [flat_length] at this; omega
  obtain ⟨b', off', e, h, h'⟩ := hc (j / 2) (by omega)
  cases e
  obtain ⟨f0, f1⟩ := flat_at zs (j / 2) (by omega)
  rw [Addr.add_lit]
  rcases (by omega : j = j / 2 * 2 ∨ j = j / 2 * 2 + 1) with e | e
  · rw [← e] at h f0; rw [h, ← hv, f0]
  · rw [← e] at f1; rw [Nat.add_assoc, ← e] at h'; rw [h', ← hv, f1]
theorem cop_u (zs : List Int) (j : Nat) : cop (fun j => (#[Value.int .u64 0])[j % (#[Value.int .u64 0]).size]!) 0 (zs.map (Value.int .u64)) j = .int .u64 (zs.getD j 0) := by
  unfold cop
  rw [List.length_map]
  by_cases h : j < zs.length
  · rw [if_pos ⟨Nat.zero_le _, by omega⟩]; simp [List.getD, h]
  · rw [if_neg (by omega)]; simp [List.getD, h, Nat.mod_one]
theorem cop_q (zs : List (Int × Int)) (j : Nat) : cop (pc fun _ => (0, 0)) 0 (flat zs) j = pc (fun i => zs.getD i (0, 0)) j := by
  unfold cop
  rw [flat_length]
  by_cases h : j < zs.length * 2
  · rw [if_pos ⟨Nat.zero_le _, by omega⟩, Nat.sub_zero]
    obtain ⟨f0, f1⟩ := flat_at zs (j / 2) (by omega)
    unfold pc
    rcases (by omega : j = j / 2 * 2 ∨ j = j / 2 * 2 + 1) with e | e
    · rw [if_pos (by omega)]; rw [← e] at f0; rw [List.getD, f0]; rfl
    · rw [if_neg (by omega)]; rw [← e] at f1; rw [List.getD, f1]; rfl
  · rw [if_neg (by omega)]
    unfold pc
    have : zs.getD (j / 2) (0, 0) = (0, 0) := by
      rw [List.getD, List.getElem?_eq_none (by omega)]; rfl
    simp only [this]
theorem Arr.rowc {W : World} {g n c : Nat} {zs : List Int} (h : Arr W g n (fun j => .int .u64 (zs.getD j 0))) (hz : zs.length = n) (h1 : n ≤ c) (h2 : c ≤ maxLen) : Row W (.slice (some ⟨g, 0, none⟩) n c) zs :=
  Or.inr (Or.inr ⟨g, 0, c, by rw [hz], by omega, h2, fun i hi => by rw [Nat.zero_add]; exact (h i (by omega)).1⟩)
theorem Arr.qrowc {W : World} {g n c : Nat} {zs : List (Int × Int)} (h : Arr W g (n * 2) (pc fun j => zs.getD j (0, 0))) (hz : zs.length = n) (h1 : n ≤ c) (h2 : c ≤ maxLen) : QRow W (.slice (some ⟨g, 0, none⟩) n c) zs :=
  Or.inr (Or.inr ⟨g, 0, c, by rw [hz], by omega, h2, fun i hi => by rw [Nat.zero_add]; exact ⟨(h.cells i (by omega)).1, (h.cells i (by omega)).2.1⟩⟩)
theorem Arr.qrow' {W : World} {g n : Nat} {zs : List (Int × Int)} (h : Arr W g (n * 2) (pc fun j => zs.getD j (0, 0))) (hz : zs.length = n) (hn : n ≤ maxLen) : QRow W (.slice (some ⟨g, 0, none⟩) n n) zs := h.qrowc hz (Nat.le_refl _) hn
theorem ArrF.keep {c : Bool} {w w1 : World} {g n : Nat} {x : Nat → F} (h : ArrF c w g n x) (hb : Below w.heap.size w w1) : ArrF c w1 g n x := by
  obtain ⟨z, h1, h2⟩ := h
  exact ⟨z, h1.keep hb, h2⟩
theorem getD_U {zs : List Int} (h : ∀ n ∈ zs, U n) (j : Nat) : U (zs.getD j 0) := by
  by_cases hj : j < zs.length
  · exact U_getD h j hj
  · rw [List.getD, List.getElem?_eq_none (by omega)]; exact U_lit _ rfl rfl
theorem num_co {zs : List Int} (h : ∀ n ∈ zs, U n) (j : Nat) : Num false (zs.getD j 0) (co zs j) := ⟨getD_U h j, rfl, fun h => by cases h⟩
theorem numq_co {zs : List (Int × Int)} (h : ∀ n ∈ zs, U n.1 ∧ U n.2) (j : Nat) : NumQ false (zs.getD j (0, 0)) (coQ zs j) := by
  have h1 := getD_U (fsts_U h) j
  have h2 := getD_U (snds_U h) j
  rw [fsts_getD] at h1
  rw [snds_getD] at h2
  refine ⟨⟨h1, h2, ?_, ?_⟩, fun h => by cases h⟩
  · show _ = co (fsts zs) j
    unfold co; rw [fsts_getD]
  · show _ = co (snds zs) j
    unfold co; rw [snds_getD]

theorem kind_u (w : World) : Calls Tryd.prog 24 #[] w fun e w' => e = .returned kindU ∧ Below w.heap.size w w' := by
  go_enter Tryd.func24, Tryd.ntmps24
  have hsf := fun (a : Addr) (n : Nat) (w : World) => run_store Tryd.prog w a (.func (.func n) #[] #[]) .plain rfl
  go_wp2
  exact bodyPost_ret (v := kindU) (by simp [results, Tryd.results24, go_sem]) rfl ⟨rfl, (Below.refl _ _).alloc (Nat.le_refl _) _⟩

set_option maxHeartbeats 4000000 in
theorem forth_yes_u (a : Option Addr) (len cap : Nat) (zs : List Int) (zi : Int) (hz : U zi) (s : F) (hs : toF zi = s) (k : Nat) (hk : k ≤ 20) (w : World) (hr : RowA w a len zs) (hu : ∀ n ∈ zs, U n) (hl : len ≤ 2 ^ k) :
    Calls Tryd.prog 25 #[kindU, .slice a len cap, .int .u64 zi, .int .i64 k] w (NewOk w (2 ^ k) (forthL zs s k)) := by
  have hp := Nat.two_pow_pos k
  have P2 : 2 ^ k ≤ 2 ^ 20 := Nat.pow_le_pow_right (by decide) hk
  have w1 := wrap64_pow k (by omega)
  have hlen := hr.1
  have hmk := fun W => run_make_row' (P := Tryd.prog) 22 23 (.int .u64 0) 8 Tryd.underlying22 info64' rfl .i64 .i64 (2 ^ k) (by omega) (by omega) W
  have R := fun (W : World) (h : ArrF false W (w.heap.size + 1) (2 ^ k) (co zs)) => rise_u (w.heap.size + 1) (2 ^ k) (2 ^ k) (by omega) hp (co zs) 1 zi (U_lit _ rfl rfl) hz 1 s rfl hs false W h
  have AR := fun (W : World) (h : ArrF true W (w.heap.size + 1) (2 ^ k) (fun j => co zs j * (1 * fpow s j))) => around_u (w.heap.size + 1) (2 ^ k) k hk _ true W h
  have FIN : Hid (∀ (W : World), ArrF true W (w.heap.size + 1) (2 ^ k) (ar (· + ·) (· - ·) (· * ·) k (fun j => co zs j * (1 * fpow s j)) k) → Row W (.slice (some ⟨w.heap.size + 1, 0, none⟩) (2 ^ k) (2 ^ k)) (forthL zs s k)) := Lib.hid (fun W h => by
    refine (h.enc.same (fun j hj => by rw [forth_stages zs s k j hk (by omega) hj, forthL_at zs s k j hj])).row (forthL_len zs s k) (by unfold maxLen; omega))
  have HU := Lib.hid hu
  obtain ⟨n, hn⟩ : ∃ n, 2 ^ k = n := ⟨_, rfl⟩
  have F1 := fits_yes k (by omega) (by omega)
  rw [hn] at hp P2 hl hmk R AR FIN w1 ⊢
  clear hn
  have hl1 : (len : Int) ≤ (n : Int) := by omega
  have hk0 : (0 : Int) ≤ (k : Int) := by omega
  have hk1 : (k : Int) ≤ 20 := by omega
  have HR := Lib.hid hr
  obtain ⟨_, hlm, _⟩ := hr
  unfold maxLen at hlm
  have HLEN := Lib.hid hlen
  clear hs hlen
  have HR2 := Lib.hid R; have HAR := Lib.hid AR
  clear R AR hu hz
  go_enter Tryd.func25, Tryd.ntmps25
  go_upto_region 4 with (go_at_call 32; ((with_reducible refine (F1 _).mono ?_); rintro e w' ⟨rfl, rfl⟩))
  have hA0 := Arr.new (w.alloc (.cells #[addU, subU, mulU'] 44)) #[.int .u64 0] n 23
  have hB0 := ((Below.refl w.heap.size w).alloc (Nat.le_refl _) (.cells #[addU, subU, mulU'] 44))
  have hRA := HR.out.keep hB0
  have hB1 := (Below.refl (w.alloc (.cells #[addU, subU, mulU'] 44)).heap.size (w.alloc (.cells #[addU, subU, mulU'] 44))).alloc (Nat.le_refl _) (.cells (madeCells #[.int .u64 0] n) 23)
  have hRB := hRA.keep hB1
  have hK := (K3.new w addU subU mulU' 44).keep hB1
  simp only [World.size_alloc] at hA0
  clear hmk w1 F1
  go_upto_region 5 with (refine wpList_copy_arr rfl (.tmp 24) (.tmp 25) 22 22 rfl 23 Tryd.underlying22 1 (by kernel_rfl) (w.heap.size + 1) n 0 n n len cap a rfl rfl len (by simp only [Nat.min_def]; rw [if_pos (by omega)]) (zs.map (Value.int .u64)) (by simp [HLEN.out]) _ hA0 (fun h0 => hRB.src h0) (fun h0 => by rw [List.map_eq_nil_iff, ← List.length_eq_zero_iff, HLEN.out]; exact h0) (by simp [HLEN.out]; omega) (by intro u hu; obtain ⟨x, _, rfl⟩ := List.mem_map.1 hu; rfl) ?_; intro w2 hb2 hA2)
  have hAF : ArrF false w2 (w.heap.size + 1) n (co zs) := ⟨_, hA2.out.same (fun j _ => cop_u zs j), fun j _ => num_co HU.out j⟩
  have R2 := HR2.out w2 hAF
  have HB2 := Lib.hid hb2.out
  have hK2 := hK.but hb2.out (by omega)
  have HB1 := Lib.hid (bthen hB0 hB1)
  have HB3 := Lib.hid hB1.size
  clear hA0 hB0 hRA hB1 hRB hb2 hA2 hAF hK
  have HK := Lib.hid hK2
  obtain ⟨k0, k1, k2⟩ := hK2
  go_upto_region 6 with (go_at_call 34; ((with_reducible refine R2.mono ?_); rintro e w3 ⟨rfl, hb3, hA3⟩))
  have R3 := HAR.out w3 (ArrF.of hA3)
  replace HB2 := Lib.hid (HB2.out.trans hb3)
  replace HK := Lib.hid (HK.out.but hb3 (by omega))
  clear R2 hb3 hA3 k0 k1 k2
  obtain ⟨k0, k1, k2⟩ := HK.out
  go_upto_region 7 with (go_at_call 46; ((with_reducible refine R3.mono ?_); rintro e w4 ⟨rfl, hb4, hA4⟩))
  have HROW := Lib.hid (FIN.out w4 hA4)
  have HBE := Lib.hid (But.below (But.below HB1.out HB2.out (by omega) HB1.out.size) hb4 (by omega) (Nat.le_trans HB1.out.size HB2.out.size))
  clear R3 hb4 hA4 k0 k1 k2 FIN HB2 HK
  go_wp2_with fail
  go_ret2
  exact ⟨_, _, rfl, HBE.out, HROW.out⟩

set_option maxHeartbeats 4000000 in
theorem forth_no_u (a : Option Addr) (len cap : Nat) (zi k : Int) (hI : I64 k) (w : World) (hm : len ≤ 4294967296) (h : ¬ okF len k) :
    Calls Tryd.prog 25 #[kindU, .slice a len cap, .int .u64 zi, .int .i64 k] w (ErrArg w) := by
  by_cases c : 0 ≤ k ∧ k ≤ 20
  · obtain ⟨m, rfl⟩ := Int.eq_ofNat_of_zero_le c.1
    have F1 := fits_yes m c.1 c.2
    have w1 := wrap64_pow m (by omega)
    have h2 : 2 ^ m < len := Nat.lt_of_not_le fun hle => h ⟨c.1, c.2, by rw [Int.toNat_natCast]; exact hle⟩
    obtain ⟨c0, c1⟩ := c
    clear h
    generalize 2 ^ m = n at *
    have h3 : (n : Int) < (len : Int) := by omega
    go_enter Tryd.func25, Tryd.ntmps25
    go_wp2_with (go_at_call 32; ((with_reducible refine (F1 _).mono ?_); rintro e w' ⟨rfl, rfl⟩))
    go_ret2
    exact ⟨rfl, (Below.refl _ _).alloc (Nat.le_refl _) _⟩
  · have F1 := fits_no k c
    clear h c
    go_enter Tryd.func25, Tryd.ntmps25
    go_wp2_with (go_at_call 32; ((with_reducible refine (F1 _).mono ?_); rintro e w' ⟨rfl, rfl⟩))
    go_ret2
    exact ⟨rfl, (Below.refl _ _).alloc (Nat.le_refl _) _⟩

theorem rev_tail_u (g n c : Nat) (hc : n ≤ c) (h0 : 0 < n) (hn : n ≤ 1048576) (z : Nat → Int) (w : World) (hA : Arr w g n (fun j => .int .u64 (z j))) :
    Calls Tryd.prog 50 #[.slice (if c = 1 then some ⟨g, 0, none⟩ else some ⟨g, 1, none⟩) (n - 1) (c - 1)] w fun e w' => e = .returned (.tuple #[]) ∧ But g w w' ∧ Arr w' g n (fun j => .int .u64 (z (rx 1 (n - 1) j))) := by
  by_cases e : c = 1
  · rw [if_pos e]
    have e2 : n - 1 = 0 := by omega
    rw [e2]
    exact (reverse_u g n 0 0 (c - 1) (by omega) (by omega) z w hA).mono fun e w' ⟨h1, h2, h3⟩ => ⟨h1, h2, h3.same (fun j hj => by unfold rx; rw [if_neg (by omega), if_neg (by omega)])⟩
  · rw [if_neg e]
    exact reverse_u g n 1 (n - 1) (c - 1) (by omega) (by omega) z w hA

set_option maxHeartbeats 4000000 in
theorem back_yes_u (a : Option Addr) (len cap : Nat) (zs : List Int) (zi : Int) (hz : U zi) (s : F) (hs : toF zi = s) (hs0 : s ≠ 0) (k : Nat) (hk : k ≤ 20) (w : World) (hr : RowA w a len zs) (hu : ∀ n ∈ zs, U n) (hl : len = 2 ^ k) (ht : Tab w) :
    Calls Tryd.prog 26 #[kindU, .slice a len cap, .int .u64 zi] w (NewOk w (2 ^ k) (backL zs s k)) := by
  have hp := Nat.two_pow_pos k
  have P2 : 2 ^ k ≤ 2 ^ 20 := Nat.pow_le_pow_right (by decide) hk
  have L1 := fun (W : World) (h : Tab W) => log_is (len : Int) k (by unfold I64; omega) (by rw [hl]; exact lg_pow k) W h
  have I1 := finv_is zi (enc (finv s)) hz (by rw [hs]; exact hs0) (by rw [hs])
  have I2 := finv_is (((2 ^ k : Nat) : Int)) (enc (finv (nat (2 ^ k)))) (by unfold U; omega) (by rw [toF_nat]; exact nat_pow_ne k (by omega)) (by rw [toF_nat])
  have F1 := fits_yes k (by omega) (by omega)
  have AR := fun (g c : Nat) (W : World) (h : ArrF false W g (2 ^ k) (co zs)) => around_u g c k hk _ false W h
  have RI := fun (g c : Nat) (W : World) (x : Nat → F) (h : ArrF false W g (2 ^ k) x) => rise_u g (2 ^ k) c (by omega) hp x (enc (finv (nat (2 ^ k)))) (enc (finv s)) (enc_U _) (enc_U _) (finv (nat (2 ^ k))) (finv s) (toF_enc _) (toF_enc _) false W h
  have RV := fun (g c : Nat) (hc : 2 ^ k ≤ c) (z : Nat → Int) (W : World) (h : Arr W g (2 ^ k) (fun j => .int .u64 (z j))) => rev_tail_u g (2 ^ k) c hc hp (by omega) z W h
  have hrx : ∀ j, j < 2 ^ k → rx 1 (2 ^ k - 1) j = rvx k j ∧ rvx k j < 2 ^ k := fun j hj => by
    unfold rx rvx
    by_cases h : 1 ≤ j ∧ j < 2 ^ k
    · rw [if_pos h, if_pos (by omega)]; omega
    · rw [if_neg h, if_neg (by omega)]; omega
  have FIN : Hid (∀ (W : World) (g c : Nat), 2 ^ k ≤ c → c ≤ maxLen → Arr W g (2 ^ k) (fun j => .int .u64 (enc (ar (· + ·) (· - ·) (· * ·) k (co zs) k (rvx k j) * (finv (nat (2 ^ k)) * fpow (finv s) j)))) → Row W (.slice (some ⟨g, 0, none⟩) (2 ^ k) c) (backL zs s k)) := Lib.hid (fun W g c h1 h2 h => by
    refine (h.same (fun j hj => by rw [back_stages (co zs) s k j hk hj, backL_at zs s k j hj])).rowc (backL_len zs s k) h1 h2)
  have w1 : IntKind.u64.wrap (2 ^ k) = ((2 ^ k : Nat) : Int) := by
    rw [IntKind.wrap_u64]
    have : ((2 : Int) ^ k) = ((2 ^ k : Nat) : Int) := by norm_cast
    rw [this]; omega
  subst hl
  obtain ⟨n, hn⟩ : ∃ n, 2 ^ k = n := ⟨_, rfl⟩
  rw [hn] at hp P2 L1 I2 AR RI RV hrx FIN w1 hr ⊢
  have hk0 : (0 : Int) ≤ (k : Int) := by omega
  have hk1 : (k : Int) ≤ 20 := by omega
  have CL := fun (W : World) (h : RowA W a n zs) => clone_u a n cap zs W h hp (by omega)
  have HN := Lib.hid hn
  have HU := Lib.hid hu; have HR := Lib.hid hr; have HT := Lib.hid ht
  have HAR := Lib.hid AR; have HRI := Lib.hid RI; have HRV := Lib.hid RV; have HX := Lib.hid hrx; have HCL := Lib.hid CL
  clear hn hs hs0 hz hu hr ht AR RI RV hrx CL
  have hB0 := ((Below.refl w.heap.size w).alloc (Nat.le_refl _) (.cells #[addU, subU, mulU'] 44))
  have L2 := L1 _ (HT.out.keep hB0)
  have C2 := HCL.out _ (HR.out.keep hB0)
  have hK := K3.new w addU subU mulU' 44
  have HB0 := Lib.hid hB0
  clear hB0 L1
  go_enter Tryd.func26, Tryd.ntmps26
  go_upto_region 5 with (first
    | (go_at_call 47; ((with_reducible refine L2.mono ?_); rintro e w' ⟨rfl, rfl⟩))
    | (go_at_call 48; ((with_reducible refine (I1 _).mono ?_); rintro e w' ⟨rfl, rfl⟩))
    | (go_at_call 32; ((with_reducible refine (F1 _).mono ?_); rintro e w' ⟨rfl, rfl⟩)))
  go_upto_region 7 with (first
    | (go_at_call 48; ((with_reducible refine (I2 _).mono ?_); rintro e w' ⟨rfl, rfl⟩))
    | (go_at_call 49; ((with_reducible refine C2.mono ?_); rintro e w2 ⟨g, c, rfl, hg, hc, hcm, hb2, hA2⟩)))
  have hg1 : w.heap.size < g := by simp only [World.size_alloc] at hg; omega
  have hAF : ArrF false w2 g n (co zs) := ⟨_, hA2, fun j _ => num_co HU.out j⟩
  have R1 := HAR.out g c w2 hAF
  have hlt : g < w2.heap.size := hA2.lt (by omega)
  have hKK := hK.keep hb2
  have HK := Lib.hid hKK
  have HB := Lib.hid (HB0.out.trans (hb2.mono (by simp)))
  have HS : Hid (w.heap.size ≤ w2.heap.size) := Lib.hid (by omega)
  have hn1 : (1 : Int) ≤ (n : Int) := by omega
  have hn2 : n ≤ c := hc
  have hcm2 : c ≤ 9223372036854775807 := hcm
  obtain ⟨k0, k1, k2⟩ := hKK
  clear hA2 hb2 hAF hK C2 L2 I1 I2 w1
  go_upto_region 8 with (go_at_call 46; ((with_reducible refine R1.mono ?_); rintro e w3 ⟨rfl, hb3, hA3⟩))
  obtain ⟨z, hz1, hz2⟩ := hA3
  have R2 := HRV.out g c hc z w3 hz1
  replace HB := Lib.hid (But.below HB.out hb3 (by omega) HS.out)
  replace HS := Lib.hid (Nat.le_trans HS.out hb3.size)
  replace HK := Lib.hid (HK.out.but hb3 (by omega))
  have HZ := Lib.hid hz2
  clear R1 hb3 hz1 hz2 k0 k1 k2 hlt
  go_upto_region 9 with (go_at_call 50; ((with_reducible refine R2.mono ?_); rintro e w4 ⟨rfl, hb4, hA4⟩))
  have hAF : ArrF false w4 g n (fun j => ar (· + ·) (· - ·) (· * ·) k (co zs) k (rvx k j)) := ⟨_, hA4, fun j hj => by
    have hx := HX.out j hj
    rw [hx.1]; exact HZ.out _ hx.2⟩
  have R3 := HRI.out g c w4 _ hAF
  replace HB := Lib.hid (But.below HB.out hb4 (by omega) HS.out)
  replace HS := Lib.hid (Nat.le_trans HS.out hb4.size)
  replace HK := Lib.hid (HK.out.but hb4 (by omega))
  obtain ⟨k0, k1, k2⟩ := HK.out
  clear R2 hb4 hA4 hAF
  go_upto_region 10 with (go_at_call 34; ((with_reducible refine R3.mono ?_); rintro e w5 ⟨rfl, hb5, hA5⟩))
  have HROW := Lib.hid (FIN.out w5 g c hc hcm hA5)
  have HBE := Lib.hid (But.below HB.out hb5 (by omega) HS.out)
  clear R3 hb5 hA5 k0 k1 k2 HB HK FIN
  go_wp2_with fail
  all_goals
    go_ret2
    first
      | exact ⟨_, _, rfl, HBE.out, HROW.out⟩
      | (have e1 : c = 1 := by assumption
         rw [e1] at HROW
         exact ⟨_, _, rfl, HBE.out, HROW.out⟩)

set_option maxHeartbeats 4000000 in
theorem back_no_u (a : Option Addr) (len cap : Nat) (zi : Int) (hz : U zi) (s : F) (hs : toF zi = s) (w : World) (hm : len ≤ 4294967296) (h : ¬ okB len s) (ht : Tab w) :
    Calls Tryd.prog 26 #[kindU, .slice a len cap, .int .u64 zi] w (ErrArg w) := by
  have L1 := log_is (len : Int) (lg len) (by unfold I64; omega) rfl _ (ht.keep ((Below.refl w.heap.size w).alloc (Nat.le_refl _) (.cells #[addU, subU, mulU'] 44)))
  by_cases c : 0 ≤ lg len ∧ lg len ≤ 20
  · have hs0 : toF zi = 0 := by rw [hs]; exact Classical.byContradiction fun h1 => h ⟨c.1, c.2, h1⟩
    have F1 := fits_yes _ c.1 c.2
    have I1 := inv_no zi hz hs0
    clear h hs hs0 c
    generalize lg len = m at *
    go_enter Tryd.func26, Tryd.ntmps26
    go_wp2_with (first
      | (go_at_call 47; ((with_reducible refine L1.mono ?_); rintro e w' ⟨rfl, rfl⟩))
      | (go_at_call 48; ((with_reducible refine (I1 _).mono ?_); rintro e w' ⟨rfl, rfl⟩))
      | (go_at_call 32; ((with_reducible refine (F1 _).mono ?_); rintro e w' ⟨rfl, rfl⟩)))
    go_ret2
    exact ⟨rfl, (Below.refl _ _).alloc (Nat.le_refl _) _⟩
  · have F1 := fits_no _ c
    have I1 : ∃ (v : Int) (b : Bool), ∀ W, Calls Tryd.prog 48 #[.int .u64 zi] W fun e w' => e = .returned (.tuple #[.int .u64 v, .bool b]) ∧ W = w' := by
      by_cases h0 : toF zi = 0
      · exact ⟨_, _, inv_no zi hz h0⟩
      · exact ⟨_, _, inv_yes zi hz h0⟩
    obtain ⟨v, b, I1⟩ := I1
    clear h c hs
    generalize lg len = m at *
    go_enter Tryd.func26, Tryd.ntmps26
    go_wp2_with (first
      | (go_at_call 47; ((with_reducible refine L1.mono ?_); rintro e w' ⟨rfl, rfl⟩))
      | (go_at_call 48; ((with_reducible refine (I1 _).mono ?_); rintro e w' ⟨rfl, rfl⟩))
      | (go_at_call 32; ((with_reducible refine (F1 _).mono ?_); rintro e w' ⟨rfl, rfl⟩)))
    go_ret2
    exact ⟨rfl, (Below.refl _ _).alloc (Nat.le_refl _) _⟩

theorem ask_forth : AskForth := by
  intro a len cap zs zi s k w hz hs hk hr hu hm ht
  have hl := hr.at.1
  have M : ∀ W, Below w.heap.size w W → Calls Tryd.prog 25 #[kindU, .slice a len cap, .int .u64 zi, .int .i64 k] W (OneL (errF zs.length k) (resF zs s k) W) := by
    intro W hb
    by_cases h : okF zs.length k
    · obtain ⟨m, rfl⟩ := Int.eq_ofNat_of_zero_le h.1
      have h3 := h.2.2
      rw [Int.toNat_natCast] at h3
      exact (forth_yes_u a len cap zs zi hz s hs m (by have := h.2.1; omega) W (hr.at.keep hb) hu (by omega)).mono fun e w' h' => OneL.yes h' (by unfold resF; rw [if_pos h, Int.toNat_natCast]) (by unfold errF; rw [if_pos h])
    · exact (forth_no_u a len cap zi k hk W hm (by rw [← hl]; exact h)).mono fun e w' h' => OneL.no h' (by unfold resF; rw [if_neg h]) (by unfold errF; rw [if_neg h])
  generalize errF zs.length k = err at *
  generalize resF zs s k = res at *
  have HM := Lib.hid M
  clear M hr hu ht hl hs hz
  go_enter Tryd.func10, Tryd.ntmps10
  go_wp2_with (first
    | (go_at_call 24; ((with_reducible refine (kind_u _).mono ?_); rintro e w1 ⟨rfl, hb1⟩; have HB := Lib.hid hb1; have M1 := HM.out w1 hb1; clear hb1))
    | (go_at_call 25; ((with_reducible refine M1.mono ?_); rintro e w2 ⟨a', n', c', rfl, hb2, hrow⟩; have HB2 := Lib.hid hb2; have HROW := Lib.hid hrow; clear hb2 hrow M1)))
  go_ret2
  exact ⟨_, _, _, rfl, bthen HB.out HB2.out, HROW.out⟩
theorem ask_back : AskBack := by
  intro a len cap zs zi s w hz hs hr hu hm ht
  have hl := hr.at.1
  have M : ∀ W, Below w.heap.size w W → Calls Tryd.prog 26 #[kindU, .slice a len cap, .int .u64 zi] W (OneL (errB zs.length s) (resB zs s) W) := by
    intro W hb
    by_cases h : okB zs.length s
    · obtain ⟨k, hk, hk2, hk3⟩ := lg_cases zs.length (by omega) h.1 h.2.1
      exact (back_yes_u a len cap zs zi hz s hs h.2.2 k hk W (hr.at.keep hb) hu (by omega) (ht.keep hb)).mono fun e w' h' => OneL.yes h' (by unfold resB; rw [if_pos h, hk3, Int.toNat_natCast]) (by unfold errB; rw [if_pos h])
    · exact (back_no_u a len cap zi hz s hs W hm (by rw [← hl]; exact h) (ht.keep hb)).mono fun e w' h' => OneL.no h' (by unfold resB; rw [if_neg h]) (by unfold errB; rw [if_neg h])
  generalize errB zs.length s = err at *
  generalize resB zs s = res at *
  have HM := Lib.hid M
  clear M hr hu ht hl hs hz
  go_enter Tryd.func12, Tryd.ntmps12
  go_wp2_with (first
    | (go_at_call 24; ((with_reducible refine (kind_u _).mono ?_); rintro e w1 ⟨rfl, hb1⟩; have HB := Lib.hid hb1; have M1 := HM.out w1 hb1; clear hb1))
    | (go_at_call 26; ((with_reducible refine M1.mono ?_); rintro e w2 ⟨a', n', c', rfl, hb2, hrow⟩; have HB2 := Lib.hid hb2; have HROW := Lib.hid hrow; clear hb2 hrow M1)))
  go_ret2
  exact ⟨_, _, _, rfl, bthen HB.out HB2.out, HROW.out⟩

theorem kind_q (w : World) : Calls Tryd.prog 36 #[] w fun e w' => e = .returned kindQ ∧ Below w.heap.size w w' := by
  go_enter Tryd.func36, Tryd.ntmps36
  have hsf := fun (a : Addr) (n : Nat) (w : World) => run_store Tryd.prog w a (.func (.func n) #[] #[]) .plain rfl
  go_wp2
  exact bodyPost_ret (v := kindQ) (by simp [results, Tryd.results36, go_sem]) rfl ⟨rfl, (Below.refl _ _).alloc (Nat.le_refl _) _⟩

set_option maxHeartbeats 4000000 in
theorem forth_yes_q (a : Option Addr) (len cap : Nat) (zs : List (Int × Int)) (zi : Int) (hz : U zi) (s : F) (hs : toF zi = s) (k : Nat) (hk : k ≤ 20) (w : World) (hr : QRowA w a len zs) (hu : ∀ n ∈ zs, U n.1 ∧ U n.2) (hl : len ≤ 2 ^ k) :
    Calls Tryd.prog 37 #[kindQ, .slice a len cap, .int .u64 zi, .int .i64 k] w (NewOkQ w (2 ^ k) (forthQ zs s k)) := by
  have hp := Nat.two_pow_pos k
  have P2 : 2 ^ k ≤ 2 ^ 20 := Nat.pow_le_pow_right (by decide) hk
  have w1 := wrap64_pow k (by omega)
  have hlen := hr.1
  have hmk := fun W => run_make_pairs (P := Tryd.prog) 32 60 (.agg #[.int .u64 0, .int .u64 0]) Tryd.underlying32 infoQ' rfl (2 ^ k) (by omega) W
  have R := fun (W : World) (h : ArrQ false W (w.heap.size + 1) (2 ^ k) (coQ zs)) => rise_q (w.heap.size + 1) (2 ^ k) (2 ^ k) (by omega) hp (coQ zs) 1 zi (U_lit _ rfl rfl) hz 1 s rfl hs false W h
  have AR := fun (W : World) (h : ArrQ true W (w.heap.size + 1) (2 ^ k) (fun j => scale (coQ zs j) (1 * fpow s j))) => around_q (w.heap.size + 1) (2 ^ k) k hk _ true W h
  have FIN : Hid (∀ (W : World), ArrQ true W (w.heap.size + 1) (2 ^ k) (ar (· + ·) (· - ·) scale k (fun j => scale (coQ zs j) (1 * fpow s j)) k) → QRow W (.slice (some ⟨w.heap.size + 1, 0, none⟩) (2 ^ k) (2 ^ k)) (forthQ zs s k)) := Lib.hid (fun W h => by
    refine (h.enc.same (pc_same fun j hj => forth_stagesQ zs s k j hk (by omega) hj)).qrow' (forthQ_len zs s k) (by unfold maxLen; omega))
  have HU := Lib.hid hu
  obtain ⟨n, hn⟩ : ∃ n, 2 ^ k = n := ⟨_, rfl⟩
  have F1 := fits_yes k (by omega) (by omega)
  rw [hn] at hp P2 hl hmk R AR FIN w1 ⊢
  clear hn
  have hl1 : (len : Int) ≤ (n : Int) := by omega
  have hk0 : (0 : Int) ≤ (k : Int) := by omega
  have hk1 : (k : Int) ≤ 20 := by omega
  have HR := Lib.hid hr
  obtain ⟨_, hlm, _⟩ := hr
  unfold maxLen at hlm
  have HLEN := Lib.hid hlen
  clear hs hlen
  have HR2 := Lib.hid R; have HAR := Lib.hid AR
  clear R AR hu hz
  go_enter Tryd.func37, Tryd.ntmps37
  go_upto_region 4 with (go_at_call 32; ((with_reducible refine (F1 _).mono ?_); rintro e w' ⟨rfl, rfl⟩))
  have hA0 := Arr.newq (w.alloc (.cells #[addQ, subQ, scaleQ] 57)) n 60
  have hB0 := ((Below.refl w.heap.size w).alloc (Nat.le_refl _) (.cells #[addQ, subQ, scaleQ] 57))
  have hRA := HR.out.keep hB0
  have hB1 := (Below.refl (w.alloc (.cells #[addQ, subQ, scaleQ] 57)).heap.size (w.alloc (.cells #[addQ, subQ, scaleQ] 57))).alloc (Nat.le_refl _) (.cells (madeCells #[.int .u64 0, .int .u64 0] (n * 2)) 60)
  have hRB := hRA.keep hB1
  have hK := (K3.new w addQ subQ scaleQ 57).keep hB1
  simp only [World.size_alloc] at hA0
  clear hmk w1 F1
  go_upto_region 5 with (refine wpList_copy_arr rfl (.tmp 24) (.tmp 25) 32 32 rfl 60 Tryd.underlying32 2 (by kernel_rfl) (w.heap.size + 1) (n * 2) 0 n n len cap a rfl rfl len (by simp only [Nat.min_def]; rw [if_pos (by omega)]) (flat zs) (by rw [flat_length, HLEN.out]) _ hA0 (fun h0 => hRB.src h0) (fun h0 => by rw [← List.length_eq_zero_iff, flat_length, HLEN.out]; omega) (by rw [flat_length, HLEN.out]; omega) (by intro u hu; obtain ⟨x, _, hx⟩ := List.mem_flatMap.1 hu; simp at hx; rcases hx with rfl | rfl <;> rfl) ?_; intro w2 hb2 hA2)
  have hAF : ArrQ false w2 (w.heap.size + 1) n (coQ zs) := ⟨_, hA2.out.same (fun j _ => cop_q zs j), fun j _ => numq_co HU.out j⟩
  have R2 := HR2.out w2 hAF
  have HB2 := Lib.hid hb2.out
  have hK2 := hK.but hb2.out (by omega)
  have HB1 := Lib.hid (bthen hB0 hB1)
  have HB3 := Lib.hid hB1.size
  clear hA0 hB0 hRA hB1 hRB hb2 hA2 hAF hK
  have HK := Lib.hid hK2
  obtain ⟨k0, k1, k2⟩ := hK2
  go_upto_region 6 with (go_at_call 56; ((with_reducible refine R2.mono ?_); rintro e w3 ⟨rfl, hb3, hA3⟩))
  have R3 := HAR.out w3 (ArrQ.of hA3)
  replace HB2 := Lib.hid (HB2.out.trans hb3)
  replace HK := Lib.hid (HK.out.but hb3 (by omega))
  clear R2 hb3 hA3 k0 k1 k2
  obtain ⟨k0, k1, k2⟩ := HK.out
  go_upto_region 7 with (go_at_call 57; ((with_reducible refine R3.mono ?_); rintro e w4 ⟨rfl, hb4, hA4⟩))
  have HROW := Lib.hid (FIN.out w4 hA4)
  have HBE := Lib.hid (But.below (But.below HB1.out HB2.out (by omega) HB1.out.size) hb4 (by omega) (Nat.le_trans HB1.out.size HB2.out.size))
  clear R3 hb4 hA4 k0 k1 k2 FIN HB2 HK
  go_wp2_with fail
  go_ret2
  exact ⟨_, _, rfl, HBE.out, HROW.out⟩

set_option maxHeartbeats 4000000 in
theorem forth_no_q (a : Option Addr) (len cap : Nat) (zi k : Int) (hI : I64 k) (w : World) (hm : len ≤ 4294967296) (h : ¬ okF len k) :
    Calls Tryd.prog 37 #[kindQ, .slice a len cap, .int .u64 zi, .int .i64 k] w (ErrArg w) := by
  by_cases c : 0 ≤ k ∧ k ≤ 20
  · obtain ⟨m, rfl⟩ := Int.eq_ofNat_of_zero_le c.1
    have F1 := fits_yes m c.1 c.2
    have w1 := wrap64_pow m (by omega)
    have h2 : 2 ^ m < len := Nat.lt_of_not_le fun hle => h ⟨c.1, c.2, by rw [Int.toNat_natCast]; exact hle⟩
    obtain ⟨c0, c1⟩ := c
    clear h
    generalize 2 ^ m = n at *
    have h3 : (n : Int) < (len : Int) := by omega
    go_enter Tryd.func37, Tryd.ntmps37
    go_wp2_with (go_at_call 32; ((with_reducible refine (F1 _).mono ?_); rintro e w' ⟨rfl, rfl⟩))
    go_ret2
    exact ⟨rfl, (Below.refl _ _).alloc (Nat.le_refl _) _⟩
  · have F1 := fits_no k c
    clear h c
    go_enter Tryd.func37, Tryd.ntmps37
    go_wp2_with (go_at_call 32; ((with_reducible refine (F1 _).mono ?_); rintro e w' ⟨rfl, rfl⟩))
    go_ret2
    exact ⟨rfl, (Below.refl _ _).alloc (Nat.le_refl _) _⟩

theorem rev_tail_q (g n c : Nat) (hc : n ≤ c) (h0 : 0 < n) (hn : n ≤ 1048576) (z : Nat → (Int × Int)) (w : World) (hA : Arr w g (n * 2) (pc z)) :
    Calls Tryd.prog 60 #[.slice (if c = 1 then some ⟨g, 0, none⟩ else some ⟨g, 2, none⟩) (n - 1) (c - 1)] w fun e w' => e = .returned (.tuple #[]) ∧ But g w w' ∧ Arr w' g (n * 2) (pc fun j => z (rx 1 (n - 1) j)) := by
  by_cases e : c = 1
  · rw [if_pos e]
    have e2 : n - 1 = 0 := by omega
    rw [e2]
    exact (reverse_q g n 0 0 (c - 1) (by omega) (by omega) z w hA 0 rfl).mono fun e w' ⟨h1, h2, h3⟩ => ⟨h1, h2, h3.same (pc_same fun j hj => by unfold rx; rw [if_neg (by omega), if_neg (by omega)])⟩
  · rw [if_neg e]
    exact reverse_q g n 1 (n - 1) (c - 1) (by omega) (by omega) z w hA 2 rfl

set_option maxHeartbeats 4000000 in
theorem back_yes_q (a : Option Addr) (len cap : Nat) (zs : List (Int × Int)) (zi : Int) (hz : U zi) (s : F) (hs : toF zi = s) (hs0 : s ≠ 0) (k : Nat) (hk : k ≤ 20) (w : World) (hr : QRowA w a len zs) (hu : ∀ n ∈ zs, U n.1 ∧ U n.2) (hl : len = 2 ^ k) (ht : Tab w) :
    Calls Tryd.prog 40 #[kindQ, .slice a len cap, .int .u64 zi] w (NewOkQ w (2 ^ k) (backQ zs s k)) := by
  have hp := Nat.two_pow_pos k
  have P2 : 2 ^ k ≤ 2 ^ 20 := Nat.pow_le_pow_right (by decide) hk
  have L1 := fun (W : World) (h : Tab W) => log_is (len : Int) k (by unfold I64; omega) (by rw [hl]; exact lg_pow k) W h
  have I1 := finv_is zi (enc (finv s)) hz (by rw [hs]; exact hs0) (by rw [hs])
  have I2 := finv_is (((2 ^ k : Nat) : Int)) (enc (finv (nat (2 ^ k)))) (by unfold U; omega) (by rw [toF_nat]; exact nat_pow_ne k (by omega)) (by rw [toF_nat])
  have F1 := fits_yes k (by omega) (by omega)
  have AR := fun (g c : Nat) (W : World) (h : ArrQ false W g (2 ^ k) (coQ zs)) => around_q g c k hk _ false W h
  have RI := fun (g c : Nat) (W : World) (x : Nat → F2) (h : ArrQ false W g (2 ^ k) x) => rise_q g (2 ^ k) c (by omega) hp x (enc (finv (nat (2 ^ k)))) (enc (finv s)) (enc_U _) (enc_U _) (finv (nat (2 ^ k))) (finv s) (toF_enc _) (toF_enc _) false W h
  have RV := fun (g c : Nat) (hc : 2 ^ k ≤ c) (z : Nat → (Int × Int)) (W : World) (h : Arr W g (2 ^ k * 2) (pc z)) => rev_tail_q g (2 ^ k) c hc hp (by omega) z W h
  have hrx : ∀ j, j < 2 ^ k → rx 1 (2 ^ k - 1) j = rvx k j ∧ rvx k j < 2 ^ k := fun j hj => by
    unfold rx rvx
    by_cases h : 1 ≤ j ∧ j < 2 ^ k
    · rw [if_pos h, if_pos (by omega)]; omega
    · rw [if_neg h, if_neg (by omega)]; omega
  have FIN : Hid (∀ (W : World) (g c : Nat), 2 ^ k ≤ c → c ≤ maxLen → Arr W g (2 ^ k * 2) (pc fun j => encP (scale (ar (· + ·) (· - ·) scale k (coQ zs) k (rvx k j)) (finv (nat (2 ^ k)) * fpow (finv s) j))) → QRow W (.slice (some ⟨g, 0, none⟩) (2 ^ k) c) (backQ zs s k)) := Lib.hid (fun W g c h1 h2 h => by
    refine (h.same (pc_same fun j hj => back_stagesQ zs s k j hk hj)).qrowc (backQ_len zs s k) h1 h2)
  have w1 : IntKind.u64.wrap (2 ^ k) = ((2 ^ k : Nat) : Int) := by
    rw [IntKind.wrap_u64]
    have : ((2 : Int) ^ k) = ((2 ^ k : Nat) : Int) := by norm_cast
    rw [this]; omega
  subst hl
  obtain ⟨n, hn⟩ : ∃ n, 2 ^ k = n := ⟨_, rfl⟩
  rw [hn] at hp P2 L1 I2 AR RI RV hrx FIN w1 hr ⊢
  have hk0 : (0 : Int) ≤ (k : Int) := by omega
  have hk1 : (k : Int) ≤ 20 := by omega
  have CL := fun (W : World) (h : QRowA W a n zs) => clone_q a n cap zs W h hp (by omega)
  have HN := Lib.hid hn
  have HU := Lib.hid hu; have HR := Lib.hid hr; have HT := Lib.hid ht
  have HAR := Lib.hid AR; have HRI := Lib.hid RI; have HRV := Lib.hid RV; have HX := Lib.hid hrx; have HCL := Lib.hid CL
  clear hn hs hs0 hz hu hr ht AR RI RV hrx CL
  have hB0 := ((Below.refl w.heap.size w).alloc (Nat.le_refl _) (.cells #[addQ, subQ, scaleQ] 57))
  have L2 := L1 _ (HT.out.keep hB0)
  have C2 := HCL.out _ (HR.out.keep hB0)
  have hK := K3.new w addQ subQ scaleQ 57
  have HB0 := Lib.hid hB0
  clear hB0 L1
  go_enter Tryd.func40, Tryd.ntmps40
  go_upto_region 5 with (first
    | (go_at_call 47; ((with_reducible refine L2.mono ?_); rintro e w' ⟨rfl, rfl⟩))
    | (go_at_call 48; ((with_reducible refine (I1 _).mono ?_); rintro e w' ⟨rfl, rfl⟩))
    | (go_at_call 32; ((with_reducible refine (F1 _).mono ?_); rintro e w' ⟨rfl, rfl⟩)))
  go_upto_region 7 with (first
    | (go_at_call 48; ((with_reducible refine (I2 _).mono ?_); rintro e w' ⟨rfl, rfl⟩))
    | (go_at_call 59; ((with_reducible refine C2.mono ?_); rintro e w2 ⟨g, c, rfl, hg, hc, hcm, hb2, hA2⟩)))
  have hg1 : w.heap.size < g := by simp only [World.size_alloc] at hg; omega
  have hAF : ArrQ false w2 g n (coQ zs) := ⟨_, hA2, fun j _ => numq_co HU.out j⟩
  have R1 := HAR.out g c w2 hAF
  have hlt : g < w2.heap.size := hA2.lt (by omega)
  have hKK := hK.keep hb2
  have HK := Lib.hid hKK
  have HB := Lib.hid (HB0.out.trans (hb2.mono (by simp)))
  have HS : Hid (w.heap.size ≤ w2.heap.size) := Lib.hid (by omega)
  have hn1 : (1 : Int) ≤ (n : Int) := by omega
  have hn2 : n ≤ c := hc
  have hcm2 : c ≤ 9223372036854775807 := hcm
  obtain ⟨k0, k1, k2⟩ := hKK
  clear hA2 hb2 hAF hK C2 L2 I1 I2 w1
  go_upto_region 8 with (go_at_call 57; ((with_reducible refine R1.mono ?_); rintro e w3 ⟨rfl, hb3, hA3⟩))
  obtain ⟨z, hz1, hz2⟩ := hA3
  have R2 := HRV.out g c hc z w3 hz1
  replace HB := Lib.hid (But.below HB.out hb3 (by omega) HS.out)
  replace HS := Lib.hid (Nat.le_trans HS.out hb3.size)
  replace HK := Lib.hid (HK.out.but hb3 (by omega))
  have HZ := Lib.hid hz2
  clear R1 hb3 hz1 hz2 k0 k1 k2 hlt
  go_upto_region 9 with (go_at_call 60; ((with_reducible refine R2.mono ?_); rintro e w4 ⟨rfl, hb4, hA4⟩))
  have hAF : ArrQ false w4 g n (fun j => ar (· + ·) (· - ·) scale k (coQ zs) k (rvx k j)) := ⟨_, hA4, fun j hj => by
    have hx := HX.out j hj
    rw [hx.1]; exact HZ.out _ hx.2⟩
  have R3 := HRI.out g c w4 _ hAF
  replace HB := Lib.hid (But.below HB.out hb4 (by omega) HS.out)
  replace HS := Lib.hid (Nat.le_trans HS.out hb4.size)
  replace HK := Lib.hid (HK.out.but hb4 (by omega))
  obtain ⟨k0, k1, k2⟩ := HK.out
  clear R2 hb4 hA4 hAF
  go_upto_region 10 with (go_at_call 56; ((with_reducible refine R3.mono ?_); rintro e w5 ⟨rfl, hb5, hA5⟩))
  have HROW := Lib.hid (FIN.out w5 g c hc hcm hA5)
  have HBE := Lib.hid (But.below HB.out hb5 (by omega) HS.out)
  clear R3 hb5 hA5 k0 k1 k2 HB HK FIN
  go_wp2_with fail
  all_goals
    go_ret2
    first
      | exact ⟨_, _, rfl, HBE.out, HROW.out⟩
      | (have e1 : c = 1 := by assumption
         rw [e1] at HROW
         exact ⟨_, _, rfl, HBE.out, HROW.out⟩)

set_option maxHeartbeats 4000000 in
theorem back_no_q (a : Option Addr) (len cap : Nat) (zi : Int) (hz : U zi) (s : F) (hs : toF zi = s) (w : World) (hm : len ≤ 4294967296) (h : ¬ okB len s) (ht : Tab w) :
    Calls Tryd.prog 40 #[kindQ, .slice a len cap, .int .u64 zi] w (ErrArg w) := by
  have L1 := log_is (len : Int) (lg len) (by unfold I64; omega) rfl _ (ht.keep ((Below.refl w.heap.size w).alloc (Nat.le_refl _) (.cells #[addQ, subQ, scaleQ] 57)))
  by_cases c : 0 ≤ lg len ∧ lg len ≤ 20
  · have hs0 : toF zi = 0 := by rw [hs]; exact Classical.byContradiction fun h1 => h ⟨c.1, c.2, h1⟩
    have F1 := fits_yes _ c.1 c.2
    have I1 := inv_no zi hz hs0
    clear h hs hs0 c
    generalize lg len = m at *
    go_enter Tryd.func40, Tryd.ntmps40
    go_wp2_with (first
      | (go_at_call 47; ((with_reducible refine L1.mono ?_); rintro e w' ⟨rfl, rfl⟩))
      | (go_at_call 48; ((with_reducible refine (I1 _).mono ?_); rintro e w' ⟨rfl, rfl⟩))
      | (go_at_call 32; ((with_reducible refine (F1 _).mono ?_); rintro e w' ⟨rfl, rfl⟩)))
    go_ret2
    exact ⟨rfl, (Below.refl _ _).alloc (Nat.le_refl _) _⟩
  · have F1 := fits_no _ c
    have I1 : ∃ (v : Int) (b : Bool), ∀ W, Calls Tryd.prog 48 #[.int .u64 zi] W fun e w' => e = .returned (.tuple #[.int .u64 v, .bool b]) ∧ W = w' := by
      by_cases h0 : toF zi = 0
      · exact ⟨_, _, inv_no zi hz h0⟩
      · exact ⟨_, _, inv_yes zi hz h0⟩
    obtain ⟨v, b, I1⟩ := I1
    clear h c hs
    generalize lg len = m at *
    go_enter Tryd.func40, Tryd.ntmps40
    go_wp2_with (first
      | (go_at_call 47; ((with_reducible refine L1.mono ?_); rintro e w' ⟨rfl, rfl⟩))
      | (go_at_call 48; ((with_reducible refine (I1 _).mono ?_); rintro e w' ⟨rfl, rfl⟩))
      | (go_at_call 32; ((with_reducible refine (F1 _).mono ?_); rintro e w' ⟨rfl, rfl⟩)))
    go_ret2
    exact ⟨rfl, (Below.refl _ _).alloc (Nat.le_refl _) _⟩

theorem ask_forthq : AskForthQ := by
  intro a len cap zs zi s k w hz hs hk hr hu hm ht
  have hl := hr.at.1
  have M : ∀ W, Below w.heap.size w W → Calls Tryd.prog 37 #[kindQ, .slice a len cap, .int .u64 zi, .int .i64 k] W (OneLQ (errF zs.length k) (resFQ zs s k) W) := by
    intro W hb
    by_cases h : okF zs.length k
    · obtain ⟨m, rfl⟩ := Int.eq_ofNat_of_zero_le h.1
      have h3 := h.2.2
      rw [Int.toNat_natCast] at h3
      exact (forth_yes_q a len cap zs zi hz s hs m (by have := h.2.1; omega) W (hr.at.keep hb) hu (by omega)).mono fun e w' h' => OneLQ.yes h' (by unfold resFQ; rw [if_pos h, Int.toNat_natCast]) (by unfold errF; rw [if_pos h])
    · exact (forth_no_q a len cap zi k hk W hm (by rw [← hl]; exact h)).mono fun e w' h' => OneLQ.no h' (by unfold resFQ; rw [if_neg h]) (by unfold errF; rw [if_neg h])
  generalize errF zs.length k = err at *
  generalize resFQ zs s k = res at *
  have HM := Lib.hid M
  clear M hr hu ht hl hs hz
  go_enter Tryd.func17, Tryd.ntmps17
  go_wp2_with (first
    | (go_at_call 36; ((with_reducible refine (kind_q _).mono ?_); rintro e w1 ⟨rfl, hb1⟩; have HB := Lib.hid hb1; have M1 := HM.out w1 hb1; clear hb1))
    | (go_at_call 37; ((with_reducible refine M1.mono ?_); rintro e w2 ⟨a', n', c', rfl, hb2, hrow⟩; have HB2 := Lib.hid hb2; have HROW := Lib.hid hrow; clear hb2 hrow M1)))
  go_ret2
  exact ⟨_, _, _, rfl, bthen HB.out HB2.out, HROW.out⟩
theorem ask_backq : AskBackQ := by
  intro a len cap zs zi s w hz hs hr hu hm ht
  have hl := hr.at.1
  have M : ∀ W, Below w.heap.size w W → Calls Tryd.prog 40 #[kindQ, .slice a len cap, .int .u64 zi] W (OneLQ (errB zs.length s) (resBQ zs s) W) := by
    intro W hb
    by_cases h : okB zs.length s
    · obtain ⟨k, hk, hk2, hk3⟩ := lg_cases zs.length (by omega) h.1 h.2.1
      exact (back_yes_q a len cap zs zi hz s hs h.2.2 k hk W (hr.at.keep hb) hu (by omega) (ht.keep hb)).mono fun e w' h' => OneLQ.yes h' (by unfold resBQ; rw [if_pos h, hk3, Int.toNat_natCast]) (by unfold errB; rw [if_pos h])
    · exact (back_no_q a len cap zi hz s hs W hm (by rw [← hl]; exact h) (ht.keep hb)).mono fun e w' h' => OneLQ.no h' (by unfold resBQ; rw [if_neg h]) (by unfold errB; rw [if_neg h])
  generalize errB zs.length s = err at *
  generalize resBQ zs s = res at *
  have HM := Lib.hid M
  clear M hr hu ht hl hs hz
  go_enter Tryd.func19, Tryd.ntmps19
  go_wp2_with (first
    | (go_at_call 36; ((with_reducible refine (kind_q _).mono ?_); rintro e w1 ⟨rfl, hb1⟩; have HB := Lib.hid hb1; have M1 := HM.out w1 hb1; clear hb1))
    | (go_at_call 40; ((with_reducible refine M1.mono ?_); rintro e w2 ⟨a', n', c', rfl, hb2, hrow⟩; have HB2 := Lib.hid hb2; have HROW := Lib.hid hrow; clear hb2 hrow M1)))
  go_ret2
  exact ⟨_, _, _, rfl, bthen HB.out HB2.out, HROW.out⟩

set_option maxHeartbeats 4000000 in
theorem ask_points : AskPoints := by
  intro zi s k w hz hs hk ht
  have hp := Nat.two_pow_pos k
  have P2 : 2 ^ k ≤ 2 ^ 20 := Nat.pow_le_pow_right (by decide) hk
  have w1 := wrap64_pow k (by omega)
  have F1 := fits_yes k (by omega) (by omega)
  have O1 := of_is k (enc (rootOf k)) (by rw [ofv_in (by omega) (by omega)]; rfl)
  have RP := fun (b : Nat) (W : World) (h : W.cell? ⟨b, 0, none⟩ = some (.int .u64 1)) => repeat_one b 1 (2 ^ k) hp (by omega) W h
  have RI := fun (g : Nat) (W : World) (h : ArrF true W g (2 ^ k) (fun _ => 1)) => rise_u g (2 ^ k) (2 ^ k) (by omega) hp (fun _ => 1) zi (enc (rootOf k)) hz (enc_U _) s (rootOf k) hs (toF_enc _) true W h
  have FIN : Hid (∀ (W : World) (g : Nat), Arr W g (2 ^ k) (fun j => .int .u64 (enc (1 * (s * fpow (rootOf k) j)))) → Row W (.slice (some ⟨g, 0, none⟩) (2 ^ k) (2 ^ k)) (pts s k)) := Lib.hid (fun W g h =>
    (h.same (fun j hj => by rw [pts_at s k j hj]; unfold pt; rw [show (1 : F) * (s * fpow (rootOf k) j) = s * fpow (rootOf k) j by grind])).row (pts_len s k) (by unfold maxLen; omega))
  obtain ⟨n, hn⟩ : ∃ n, 2 ^ k = n := ⟨_, rfl⟩
  rw [hn] at hp P2 RP RI FIN w1 ⊢
  have hk0 : (0 : Int) ≤ (k : Int) := by omega
  have hk1 : (k : Int) ≤ 20 := by omega
  have HRP := Lib.hid RP; have HRI := Lib.hid RI
  clear hn hz hs ht RP RI
  go_enter Tryd.func15, Tryd.ntmps15
  go_upto_region 3 with (go_at_call 32; ((with_reducible refine (F1 _).mono ?_); rintro e w' ⟨rfl, rfl⟩))
  have hB0 := (Below.refl w.heap.size w).alloc (Nat.le_refl _) (.cells #[.int .u64 1] 23)
  have R1 := HRP.out w.heap.size (w.alloc (.cells #[.int .u64 1] 23)) (by simp [go_sem])
  go_upto_region 4 with (go_at_call 33; ((with_reducible refine R1.mono ?_); rintro e w2 ⟨g, rfl, hg, hb2, hA2⟩))
  have hg1 : w.heap.size ≤ g := by simp only [World.size_alloc] at hg; omega
  have HB := Lib.hid (hB0.trans (hb2.mono (by simp)))
  have HS : Hid (w.heap.size ≤ w2.heap.size) := Lib.hid (by have := hb2.size; simp at this; omega)
  have hAF : ArrF true w2 g n (fun _ => 1) := ArrF.of hA2
  clear R1 hB0 hb2 hA2 w1
  go_wp2_with (first
    | (go_at_call 24; ((with_reducible refine (kind_u _).mono ?_); rintro e w3 ⟨rfl, hb3⟩; replace HB := Lib.hid (HB.out.trans (hb3.mono HS.out)); replace HS := Lib.hid (Nat.le_trans HS.out hb3.size); have R2 := HRI.out g w3 (hAF.keep hb3); clear hb3 hAF))
    | (go_at_call 35; ((with_reducible refine (O1 _).mono ?_); rintro e w' ⟨rfl, rfl⟩))
    | (go_at_call 34; ((with_reducible refine R2.mono ?_); rintro e w4 ⟨rfl, hb4, hA4⟩; replace HB := Lib.hid (But.below HB.out hb4 hg1 HS.out); have HROW := Lib.hid (FIN.out w4 g hA4); clear hb4 hA4 R2)))
  go_ret
  exact ⟨_, _, rfl, HB.out, HROW.out⟩
end Go.Proofs.YtflabonifbhmnaaDoor
