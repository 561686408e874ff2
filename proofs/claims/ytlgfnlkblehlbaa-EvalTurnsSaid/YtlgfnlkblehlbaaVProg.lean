/-
  The program's two calls of layer 17. (Written by gen_vprog.py.)
-/
import Derived.Test.YtlgfnlkblehlbaaVProQ
import Derived.Test.YtlgfnlkblehlbaaVAw
namespace Go.Proofs.Ytlgfnlkblehlbaa
open Go Go.RowKit
set_option linter.unusedVariables false

set_option maxHeartbeats 4000000 in
theorem vnat_is (a : Option Addr) (n cap : Nat) (zs : List Opn) (b : Option Addr) (lenb capb : Nat) (cs : List (Int)) (c : Option Addr) (lenc capc : Nat) (ds : List (Int)) (cols : Int) (z : F) (w : World) (hO : OpA w a n zs) (hu : ∀ o ∈ zs, OkO o) (hz : EvOk zs cols)
    (hc : RowA w b lenb cs) (hcu : ∀ n ∈ cs, U n) (hlb : cols ≤ lenb) (hd : RowA w c lenc ds) (hdu : ∀ n ∈ ds, U n) (hlc : cols ≤ lenc) (hzz : evB numA (rowF cs) (rowF ds) zs = z) :
    Calls Try.prog 11 #[.slice a n cap, .slice b lenb capb, .slice c lenc capc] w fun E w' => E = .returned (.int .u64 (enc z)) ∧ Below w.heap.size w w' := by
  obtain rfl := hO.1
  have kl : ∀ W, Below w.heap.size w W → Calls Try.prog 30 #[.agg #[.func (.func 25) #[] #[], .func (.func 26) #[] #[], .func (.func 27) #[] #[], .func (.func 28) #[] #[]], .slice a zs.length cap, .slice b lenb capb, .slice c lenc capc] W fun E w' => ∃ r : Int, E = .returned (.int .u64 r) ∧ (U r) ∧ toF r = z ∧ Below W.heap.size W w' := fun W hb =>
    hzz ▸ vnleft_is a cap zs b lenb capb cs c lenc capc ds cols W (hO.keep hb) hu hz (hc.keep hb) hcu hlb (hd.keep hb) hdu hlc
  have hsf := fun (a : Addr) (n : Nat) (w : World) => run_store Try.prog w a (.func (.func n) #[] #[]) .plain rfl
  have HK := Lib.hid kl
  clear hO hu hz hc hcu hd hdu kl hzz
  go_enter Try.func11, Try.ntmps11
  go_upto_region 2 with fail
  refine wp_gen (fun W => Below w.heap.size w W ∧ W.cell? ⟨w.heap.size, 0, none⟩ = some (.func (.func 25) #[] #[]) ∧ W.cell? ⟨w.heap.size, 1, none⟩ = some (.func (.func 26) #[] #[]) ∧ W.cell? ⟨w.heap.size, 2, none⟩ = some (.func (.func 27) #[] #[]) ∧ W.cell? ⟨w.heap.size, 3, none⟩ = some (.func (.func 28) #[] #[])) ⟨(Below.refl _ _).alloc (Nat.le_refl _) _, by simp [go_sem], by simp [go_sem], by simp [go_sem], by simp [go_sem]⟩ ?_
  rintro W1 ⟨hB, c0, c1, c2, c3⟩
  have HB := Lib.hid hB
  clear hB
  go_wp2_with (first
    | (go_at_call 30; (with_reducible refine (HK.out _ HB.out).mono ?_); rintro E w2 ⟨r, rfl, hrU, hr, hb⟩; have HB2 := Lib.hid (bthen HB.out hb); have HR := Lib.hid hr; clear hb hr)
    | (go_at_call 29; (with_reducible refine (sum_one r _ _ hrU (row_one (by simp [go_sem]))).mono ?_); rintro E w3 ⟨rfl, rfl⟩))
  go_ret
  exact ⟨by rw [HR.out]; rfl, HB2.out.alloc HB2.out.size _⟩
set_option maxHeartbeats 4000000 in
theorem vqat_is (a : Option Addr) (n cap : Nat) (zs : List Opn) (b : Option Addr) (lenb capb : Nat) (cs : List (Int × Int)) (c : Option Addr) (lenc capc : Nat) (ds : List (Int × Int)) (cols : Int) (z : F2) (w : World) (hO : OpA w a n zs) (hu : ∀ o ∈ zs, OkO o) (hz : EvOk zs cols)
    (hc : QRowA w b lenb cs) (hcu : ∀ n ∈ cs, U n.1 ∧ U n.2) (hlb : cols ≤ lenb) (hd : QRowA w c lenc ds) (hdu : ∀ n ∈ ds, U n.1 ∧ U n.2) (hlc : cols ≤ lenc) (hzz : evB pairA (rowQ cs) (rowQ ds) zs = z) :
    Calls Try.prog 13 #[.slice a n cap, .slice b lenb capb, .slice c lenc capc] w fun E w' => E = .returned (.agg #[.int .u64 (enc z.a), .int .u64 (enc z.b)]) ∧ Below w.heap.size w w' := by
  obtain rfl := hO.1
  have kl : ∀ W, Below w.heap.size w W → Calls Try.prog 36 #[.agg #[.func (.func 31) #[] #[], .func (.func 32) #[] #[], .func (.func 33) #[] #[], .func (.func 34) #[] #[]], .slice a zs.length cap, .slice b lenb capb, .slice c lenc capc] W fun E w' => ∃ r : Int × Int, E = .returned (.agg #[.int .u64 r.1, .int .u64 r.2]) ∧ (U r.1 ∧ U r.2) ∧ toQ r = z ∧ Below W.heap.size W w' := fun W hb =>
    hzz ▸ vqleft_is a cap zs b lenb capb cs c lenc capc ds cols W (hO.keep hb) hu hz (hc.keep hb) hcu hlb (hd.keep hb) hdu hlc
  have hsf := fun (a : Addr) (n : Nat) (w : World) => run_store Try.prog w a (.func (.func n) #[] #[]) .plain rfl
  have HK := Lib.hid kl
  clear hO hu hz hc hcu hd hdu kl hzz
  go_enter Try.func13, Try.ntmps13
  go_upto_region 2 with fail
  refine wp_gen (fun W => Below w.heap.size w W ∧ Var W w.heap.size 0 0 ∧ W.cell? ⟨w.heap.size + 1, 0, none⟩ = some (.func (.func 31) #[] #[]) ∧ W.cell? ⟨w.heap.size + 1, 1, none⟩ = some (.func (.func 32) #[] #[]) ∧ W.cell? ⟨w.heap.size + 1, 2, none⟩ = some (.func (.func 33) #[] #[]) ∧ W.cell? ⟨w.heap.size + 1, 3, none⟩ = some (.func (.func 34) #[] #[])) ⟨((Below.refl _ _).alloc (Nat.le_refl _) _).alloc (by simp) _, (Var.new _ _ _ _).alloc _, by simp [go_sem], by simp [go_sem], by simp [go_sem], by simp [go_sem]⟩ ?_
  obtain ⟨g, hg⟩ : ∃ g, w.heap.size = g := ⟨_, rfl⟩
  rintro W1 ⟨hB, hV, c0, c1, c2, c3⟩
  have HG := Lib.hid (show w.heap.size ≤ g by omega)
  simp only [hg] at hV c0 c1 c2 c3 ⊢
  have HB := Lib.hid hB; have HV := Lib.hid hV
  clear hB hV hg
  go_wp2_with (first
    | (go_at_call 36; (with_reducible refine (HK.out _ HB.out).mono ?_); rintro E w2 ⟨⟨r0, r1⟩, rfl, hrU, hr, hb⟩; have HB2 := Lib.hid (bthen HB.out hb); have HV2 := Lib.hid (HV.out.keep hb); have HR := Lib.hid hr; clear hb hr)
    | (go_at_call 35; (with_reducible refine (psum_q _ [(r0, r1)] _ (qrow_one (x := r0) (y := r1) (by simp [go_sem]) (by simp [go_sem])) (by intro n hn; simp at hn; subst hn; exact hrU)).mono ?_); rintro E w3 ⟨rfl, hb⟩; have hb2 := bthen ((Below.refl w2.heap.size w2).alloc (Nat.le_refl _) (.cells #[.int .u64 r0, .int .u64 r1] 29)) (by simpa using hb); have HB3 := Lib.hid (bthen HB2.out hb2); obtain ⟨v0, v1, f0, f1⟩ := HV2.out.keep hb2; clear hb hb2))
  have hq : qsum (([(r0, r1)] : List (Int × Int)).map toQ) = z := by rw [← HR.out]; show toQ (r0, r1) + 0 = _; rw [F2.add_zero]
  exact bodyPost_ret (v := .agg #[.int .u64 (enc z.a), .int .u64 (enc z.b)]) (by rw [← hq]; simp [results, Try.results13, go_sem, v0, v1]) rfl ⟨rfl, (HB3.out.setCell HG.out _).setCell HG.out _⟩
theorem ask17 : AskEval (fun _ => True) where
  keep := fun _ _ => trivial
  numR := fun a n cap zs b lenb capb cs c lenc capc ds cols z W hO hu hz hc hcu hlb hd hdu hlc hzz _ => vnat_is a n cap zs b lenb capb cs c lenc capc ds cols z W hO hu hz hc hcu hlb hd hdu hlc hzz
  pairsR := fun a n cap zs b lenb capb cs c lenc capc ds cols z W hO hu hz hc hcu hlb hd hdu hlc hzz _ => vqat_is a n cap zs b lenb capb cs c lenc capc ds cols z W hO hu hz hc hcu hlb hd hdu hlc hzz
end Go.Proofs.Ytlgfnlkblehlbaa
