/-
  What is asked of the program's calls of layer 17; the awake of its law; right; the walk of EvalConst.
-/
import Derived.Test.YtlgfnlkblehlbaaEvalRefQ
import Derived.Test.YtlgfnlkblehlbaaTwoRel
namespace Go.Proofs.Ytlgfnlkblehlbaa
open Go Go.RowKit
set_option linter.unusedVariables false

structure AskEval (G : World → Prop) : Prop where
  keep : ∀ {W W' : World}, G W → Below W.heap.size W W' → G W'
  numR : ∀ (a : Option Addr) (n cap : Nat) (zs : List Opn) (b : Option Addr) (lenb capb : Nat) (cs : List Int) (c : Option Addr) (lenc capc : Nat) (ds : List Int) (cols : Int) (z : F) (W : World), OpA W a n zs → (∀ o ∈ zs, OkO o) → EvOk zs cols →
    RowA W b lenb cs → (∀ n ∈ cs, U n) → cols ≤ lenb → RowA W c lenc ds → (∀ n ∈ ds, U n) → cols ≤ lenc → evB numA (rowF cs) (rowF ds) zs = z → G W →
    Calls Try.prog 11 #[.slice a n cap, .slice b lenb capb, .slice c lenc capc] W fun E w' => E = .returned (.int .u64 (enc z)) ∧ Below W.heap.size W w'
  pairsR : ∀ (a : Option Addr) (n cap : Nat) (zs : List Opn) (b : Option Addr) (lenb capb : Nat) (cs : List (Int × Int)) (c : Option Addr) (lenc capc : Nat) (ds : List (Int × Int)) (cols : Int) (z : F2) (W : World), OpA W a n zs → (∀ o ∈ zs, OkO o) → EvOk zs cols →
    QRowA W b lenb cs → (∀ n ∈ cs, U n.1 ∧ U n.2) → cols ≤ lenb → QRowA W c lenc ds → (∀ n ∈ ds, U n.1 ∧ U n.2) → cols ≤ lenc → evB pairA (rowQ cs) (rowQ ds) zs = z → G W →
    Calls Try.prog 13 #[.slice a n cap, .slice b lenb capb, .slice c lenc capc] W fun E w' => E = .returned (.agg #[.int .u64 (enc z.a), .int .u64 (enc z.b)]) ∧ Below W.heap.size W w'
theorem AskEval.num {G : World → Prop} (hA : AskEval G) (a : Option Addr) (n cap : Nat) (zs : List Opn) (b : Option Addr) (lenb capb : Nat) (cs : List Int) (c : Option Addr) (lenc capc : Nat) (ds : List Int) (cols : Int) (d : Nat) (z : F) (W : World) (h1 : OpA W a n zs) (h2 : ∀ o ∈ zs, OkO o) (h3 : checkB zs cols true = (d, 0))
    (h4 : RowA W b lenb cs) (h5 : ∀ n ∈ cs, U n) (h6 : cols ≤ lenb) (h7 : RowA W c lenc ds) (h8 : ∀ n ∈ ds, U n) (h9 : cols ≤ lenc) (h10 : evB numA (rowF cs) (rowF ds) zs = z) (h11 : G W) :
    Calls Try.prog 11 #[.slice a n cap, .slice b lenb capb, .slice c lenc capc] W fun E w' => E = .returned (.int .u64 (enc z)) ∧ Below W.heap.size W w' :=
  hA.numR a n cap zs b lenb capb cs c lenc capc ds cols z W h1 h2 (checkB_evok h3) h4 h5 h6 h7 h8 h9 h10 h11
theorem AskEval.pairs {G : World → Prop} (hA : AskEval G) (a : Option Addr) (n cap : Nat) (zs : List Opn) (b : Option Addr) (lenb capb : Nat) (cs : List (Int × Int)) (c : Option Addr) (lenc capc : Nat) (ds : List (Int × Int)) (cols : Int) (d : Nat) (z : F2) (W : World) (h1 : OpA W a n zs) (h2 : ∀ o ∈ zs, OkO o) (h3 : checkB zs cols true = (d, 0))
    (h4 : QRowA W b lenb cs) (h5 : ∀ n ∈ cs, U n.1 ∧ U n.2) (h6 : cols ≤ lenb) (h7 : QRowA W c lenc ds) (h8 : ∀ n ∈ ds, U n.1 ∧ U n.2) (h9 : cols ≤ lenc) (h10 : evB pairA (rowQ cs) (rowQ ds) zs = z) (h11 : G W) :
    Calls Try.prog 13 #[.slice a n cap, .slice b lenb capb, .slice c lenc capc] W fun E w' => E = .returned (.agg #[.int .u64 (enc z.a), .int .u64 (enc z.b)]) ∧ Below W.heap.size W w' :=
  hA.pairsR a n cap zs b lenb capb cs c lenc capc ds cols z W h1 h2 (checkB_evok h3) h4 h5 h6 h7 h8 h9 h10 h11
theorem opA_litE (W : World) (t : TypeId) (l : List Opn) (cs : Array Value) (h : cs.toList = flatO l) (hl : l.length ≤ 1000) : OpA (W.alloc (.cells cs t)) (some ⟨W.heap.size, 0, none⟩) l.length l := by
  refine ⟨rfl, by unfold maxLen; omega, fun k hk => ⟨W.heap.size, 0, rfl, ?_⟩⟩
  obtain ⟨f0, f1⟩ := flatO_at l k hk
  have e : ∀ j v, (flatO l)[j]? = some v → (W.alloc (.cells cs t)).cell? ⟨W.heap.size, j, none⟩ = some v := fun j v hv => by
    rw [← h] at hv
    have : cs[j]? = some v := by simpa using hv
    simp [go_sem, this]
  rw [Nat.zero_add]
  exact ⟨e _ _ f0, e _ _ f1⟩
abbrev litE : List Opn := [(1, 0), (3, 5), (6, 0), (2, 0), (5, 0)]
theorem litE_ok : ∀ o ∈ litE, OkO o := by
  intro o ho
  simp only [litE, List.mem_cons, List.not_mem_nil, or_false] at ho
  rcases ho with rfl | rfl | rfl | rfl | rfl <;> exact ⟨by decide, by unfold U; decide⟩
theorem litE_check : checkB litE 1 true = (1, 0) := by decide +kernel
theorem litE_num : evB numA (rowF [3]) (rowF [1]) litE = toF 14 := by decide +kernel
theorem litE_pair : evB pairA (rowQ [(3, 1)]) (rowQ [(1, 0)]) litE = ⟨toF 14, toF 5⟩ := by decide +kernel
theorem rright_is (a : Option Addr) (n cap : Nat) (zs : List Opn) (cols : Int) (d : Nat) (e : Int) (r : Bool) (w : World) (hO : OpA w a n zs) (hu : ∀ o ∈ zs, OkO o) (hc : -9223372036854775808 ≤ cols ∧ cols ≤ 9223372036854775807) (hz : checkB zs cols true = (d, e)) (hr : (e == 0) = r) :
    Calls Try.prog 9 #[.slice a n cap, .int .i64 cols] w fun E w' => E = .returned (.bool r) ∧ Below w.heap.size w w' := by
  obtain rfl := hO.1
  have k1 := rscheck_is a cap zs cols true d e w hO hu hc hz
  clear hO hu hz
  go_enter Try.func9, Try.ntmps9
  go_wp2_with (go_at_call 20; (with_reducible refine k1.mono ?_); rintro E w1 ⟨rfl, hb⟩)
  go_ret
  exact ⟨by rw [← hr]; rfl, hb⟩
set_option maxRecDepth 100000 in
set_option maxHeartbeats 8000000 in
theorem vawake (G : World → Prop) (hA : AskEval G) (w : World) (hG0 : G w) : Calls Try.prog 10 #[] w fun e w' => e = .returned (.bool true) ∧ Below w.heap.size w w' := by
  have HK := Lib.hid (fun (W W' : World) => @AskEval.keep G hA W W')
  have HG0 := Lib.hid hG0
  have k1 := fun W b c h hg h2 h3 => hA.num (some ⟨w.heap.size, 0, none⟩) 5 5 litE b 1 1 [3] c 1 1 [1] 1 1 _ W h litE_ok litE_check h2 (by intro n hn; simp at hn; subst hn; unfold U; decide) (by decide) h3 (by intro n hn; simp at hn; subst hn; unfold U; decide) (by decide) litE_num hg
  have k2 := fun W b c h hg h2 h3 => hA.pairs (some ⟨w.heap.size, 0, none⟩) 5 5 litE b 1 1 [(3, 1)] c 1 1 [(1, 0)] 1 1 _ W h litE_ok litE_check h2 (by intro n hn; simp at hn; subst hn; unfold U; decide) (by decide) h3 (by intro n hn; simp at hn; subst hn; unfold U; decide) (by decide) litE_pair hg
  have hal := fun (W : World) (o : Obj) => (Below.refl W.heap.size W).alloc (Nat.le_refl _) o
  clear hA hG0
  go_enter Try.func10, Try.ntmps10
  go_upto_region 2 with fail
  refine wp_gen (fun W => Below w.heap.size w W ∧ OpA W (some ⟨w.heap.size, 0, none⟩) 5 litE) ⟨hal _ _, opA_litE w _ litE #[.int .i64 1, .int .u64 0, .int .i64 3, .int .u64 5, .int .i64 6, .int .u64 0, .int .i64 2, .int .u64 0, .int .i64 5, .int .u64 0] rfl (by decide)⟩ ?_
  obtain ⟨g, hg⟩ : ∃ g, w.heap.size = g := ⟨_, rfl⟩
  rintro W1 ⟨hB, hO⟩
  have HB := Lib.hid hB; have HO := Lib.hid hO
  rw [hg] at HO k1 k2
  simp only [hg]
  clear hB hO hg
  have e14 : enc (toF 14) = 14 := by decide +kernel
  have e5 : enc (toF 5) = 5 := by decide +kernel
  rw [e14] at k1
  simp only [e14, e5] at k2
  clear e14 e5
  go_wp2_with (first
    | (go_at_call 11; (with_reducible refine (k1 _ (some ⟨W1.heap.size, 0, none⟩) (some ⟨W1.heap.size + 1, 0, none⟩) (HO.out.keep (((Below.refl _ _).alloc (Nat.le_refl _) _).alloc (by simp) _)) (HK.out _ _ HG0.out ((HB.out.alloc HB.out.size _).alloc (by have := HB.out.size; simp; omega) _)) ((row_one (by simp [go_sem])).at) ((row_one (by simp [go_sem])).at)).mono ?_); rintro e w2 ⟨rfl, hb⟩; have hb2 := bthen (((Below.refl W1.heap.size W1).alloc (Nat.le_refl _) (.cells #[.int .u64 3] 27)).alloc (by simp) (.cells #[.int .u64 1] 27)) (by simpa using hb); replace HB := Lib.hid (bthen HB.out hb2); replace HO := Lib.hid (HO.out.keep hb2); clear hb hb2)
    | (go_at_call 13; (with_reducible refine (k2 _ (some ⟨w2.heap.size, 0, none⟩) (some ⟨w2.heap.size + 1, 0, none⟩) (HO.out.keep (((Below.refl _ _).alloc (Nat.le_refl _) _).alloc (by simp) _)) (HK.out _ _ HG0.out ((HB.out.alloc HB.out.size _).alloc (by have := HB.out.size; simp; omega) _)) ((qrow_one (by simp [go_sem]) (by simp [go_sem])).at) ((qrow_one (by simp [go_sem]) (by simp [go_sem])).at)).mono ?_); rintro e w3 ⟨rfl, hb⟩; have hb2 := bthen (((Below.refl w2.heap.size w2).alloc (Nat.le_refl _) (.cells #[.int .u64 3, .int .u64 1] 29)).alloc (by simp) (.cells #[.int .u64 1, .int .u64 0] 29)) (by simpa using hb); replace HB := Lib.hid (bthen HB.out hb2); clear hb hb2))
  go_ret
  exact ⟨rfl, HB.out⟩
theorem min_nat (x y : Nat) : min (x : Int) (y : Int) = ((min x y : Nat) : Int) := by omega
set_option maxRecDepth 100000 in
set_option maxHeartbeats 8000000 in
theorem vconst_body (G : World → Prop) (hA : AskEval G) (aw : ∀ W, G W → Calls Try.prog 10 #[] W fun e w' => e = .returned (.bool true) ∧ Below W.heap.size W w') (a : Option Addr) (n cap : Nat) (zs : List Opn) (b : Option Addr) (lb capb : Nat) (cs : List Int) (c : Option Addr) (lc capc : Nat) (ds : List Int) (w : World) (hG0 : G w) (hO : OpA w a n zs) (hu : ∀ o ∈ zs, OkO o) (hc : RowA w b lb cs) (hcu : ∀ n ∈ cs, U n) (hd : RowA w c lc ds) (hdu : ∀ n ∈ ds, U n) :
    Calls Try.prog 8 #[.slice a n cap, .slice b lb capb, .slice c lc capc] w fun e w' => e = .returned (.bool true) ∧ Below w.heap.size w w' := by
  have HK := Lib.hid (fun (W W' : World) => @AskEval.keep G hA W W')
  have HG0 := Lib.hid hG0
  have hmax := hO.2.1; have hmb := hc.2.1; have hmc := hd.2.1
  unfold maxLen at hmax hmb hmc
  obtain rfl := hO.1
  obtain ⟨m, hm⟩ : ∃ m, min lb lc = m := ⟨_, rfl⟩
  have hmn : min (lb : Int) (lc : Int) = (m : Int) := by rw [← hm]; exact min_nat lb lc
  have hm1 : m ≤ lb := by omega
  have hm2 : m ≤ lc := by omega
  obtain ⟨d, e, hz⟩ : ∃ d e, checkB zs (m : Int) true = (d, e) := ⟨_, _, rfl⟩
  have k0 := rscheck_is a cap zs (m : Int) true d e w hO hu (by omega) hz
  have HB : Hid (Below w.heap.size w w) := Lib.hid (Below.refl _ _)
  have HO := Lib.hid hO; have HC := Lib.hid hc; have HD := Lib.hid hd
  by_cases hgo : e = 0 ∧ d = 0
  · obtain ⟨rfl, rfl⟩ := hgo
    obtain ⟨z, hz1⟩ : ∃ z, evB numA (rowF cs) (rowF cs) zs = z := ⟨_, rfl⟩
    have hz2 : evB numA (rowF ds) (rowF ds) zs = z := by rw [← hz1]; exact evB_const numA _ _ _ _ (fun o ho => (hu o ho).2.1) hz
    have k1 := fun (W : World) (hb : Below w.heap.size w W) => hA.num a zs.length cap zs b lb capb cs b lb capb cs m 0 z W (HO.out.keep hb) hu hz (HC.out.keep hb) hcu (by omega) (HC.out.keep hb) hcu (by omega) hz1 (HK.out _ _ HG0.out hb)
    have k2 := fun (W : World) (hb : Below w.heap.size w W) => hA.num a zs.length cap zs c lc capc ds c lc capc ds m 0 z W (HO.out.keep hb) hu hz (HD.out.keep hb) hdu (by omega) (HD.out.keep hb) hdu (by omega) hz2 (HK.out _ _ HG0.out hb)
    clear hO hu hc hd hz hz1 hz2 hm HO HC HD
    by_cases b1 : (300 : Int) < (zs.length : Int)
    · go_enter Try.func8, Try.ntmps8
      go_wp2_with (first
        | (go_at_call 20; (with_reducible refine k0.mono ?_); rintro e w1 ⟨rfl, hb⟩; replace HB := Lib.hid (bthen HB.out hb); clear hb)
        | (go_at_call 10; (with_reducible refine (aw _ (HK.out _ _ HG0.out HB.out)).mono ?_); rintro e w1 ⟨rfl, hb⟩; replace HB := Lib.hid (bthen HB.out hb); clear hb))
      go_ret
      exact ⟨rfl, HB.out⟩
    by_cases b2 : (8 : Int) < (m : Int)
    · go_enter Try.func8, Try.ntmps8
      go_wp2_with (first
        | (go_at_call 20; (with_reducible refine k0.mono ?_); rintro e w1 ⟨rfl, hb⟩; replace HB := Lib.hid (bthen HB.out hb); clear hb)
        | (go_at_call 10; (with_reducible refine (aw _ (HK.out _ _ HG0.out HB.out)).mono ?_); rintro e w1 ⟨rfl, hb⟩; replace HB := Lib.hid (bthen HB.out hb); clear hb))
      go_ret
      exact ⟨rfl, HB.out⟩
    go_enter Try.func8, Try.ntmps8
    go_wp2_with (first
      | (go_at_call 20; (with_reducible refine k0.mono ?_); rintro e w1 ⟨rfl, hb⟩; replace HB := Lib.hid (bthen HB.out hb); clear hb)
      | (go_at_call 11; (first | with_reducible refine (k1 _ HB.out).mono ?_ | with_reducible refine (k2 _ HB.out).mono ?_); rintro e w1 ⟨rfl, hb⟩; replace HB := Lib.hid (bthen HB.out hb); clear hb)
      | (go_at_call 10; (with_reducible refine (aw _ (HK.out _ _ HG0.out HB.out)).mono ?_); rintro e w1 ⟨rfl, hb⟩; replace HB := Lib.hid (bthen HB.out hb); clear hb))
    go_ret
    exact ⟨rfl, HB.out⟩
  · clear hO hu hc hd hz hm HO HC HD
    by_cases he : e = 0
    · subst he
      have hd0 : (0 : Int) < (d : Int) := by omega
      by_cases b1 : (300 : Int) < (zs.length : Int)
      all_goals
        by_cases b2 : (8 : Int) < (m : Int)
        all_goals
          go_enter Try.func8, Try.ntmps8
          go_wp2_with (first
            | (go_at_call 20; (with_reducible refine k0.mono ?_); rintro e w1 ⟨rfl, hb⟩; replace HB := Lib.hid (bthen HB.out hb); clear hb)
            | (go_at_call 10; (with_reducible refine (aw _ (HK.out _ _ HG0.out HB.out)).mono ?_); rintro e w1 ⟨rfl, hb⟩; replace HB := Lib.hid (bthen HB.out hb); clear hb))
          go_ret
          exact ⟨rfl, HB.out⟩
    · have he' : (e != 0) = true := by simp [he]
      by_cases b1 : (300 : Int) < (zs.length : Int)
      all_goals
        by_cases b2 : (8 : Int) < (m : Int)
        all_goals
          go_enter Try.func8, Try.ntmps8
          go_wp2_with (first
            | (go_at_call 20; (with_reducible refine k0.mono ?_); rintro e w1 ⟨rfl, hb⟩; replace HB := Lib.hid (bthen HB.out hb); clear hb)
            | (go_at_call 10; (with_reducible refine (aw _ (HK.out _ _ HG0.out HB.out)).mono ?_); rintro e w1 ⟨rfl, hb⟩; replace HB := Lib.hid (bthen HB.out hb); clear hb))
          go_ret
          exact ⟨rfl, HB.out⟩
end Go.Proofs.Ytlgfnlkblehlbaa
