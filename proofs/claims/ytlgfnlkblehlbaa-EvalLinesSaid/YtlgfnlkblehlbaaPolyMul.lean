/-
  What the document's Mul and Divide of layer 5 come to: contracts for the walk. (Written by gen_polyref3.py.)
-/
import Derived.Test.YtlgfnlkblehlbaaPTrim
import Derived.Test.YtlgfnlkblehlbaaGNum
import Derived.IntWalk
namespace Go.Proofs.Ytlgfnlkblehlbaa
open Go.RowKit
set_option linter.unusedVariables false

/-- A product; a quotient. -/
def mulP (l m : List F2) : List F2 := pl (l.length + m.length - 1) (cv (cq l) (cq m))
def divP (l : List F2) (x : F2) : List F2 := pl (l.length - 1) (dq l.length (cq l) x)
theorem mulP_upto (l m : List F2) : Upto (l.length + m.length - 1) (cv (cq l) (cq m)) := cv_upto (cq_upto l) (cq_upto m)
theorem pl_nil {n : Nat} {c : Nat → F2} (h : ∀ i, c i = 0) : pl n c = [] := by unfold pl; rw [tn_nil h]; rfl
theorem mulP_nil (l m : List F2) (h : l.length = 0 ∨ m.length = 0) : mulP l m = [] := pl_nil fun i => sq_none fun j _ => by
  rcases h with h | h
  · rw [cq_upto l j (by omega), F2.zero_mul]
  · rw [cq_upto m (i - j) (by omega), F2.mul_zero]
/-- The first i rows of a product. -/
def cvp (a b : Nat → F2) (i p : Nat) : F2 := sq i (fun j => if j ≤ p then a j * b (p - j) else 0)
theorem cvp_all {a b : Nat → F2} {n : Nat} (ha : Upto n a) (p : Nat) : cvp a b n p = cv a b p := by
  unfold cvp cv
  rcases Nat.le_total n (p + 1) with h | h
  · rw [sq_more (f := fun j => a j * b (p - j)) h (fun i h1 _ => by rw [ha i h1, F2.zero_mul])]
    exact sq_congr fun j hj => if_pos (by omega)
  · rw [sq_more (n := p + 1) h (fun i h1 _ => if_neg (by omega))]
    exact sq_congr fun j hj => if_pos (by omega)
/-- .. and of the next one its first j. -/
def cvr (a b : Nat → F2) (i j p : Nat) : F2 := cvp a b i p + if i ≤ p ∧ p < i + j then a i * b (p - i) else 0
theorem cvr_zero (a b : Nat → F2) (i p : Nat) : cvr a b i 0 p = cvp a b i p := by unfold cvr; rw [if_neg (by omega), F2.add_zero]
theorem cvr_end {a b : Nat → F2} {m : Nat} (hb : Upto m b) (i p : Nat) : cvr a b i m p = cvp a b (i + 1) p := by
  unfold cvr cvp
  rw [sq_succ]
  congr 1
  by_cases h : i ≤ p
  · rw [if_pos h]
    by_cases h2 : p < i + m
    · rw [if_pos ⟨h, h2⟩]
    · rw [if_neg (fun h => h2 h.2), hb (p - i) (by omega), F2.mul_zero]
  · rw [if_neg h, if_neg (fun h' => h h'.1)]
theorem cvr_step (a b : Nat → F2) (i j p : Nat) : cvr a b i (j + 1) p = if p = i + j then cvr a b i j p + a i * b j else cvr a b i j p := by
  unfold cvr
  by_cases h : p = i + j
  · rw [if_pos h, if_pos (by omega), if_neg (by omega), F2.add_zero, show p - i = j by omega]
  · rw [if_neg h]
    by_cases h2 : i ≤ p ∧ p < i + j
    · rw [if_pos h2, if_pos (by omega)]
    · rw [if_neg h2, if_neg (by omega)]

def MulOut (w : World) (n la : Nat) (a b : Nat → F2) (i : Value) (W : World) : Prop :=
  ∃ k : Nat, k ≤ la ∧ i = .int .i64 k ∧ Below w.heap.size w W ∧ Arr W w.heap.size (n * 2) (pc fun p => encP (cvp a b k p))
def MulIn (w : World) (n lb : Nat) (a b : Nat → F2) (k : Nat) (j : Value) (W : World) : Prop :=
  ∃ q : Nat, q ≤ lb ∧ j = .int .i64 q ∧ Below w.heap.size w W ∧ Arr W w.heap.size (n * 2) (pc fun p => encP (cvr a b k q p))
def MulR (g n b off len cap b2 off2 len2 cap2 i j p : Nat) (o0 o1 x0 x1 y0 y1 m0 m1 n0 n1 : Int) (sl : Nat) (v : Value) (W : World) : Prop :=
  match sl with
  | 35 => v = .slice (some ⟨g, 0, none⟩) n n
  | 36 => v = .int .i64 i
  | 37 => v = .int .i64 j
  | 38 => v = .int .i64 p
  | 39 => v = .slice (some ⟨g, 0, none⟩) n n
  | 40 => v = .int .i64 i
  | 41 => v = .int .i64 j
  | 42 => v = .int .i64 p
  | 43 => v = .pointer (some ⟨g, p * 2, none⟩)
  | 44 => v = .agg #[.int .u64 o0, .int .u64 o1]
  | 45 => v = .slice (some ⟨b, off, none⟩) len cap
  | 46 => v = .int .i64 i
  | 47 => v = .pointer (some ⟨b, off + i * 2, none⟩)
  | 48 => v = .agg #[.int .u64 x0, .int .u64 x1]
  | 49 => v = .slice (some ⟨b2, off2, none⟩) len2 cap2
  | 50 => v = .int .i64 j
  | 51 => v = .pointer (some ⟨b2, off2 + j * 2, none⟩)
  | 52 => v = .agg #[.int .u64 y0, .int .u64 y1]
  | 53 => v = .agg #[.int .u64 m0, .int .u64 m1]
  | 54 => v = .agg #[.int .u64 n0, .int .u64 n1]
  | _ => v = .pointer (some ⟨g, p * 2, none⟩)
theorem MulR.keep {g n b off len cap b2 off2 len2 cap2 i j p : Nat} {o0 o1 x0 x1 y0 y1 m0 m1 n0 n1 : Int} {sl : Nat} {v : Value} {W W' : World} (h : MulR g n b off len cap b2 off2 len2 cap2 i j p o0 o1 x0 x1 y0 y1 m0 m1 n0 n1 sl v W) (hb : Below W.heap.size W W') : MulR g n b off len cap b2 off2 len2 cap2 i j p o0 o1 x0 x1 y0 y1 m0 m1 n0 n1 sl v W' := h

set_option maxHeartbeats 8000000 in
theorem rmulP_core (a b : Option Addr) (la lb ca cb n : Nat) (l m' : List F2) (w : World) (h1 : Poly w (.slice a la ca) l) (h2 : Poly w (.slice b lb cb) m') (hla : 0 < la) (hlb : 0 < lb) (hla2 : la ≤ 1073741824) (hlb2 : lb ≤ 1073741824) (hn : la + lb - 1 = n) :
    Calls Try.prog 43 #[.slice a la ca, .slice b lb cb] w (RetF (mulP l m') w) := by
  obtain ⟨e1, hm1, hc1⟩ := h1.at
  obtain ⟨e2, hm2, hc2⟩ := h2.at
  have HTR : Hid (∀ (W : World) (g : Nat), Arr W g (n * 2) (pc fun j => encP (cv (cq l) (cq m') j)) → Calls Try.prog 61 #[.slice (some ⟨g, 0, none⟩) n n] W (RetF (mulP l m') W)) := Lib.hid (fun W g hA => by
    have := rtrim_new _ (mk n (cv (cq l) (cq m'))) W (hA.isP (Nat.le_refl _) (by unfold maxLen; omega)).poly (by rw [mk_len]; omega)
    rw [pl_mk (by rw [← hn, ← e1, ← e2]; exact mulP_upto l m')] at this
    unfold mulP
    rw [e1, e2, hn]
    exact this)
  have HA1 : Hid (∀ p, cvp (cq l) (cq m') la p = cv (cq l) (cq m') p) := Lib.hid (fun p => cvp_all (e1 ▸ cq_upto l) p)
  have HE : Hid (∀ i p, cvr (cq l) (cq m') i lb p = cvp (cq l) (cq m') (i + 1) p) := Lib.hid (fun i p => cvr_end (e2 ▸ cq_upto m') i p)
  have HS1 := Lib.hid (cvr_step (cq l) (cq m')); have HZ1 := Lib.hid (cvr_zero (cq l) (cq m'))
  have H00 : Hid (∀ p, cvp (cq l) (cq m') 0 p = 0) := Lib.hid (fun p => rfl)
  unfold maxLen at hm1 hm2
  have hmk := fun W => run_make_pairs (P := Try.prog) 23 29 (.agg #[.int .u64 0, .int .u64 0]) Try.underlying23 infoQ5 rfl n (by omega) W
  have HC := Lib.hid hc1; have HD := Lib.hid hc2
  have hsum : (la : Int) + (lb : Int) - 1 = (n : Int) := by omega
  have HN := Lib.hid hn
  have l1 : (la : Int) ≤ 1073741824 := by omega
  have l2 : (lb : Int) ≤ 1073741824 := by omega
  have l3 : (0 : Int) < (la : Int) := by omega
  have l4 : (0 : Int) < (lb : Int) := by omega
  have c2 : ((la : Int) == 0) = false := by simp; omega
  have c3 : decide ((la : Int) = 0) = false := by simp; omega
  have c4 : ((lb : Int) == 0) = false := by simp; omega
  have c5 : decide ((lb : Int) = 0) = false := by simp; omega
  clear hc1 hc2 h1 h2 e1 e2 hn
  go_enter Try.func43, Try.ntmps43
  go_upto_region 5 with fail
  clear hmk hsum
  go_loopw [6] (MulOut w n la (cq l) (cq m')) (fun i _ => la - (intOf i).toNat)
  case atStart => exact ⟨0, Nat.zero_le _, rfl, (Below.refl _ _).alloc (Nat.le_refl _) _, (Arr.newq w _ _).same (pc_same (fun i _ => by rw [H00.out]; rfl))⟩
  case round =>
    obtain ⟨k, hk, rfl, hB, hA⟩ := hrel
    by_cases hlt : k < la
    · have hk1 : (k : Int) < (la : Int) := by omega
      have hk0 : (0 : Int) ≤ (k : Int) := by omega
      go_upto_region 8 with fail
      go_loopw [7] (MulIn w n lb (cq l) (cq m') k) (fun j _ => lb - (intOf j).toNat)
      case atStart => exact ⟨0, Nat.zero_le _, rfl, hB, hA.same (pc_same (fun p _ => by rw [HZ1.out]))⟩
      case round =>
        clear hB hA
        obtain ⟨q, hq, rfl, hB, hA⟩ := hrel
        by_cases hlt2 : q < lb
        · obtain ⟨b, off, x0, x1, rfl, g0, g1, hR⟩ := HC.out k hlt
          obtain ⟨b2, off2, y0, y1, rfl, g2, g3, hS⟩ := HD.out q hlt2
          replace g0 := bkeep hB g0
          replace g1 := bkeep hB g1
          replace g2 := bkeep hB g2
          replace g3 := bkeep hB g3
          have hq1 : (q : Int) < (lb : Int) := by omega
          have hq0 : (0 : Int) ≤ (q : Int) := by omega
          obtain ⟨p, hp⟩ : ∃ p, k + q = p := ⟨_, rfl⟩
          have hpn : p < n := by have := HN.out; omega
          have hp1 : (p : Int) < (n : Int) := by omega
          have hp0 : (0 : Int) ≤ (p : Int) := by omega
          have HQ : Hid (IntKind.i64.wrap ((k : Int) + (q : Int)) = (p : Int)) := Lib.hid (by rw [IntWalk.i64_in _ (by omega)]; omega)
          obtain ⟨m, hmm⟩ : ∃ m, cq l k * cq m' q = m := ⟨_, rfl⟩
          obtain ⟨o', ho'⟩ : ∃ o', cvr (cq l) (cq m') k q p + m = o' := ⟨_, rfl⟩
          have m1 := rmul_q x0 x1 y0 y1 (cq l k) (cq m' q) m hR hS hmm
          have a1 := radd_q (enc (cvr (cq l) (cq m') k q p).a) (enc (cvr (cq l) (cq m') k q p).b) (enc m.a) (enc m.b) (cvr (cq l) (cq m') k q p) m o' (rep_enc _) (rep_enc m) ho'
          have HST : Hid (∀ j, (if j = p then (enc o'.a, enc o'.b) else encP (cvr (cq l) (cq m') k q j)) = encP (cvr (cq l) (cq m') k (q + 1) j)) := Lib.hid (fun j => by
            rw [HS1.out k q j]
            by_cases e : j = p
            · rw [if_pos e, if_pos (by omega), hmm, e, ho']; rfl
            · rw [if_neg e, if_neg (by omega)])
          obtain ⟨o0c, o1c, _, _⟩ := hA.cells p hpn
          have HB := Lib.hid hB; have HA := Lib.hid hA
          generalize cvr (cq l) (cq m') k q p = o at *
          simp only [encP] at o0c o1c
          clear hR hS hB hA hmm ho' hp
          go_upto_region 10 with fail
          refine wp_loose [(35, []), (36, []), (37, []), (38, [36, 37]), (39, []), (40, []), (41, []), (42, [40, 41]), (43, [39, 42]), (44, [43]), (45, []), (46, []), (47, [45, 46]), (48, [47]), (49, []), (50, []), (51, [49, 50]), (52, [51]), (53, [48, 52]), (54, [44, 53]), (55, [35, 38])]
            (MulR w.heap.size n b off la ca b2 off2 lb cb k q p (enc o.a) (enc o.b) x0 x1 y0 y1 (enc m.a) (enc m.b) (enc o'.a) (enc o'.b)) (fun d => false) (by kernel_rfl) (by kernel_rfl) (fun _ _ _ _ h hb => h.keep hb) ?_ ?_
          · refine opsrun_cons ?_ (opsrun_cons ?_ (opsrun_cons ?_ (opsrun_cons ?_ (opsrun_cons ?_ (opsrun_cons ?_ (opsrun_cons ?_ (opsrun_cons ?_ (opsrun_cons ?_ (opsrun_cons ?_ (opsrun_cons ?_ (opsrun_cons ?_ (opsrun_cons ?_ (opsrun_cons ?_ (opsrun_cons ?_ (opsrun_cons ?_ (opsrun_cons ?_ (opsrun_cons ?_ (opsrun_cons ?_ (opsrun_cons ?_ (opsrun_cons ?_ opsrun_nil))))))))))))))))))))
            all_goals
              refine OpRuns.any ?_
              intro Q0 σ W' K hb hn hK
              simp only [fill, List.map, Act.put, List.setIfInBounds_toArray, List.set_cons_zero, List.set_cons_succ] at hK ⊢
            · clear hn
              go_simp
              exact hK _ _ rfl (Below.refl _ _) (fun h => absurd h (by decide))
            · clear hn
              go_simp
              exact hK _ _ rfl (Below.refl _ _) (fun h => absurd h (by decide))
            · clear hn
              go_simp
              exact hK _ _ rfl (Below.refl _ _) (fun h => absurd h (by decide))
            · have h36 : σ 36 = _ := hn 36 (by decide)
              have h37 : σ 37 = _ := hn 37 (by decide)
              clear hn
              simp only [h36, h37] at hK
              go_simp
              exact hK _ _ (congrArg (Value.int .i64) HQ.out) (Below.refl _ _) (fun h => absurd h (by decide))
            · clear hn
              go_simp
              exact hK _ _ rfl (Below.refl _ _) (fun h => absurd h (by decide))
            · clear hn
              go_simp
              exact hK _ _ rfl (Below.refl _ _) (fun h => absurd h (by decide))
            · clear hn
              go_simp
              exact hK _ _ rfl (Below.refl _ _) (fun h => absurd h (by decide))
            · have h40 : σ 40 = _ := hn 40 (by decide)
              have h41 : σ 41 = _ := hn 41 (by decide)
              clear hn
              simp only [h40, h41] at hK
              go_simp
              exact hK _ _ (congrArg (Value.int .i64) HQ.out) (Below.refl _ _) (fun h => absurd h (by decide))
            · have h39 : σ 39 = _ := hn 39 (by decide)
              have h42 : σ 42 = _ := hn 42 (by decide)
              clear hn
              simp only [h39, h42] at hK
              go_simp
              exact hK _ _ rfl (Below.refl _ _) (fun h => absurd h (by decide))
            · have h43 : σ 43 = _ := hn 43 (by decide)
              clear hn
              simp only [h43] at hK
              have o0c' := bkeep hb o0c
              have o1c' := bkeep hb o1c
              clear o0c o1c
              go_simp
              exact hK _ _ rfl (Below.refl _ _) (fun h => absurd h (by decide))
            · clear hn
              go_simp
              exact hK _ _ rfl (Below.refl _ _) (fun h => absurd h (by decide))
            · clear hn
              go_simp
              exact hK _ _ rfl (Below.refl _ _) (fun h => absurd h (by decide))
            · have h45 : σ 45 = _ := hn 45 (by decide)
              have h46 : σ 46 = _ := hn 46 (by decide)
              clear hn
              simp only [h45, h46] at hK
              go_simp
              exact hK _ _ rfl (Below.refl _ _) (fun h => absurd h (by decide))
            · have h47 : σ 47 = _ := hn 47 (by decide)
              clear hn
              simp only [h47] at hK
              have g0' := bkeep hb g0
              have g1' := bkeep hb g1
              clear g0 g1
              go_simp
              exact hK _ _ rfl (Below.refl _ _) (fun h => absurd h (by decide))
            · clear hn
              go_simp
              exact hK _ _ rfl (Below.refl _ _) (fun h => absurd h (by decide))
            · clear hn
              go_simp
              exact hK _ _ rfl (Below.refl _ _) (fun h => absurd h (by decide))
            · have h49 : σ 49 = _ := hn 49 (by decide)
              have h50 : σ 50 = _ := hn 50 (by decide)
              clear hn
              simp only [h49, h50] at hK
              go_simp
              exact hK _ _ rfl (Below.refl _ _) (fun h => absurd h (by decide))
            · have h51 : σ 51 = _ := hn 51 (by decide)
              clear hn
              simp only [h51] at hK
              have g2' := bkeep hb g2
              have g3' := bkeep hb g3
              clear g2 g3
              go_simp
              exact hK _ _ rfl (Below.refl _ _) (fun h => absurd h (by decide))
            · have h48 : σ 48 = _ := hn 48 (by decide)
              have h52 : σ 52 = _ := hn 52 (by decide)
              clear hn
              simp only [h48, h52] at hK
              go_simp
              go_at_call 22
              refine (m1 _).mono ?_
              rintro e w1 ⟨rfl, hb1⟩
              exact hK _ _ rfl hb1 (fun h => absurd h (by decide))
            · have h44 : σ 44 = _ := hn 44 (by decide)
              have h53 : σ 53 = _ := hn 53 (by decide)
              clear hn
              simp only [h44, h53] at hK
              go_simp
              go_at_call 21
              refine (a1 _).mono ?_
              rintro e w1 ⟨rfl, hb1⟩
              exact hK _ _ rfl hb1 (fun h => absurd h (by decide))
            · have h35 : σ 35 = _ := hn 35 (by decide)
              have h38 : σ 38 = _ := hn 38 (by decide)
              clear hn
              simp only [h35, h38] at hK
              go_simp
              exact hK _ _ rfl (Below.refl _ _) (fun h => absurd h (by decide))
          · intro σ W' hb hR' hF
            have h54 : σ 54 = _ := hR' 54 (by decide)
            have h55 : σ 55 = _ := hR' 55 (by decide)
            replace HB := Lib.hid (bthen HB.out hb)
            have hA := HA.out.keep hb
            obtain ⟨c0, c1, f0, f1⟩ := hA.cells p hpn
            have HA2 := Lib.hid ((hA.setq p (enc o'.a) (enc o'.b) hpn).same (pc_same fun j _ => HST.out j))
            clear hR' hF hA o0c o1c g0 g1 g2 g3 hb m1 a1
            simp only [fill, List.map, Act.put, List.setIfInBounds_toArray, List.set_cons_zero, List.set_cons_succ, List.length_cons, List.length_nil, List.drop_succ_cons, List.drop_zero, Nat.reduceAdd, h54, h55]
            clear h54 h55
            go_wp2_with fail
            go_roundw
            case rel => exact ⟨q + 1, by omega, by go_num, (HB.out.setCell (Nat.le_refl _) _).setCell (Nat.le_refl _) _, HA2.out⟩
            case measure => simp [intOf]; omega
        · have hqn : q = lb := by omega
          subst hqn
          have HA := Lib.hid (hA.same (pc_same (y := fun p => encP (cvp (cq l) (cq m') (k + 1) p)) (fun p _ => by rw [HE.out])))
          have HB := Lib.hid hB
          clear hA hB
          go_wp2_with fail
          go_roundw
          case rel => exact ⟨k + 1, by omega, by go_num, HB.out, HA.out⟩
          case measure => simp [intOf]; omega
    · have hkn : k = la := by omega
      subst hkn
      have T := HTR.out wr _ (hA.same (pc_same (fun p _ => by rw [HA1.out])))
      have HB := Lib.hid hB
      clear hA hB
      go_wp2_with ((go_at_call 61; ((with_reducible refine T.mono ?_); rintro e w1 ⟨v1, rfl, hb, hp, hfr⟩; have HB2 := Lib.hid (bthen HB.out hb); have HP := Lib.hid hp; have HFR := Lib.hid (hfr.less HB.out.size); clear hb hp hfr T)))
      go_ret
      exact ⟨_, rfl, HB2.out, HP.out, HFR.out⟩
theorem rmulP (v u : Value) (l m : List F2) (w : World) (h1 : Poly w v l) (h2 : Poly w u m) (hl : l.length ≤ 1073741824) (hm : m.length ≤ 1073741824) : Calls Try.prog 43 #[v, u] w (RetF (mulP l m) w) := by
  obtain ⟨a, ca, rfl⟩ := h1.slice
  obtain ⟨b, cb, rfl⟩ := h2.slice
  by_cases h0 : 0 < l.length ∧ 0 < m.length
  · exact rmulP_core a b _ _ ca cb _ l m w h1 h2 h0.1 h0.2 hl hm rfl
  · rw [mulP_nil l m (by omega)]
    by_cases c : l.length = 0
    · rw [c]
      clear h0 h1 h2
      go_enter Try.func43, Try.ntmps43
      go_wp2
      go_ret
      exact ⟨_, rfl, Below.refl _ _, IsP.nil _, fun a n c h => by cases h⟩
    · have d : m.length = 0 := by omega
      rw [d]
      generalize l.length = la at *
      have c2 : ((la : Int) == 0) = false := by simp; omega
      have c3 : decide ((la : Int) = 0) = false := by simp; omega
      clear h0 h1 h2
      go_enter Try.func43, Try.ntmps43
      go_wp2
      go_ret
      exact ⟨_, rfl, Below.refl _ _, IsP.nil _, fun a n c h => by cases h⟩
def DivR (b off len cap k : Nat) (x0 x1 o0 o1 m0 m1 z0 z1 n0 n1 : Int) (sl : Nat) (v : Value) (W : World) : Prop :=
  match sl with
  | 24 => v = .agg #[.int .u64 o0, .int .u64 o1]
  | 25 => v = .agg #[.int .u64 x0, .int .u64 x1]
  | 26 => v = .agg #[.int .u64 m0, .int .u64 m1]
  | 27 => v = .slice (some ⟨b, off, none⟩) len cap
  | 28 => v = .int .i64 k
  | 29 => v = .pointer (some ⟨b, off + k * 2, none⟩)
  | 30 => v = .agg #[.int .u64 z0, .int .u64 z1]
  | _ => v = .agg #[.int .u64 n0, .int .u64 n1]
theorem DivR.keep {b off len cap k : Nat} {x0 x1 o0 o1 m0 m1 z0 z1 n0 n1 : Int} {sl : Nat} {v : Value} {W W' : World} (h : DivR b off len cap k x0 x1 o0 o1 m0 m1 z0 z1 n0 n1 sl v W) (hb : Below W.heap.size W W') : DivR b off len cap k x0 x1 o0 o1 m0 m1 z0 z1 n0 n1 sl v W' := h

def DivR11 (n : Nat) (g B : Nat) (l : List F2) (r0 r1 : Int) (sl : Nat) (v : Value) (W : World) : Prop :=
  match sl with
  | 39 => v = .slice (some ⟨g, 0, none⟩) n n
  | 41 => v = .agg #[.int .u64 r0, .int .u64 r1]
  | _ => IsP W v l ∧ Fresh B v
theorem DivR11.keep {n g B : Nat} {l : List F2} {r0 r1 : Int} {sl : Nat} {v : Value} {W W' : World} (h : DivR11 n g B l r0 r1 sl v W) (hb : Below W.heap.size W W') : DivR11 n g B l r0 r1 sl v W' := by
  unfold DivR11 at *
  split at h
  all_goals first | exact h | exact ⟨IsP.keep h.1 hb, h.2⟩
/-- What Divide tells. -/
def RetD (l : List F2) (r : F2) (w : World) (e : Ending) (w' : World) : Prop := ∃ v, e = .returned (.tuple #[v, .agg #[.int .u64 (enc r.a), .int .u64 (enc r.b)]]) ∧ Below w.heap.size w w' ∧ IsP w' v l
/-- The quotient's row, the coefficients from n - 1 on done. -/
def dvr (len : Nat) (c : Nat → F2) (x : F2) (n j : Nat) : Int × Int := if n ≤ j + 1 then encP (hq len c x (j + 1)) else (0, 0)
def DivDown (w : World) (c : Nat → F2) (x : F2) (len : Nat) (x0 x1 : Int) (i : Value) (W : World) : Prop :=
  ∃ n : Nat, n ≤ len ∧ i = .int .i64 ((n : Int) - 1) ∧ Below w.heap.size w W ∧ Var W w.heap.size x0 x1 ∧ Var W (w.heap.size + 1) 0 0 ∧ Var W (w.heap.size + 1 + 1 + 1) (enc (hq len c x n).a) (enc (hq len c x n).b) ∧ Arr W (w.heap.size + 1 + 1) ((len - 1) * 2) (pc (dvr len c x n))
theorem dvr_start (len : Nat) (c : Nat → F2) (x : F2) (j : Nat) (h : j < len - 1) : dvr len c x len j = (0, 0) := if_neg (by omega)
theorem dvr_end (len : Nat) (c : Nat → F2) (x : F2) (j : Nat) : dvr len c x 0 j = encP (dq len c x j) := if_pos (by omega)
theorem dvr_step {len : Nat} {c : Nat → F2} {x : F2} {k : Nat} {y : F2} (hy : hq len c x (k + 1) = y) (j : Nat) : (if j = k then (enc y.a, enc y.b) else dvr len c x (k + 1 + 1) j) = dvr len c x (k + 1) j := by
  unfold dvr
  by_cases e : j = k
  · subst e; rw [if_pos rfl, if_pos (Nat.le_refl _), hy]; rfl
  · rw [if_neg e]
    by_cases h : k + 1 + 1 ≤ j + 1
    · rw [if_pos h, if_pos (by omega)]
    · rw [if_neg h, if_neg (by omega)]
theorem dvr_low {len : Nat} {c : Nat → F2} {x : F2} (j : Nat) : dvr len c x 1 j = dvr len c x 0 j := by unfold dvr; rw [if_pos (by omega), if_pos (by omega)]

end Go.Proofs.Ytlgfnlkblehlbaa
