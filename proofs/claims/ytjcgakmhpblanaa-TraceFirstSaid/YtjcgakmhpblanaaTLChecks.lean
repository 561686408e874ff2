/-
  The walk of TraceChecks: it answers true, where the program's calls do what is asked of them. (Written by gen_tlaws.py.)
-/
import Derived.Test.YtjcgakmhpblanaaTLShort
import Derived.BigQuiet
namespace Go.Proofs.Ytjcgakmhpblanaa
open Go Go.RowKit Go.Sort Go.BigFrame
set_option linter.unusedVariables false

set_option maxRecDepth 100000 in
set_option maxHeartbeats 8000000 in
theorem tchecks_body (G : World → Prop) (hAk : AskTrace G) (aw : ∀ W, G W → Calls Try.prog 9 #[] W fun e w' => e = .returned (.bool true) ∧ Below W.heap.size W w') (A : AirP) (p : AirAt) (pa : Option Addr) (pn pc : Nat) (pub : List Int) (a : Option Addr) (n cap : Nat) (rows : List (List Int)) (w : World) (hG : G w) (hA : AirA w A p) (hk : OkAir A) (hp : RowA w pa pn pub) (hpu : UsR pub) (hr : RowsA w a n rows) (hru : UsRows rows) :
    Calls Try.prog 4 #[A.val p, .slice pa pn pc, .slice a n cap] w fun e w' => e = .returned (.bool true) ∧ Below w.heap.size w w' := by
  obtain rfl := hp.1
  obtain rfl := hr.1
  have HK := Lib.hid (fun (W W' : World) => @AskTrace.keep G hAk W W')
  have HG0 := Lib.hid hG
  have HA0 := Lib.hid hA
  clear hG hA
  have HP0 := Lib.hid hp; have HR0 := Lib.hid hr
  have hpm := hp.2.1; have hrm := hr.2.1
  unfold maxLen at hpm hrm
  clear hp hr
  go_enter Try.func4, Try.ntmps4
  go_upto_region 1 with fail
  obtain ⟨g, hg⟩ : ∃ g, w.heap.size = g := ⟨_, rfl⟩
  refine wp_gen (fun W => Below w.heap.size w W ∧ AirC W g A p) ⟨(Below.refl _ _).alloc (Nat.le_refl _) _, by rw [← hg]; exact AirC.new _ _ _ _⟩ ?_
  rintro w0 ⟨hB0, hC⟩
  simp only [hg]
  have HB0 := Lib.hid hB0; have HC := Lib.hid hC
  have HA := Lib.hid (HA0.out.keep hB0)
  have HG := Lib.hid (HK.out _ _ HG0.out hB0)
  have HB : Hid (Below w0.heap.size w0 w0) := Lib.hid (Below.refl _ _)
  clear hB0 hg HA0 HG0 hC
  obtain ⟨x0, x1, x2, x3, x4⟩ := HC.out
  have HP := Lib.hid (HP0.out.keep HB0.out); have HR := Lib.hid (rowsA_keep HR0.out HB0.out)
  obtain ⟨r, hz⟩ := small_or A rows
  have ks := fun W (h : Below w0.heap.size w0 W) => trsmall_is A p a rows.length cap rows r W (HA.out.keep h) (rowsA_keep HR.out h) hz
  have HZ := Lib.hid hz
  clear hz
  have aw := fun W (h : Below w0.heap.size w0 W) => aw W (HK.out _ _ HG.out h)
  clear HP0 HR0
  by_cases h30 : (30 : Int) < (pub.length : Int)
  · cases r with
    | true =>
      go_wp2_with (first
          | (go_at_call 8; (with_reducible refine (ks _ HB.out).mono ?_); rintro e w1 ⟨rfl, hb⟩; replace x0 := bkeep hb x0; replace x1 := bkeep hb x1; replace x2 := bkeep hb x2; replace x3 := bkeep hb x3; replace x4 := bkeep hb x4; replace HB := Lib.hid (bthen HB.out hb); clear hb)
          | (go_at_call 9; (with_reducible refine (aw _ HB.out).mono ?_); rintro e w1 ⟨rfl, hb⟩; replace x0 := bkeep hb x0; replace x1 := bkeep hb x1; replace x2 := bkeep hb x2; replace x3 := bkeep hb x3; replace x4 := bkeep hb x4; replace HB := Lib.hid (bthen HB.out hb); clear hb))
      go_ret
      exact ⟨rfl, bthen HB0.out HB.out⟩
    | false =>
      go_wp2_with (first
          | (go_at_call 8; (with_reducible refine (ks _ HB.out).mono ?_); rintro e w1 ⟨rfl, hb⟩; replace x0 := bkeep hb x0; replace x1 := bkeep hb x1; replace x2 := bkeep hb x2; replace x3 := bkeep hb x3; replace x4 := bkeep hb x4; replace HB := Lib.hid (bthen HB.out hb); clear hb)
          | (go_at_call 9; (with_reducible refine (aw _ HB.out).mono ?_); rintro e w1 ⟨rfl, hb⟩; replace x0 := bkeep hb x0; replace x1 := bkeep hb x1; replace x2 := bkeep hb x2; replace x3 := bkeep hb x3; replace x4 := bkeep hb x4; replace HB := Lib.hid (bthen HB.out hb); clear hb))
      go_ret
      exact ⟨rfl, bthen HB0.out HB.out⟩
  cases r with
  | false =>
    go_wp2_with (first
        | (go_at_call 8; (with_reducible refine (ks _ HB.out).mono ?_); rintro e w1 ⟨rfl, hb⟩; replace x0 := bkeep hb x0; replace x1 := bkeep hb x1; replace x2 := bkeep hb x2; replace x3 := bkeep hb x3; replace x4 := bkeep hb x4; replace HB := Lib.hid (bthen HB.out hb); clear hb)
        | (go_at_call 9; (with_reducible refine (aw _ HB.out).mono ?_); rintro e w1 ⟨rfl, hb⟩; replace x0 := bkeep hb x0; replace x1 := bkeep hb x1; replace x2 := bkeep hb x2; replace x3 := bkeep hb x3; replace x4 := bkeep hb x4; replace HB := Lib.hid (bthen HB.out hb); clear hb))
    go_ret
    exact ⟨rfl, bthen HB0.out HB.out⟩
  | true =>
    have hsm := HZ.out.1 rfl
    have hf := hsm.few
    obtain ⟨f, e, ht⟩ : ∃ f e, A.told pub rows = (f, e) := ⟨_, _, rfl⟩
    have kc := fun W (h : Below w0.heap.size w0 W) => hAk.check A p pa pub.length pc pub a rows.length cap rows f e W (HA.out.keep h) hk hf (HP.out.keep h) hpu (rowsA_keep HR.out h) hru ht (HK.out _ _ HG.out h)
    have HTD := Lib.hid ht
    have kd := fun W (h : Below w0.heap.size w0 W) => rtcheck_is A p pa pub.length pc pub a rows.length cap rows f e W (HA.out.keep h) hk hf (HP.out.keep h) hpu (rowsA_keep HR.out h) hru ht
    clear ht
    go_upto_region 4 with (first
        | (go_at_call 8; (with_reducible refine (ks _ HB.out).mono ?_); rintro e w1 ⟨rfl, hb⟩; replace x0 := bkeep hb x0; replace x1 := bkeep hb x1; replace x2 := bkeep hb x2; replace x3 := bkeep hb x3; replace x4 := bkeep hb x4; replace HB := Lib.hid (bthen HB.out hb); clear hb)
        | (go_at_call 16; (with_reducible refine (kc _ HB.out).mono ?_); rintro e w1 ⟨rfl, hb⟩; replace x0 := bkeep hb x0; replace x1 := bkeep hb x1; replace x2 := bkeep hb x2; replace x3 := bkeep hb x3; replace x4 := bkeep hb x4; replace HB := Lib.hid (bthen HB.out hb); clear hb))
    have hal := fun (W : World) (o : Obj) => (Below.refl W.heap.size W).alloc (Nat.le_refl _) o
    obtain ⟨gX, hgX⟩ : ∃ g, w1.heap.size = g := ⟨_, rfl⟩
    refine wp_gen (fun W => Below w0.heap.size w0 W ∧ Duo W gX (.int .i64 f.1) (.int .i64 f.2)) ⟨bthen HB.out (hal _ _), by rw [← hgX]; simp [Duo, go_sem]⟩ ?_
    clear HB x0 x1 x2 x3 x4
    rintro w2 ⟨hB, hX⟩
    simp only [hgX]
    have HB := Lib.hid hB; have HX := Lib.hid hX
    obtain ⟨x0, x1, x2, x3, x4⟩ := HC.out.keep hB
    clear hgX hB hX
    go_upto_region 5 with (go_at_call 17; (with_reducible refine (kd _ HB.out).mono ?_); rintro e w1 ⟨rfl, hb⟩; replace x0 := bkeep hb x0; replace x1 := bkeep hb x1; replace x2 := bkeep hb x2; replace x3 := bkeep hb x3; replace x4 := bkeep hb x4; replace HX := Lib.hid (HX.out.keep hb); replace HB := Lib.hid (bthen HB.out hb); clear hb)
    obtain ⟨gY, hgY⟩ : ∃ g, w1.heap.size = g := ⟨_, rfl⟩
    refine wp_gen (fun W => Below w0.heap.size w0 W ∧ Duo W gX (.int .i64 f.1) (.int .i64 f.2) ∧ Duo W gY (.int .i64 f.1) (.int .i64 f.2)) ⟨bthen HB.out (hal _ _), HX.out.keep (hal _ _), by rw [← hgY]; simp [Duo, go_sem]⟩ ?_
    clear HB HX x0 x1 x2 x3 x4
    rintro w3 ⟨hB, hX, hY⟩
    simp only [hgY]
    have HB := Lib.hid hB
    obtain ⟨x0, x1, x2, x3, x4⟩ := HC.out.keep hB
    obtain ⟨y0, y1, _, _⟩ := hX
    obtain ⟨z0, z1, _, _⟩ := hY
    clear hgY hB ks kc kd
    obtain ⟨ok, hok⟩ : ∃ ok, decide (A.whole pub rows) = ok := ⟨_, rfl⟩
    have kw := fun W (h : Below w3.heap.size w3 W) => hAk.whole A p pa pub.length pc pub a rows.length cap rows ok W (HA.out.keep (bthen HB.out h)) hk hf (HP.out.keep (bthen HB.out h)) hpu (rowsA_keep HR.out (bthen HB.out h)) hru hok (HK.out _ _ HG.out (bthen HB.out h))
    have kv := fun W (h : Below w3.heap.size w3 W) => rtwhole_is A p pa pub.length pc pub a rows.length cap rows ok W (HA.out.keep (bthen HB.out h)) hk hf (HP.out.keep (bthen HB.out h)) hpu (rowsA_keep HR.out (bthen HB.out h)) hru hok
    have aw := fun W (h : Below w3.heap.size w3 W) => aw W (bthen HB.out h)
    clear hok hal
    obtain ⟨f1, f2⟩ := f
    dsimp only at y0 y1 z0 z1
    replace x0 := fun q : Regrown => cell_regrown x0 q.d q.os
    replace x1 := fun q : Regrown => cell_regrown x1 q.d q.os
    replace x2 := fun q : Regrown => cell_regrown x2 q.d q.os
    replace x3 := fun q : Regrown => cell_regrown x3 q.d q.os
    replace x4 := fun q : Regrown => cell_regrown x4 q.d q.os
    replace y0 := fun q : Regrown => cell_regrown y0 q.d q.os
    replace y1 := fun q : Regrown => cell_regrown y1 q.d q.os
    replace z0 := fun q : Regrown => cell_regrown z0 q.d q.os
    replace z1 := fun q : Regrown => cell_regrown z1 q.d q.os
    refine wp_region_quiet_below (by kernel_rfl) (by kernel_rfl) ?_
    repeat (first | go_big_quiet_step (first
      | (go_at_call 9; with_reducible exact Calls.regrown_of (aw _ (below_regrown w3 _ _)))
      | (go_at_call 18; with_reducible exact Calls.regrown_of (kw _ (below_regrown w3 _ _)))
      | (go_at_call 19; with_reducible exact Calls.regrown_of (kv _ (below_regrown w3 _ _)))) | quiet_step (fail))
    refine wpQuiet_nil ?_
    rintro _ ⟨pq, rfl⟩
    have HBE := Lib.hid (bthen HB.out (below_regrown w3 pq.d pq.os))
    clear x0 x1 x2 x3 x4 y0 y1 z0 z1 HB aw kw kv
    go_wp2_with fail
    go_ret
    exact ⟨rfl, bthen HB0.out HBE.out⟩
end Go.Proofs.Ytjcgakmhpblanaa
