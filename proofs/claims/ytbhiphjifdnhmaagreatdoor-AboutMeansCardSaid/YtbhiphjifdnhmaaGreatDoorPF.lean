import Derived.Test.YtbhiphjifdnhmaaGreatDoorR1
import Derived.Test.YtbhiphjifdnhmaaGreatDoorV0
import Derived.Deep.QuietTactic
import Derived.BigQuiet
import Derived.Test.YtbhiphjifdnhmaaGreatDoorR2
import Derived.Test.YtbhiphjifdnhmaaGreatDoorM8
import Derived.StillTailTactics
import Derived.Test.YtbhiphjifdnhmaaGreatDoorK24
set_option linter.unusedSimpArgs false
set_option linter.unusedVariables false
/- The reference: right, Plus, Hull, Both. -/
namespace Go.Proofs.YtbhiphjifdnhmaaGreatDoor
open Go.RowKit
/-- a quiet call in a quiet region -/
theorem quietL {P : Program} {f : FuncId} {args : Array Value} {w : World} {n : Nat} {v : Value} (h : Calls P f args (w.drewN n) fun e w' => e = .returned v ∧ w.drewN n = w') : Calls P f args (w.drewN n) fun e w'' => e = .returned v ∧ ∃ m, w'' = w.drewN m :=
 h.mono fun _ _ ⟨he, hm⟩ => ⟨he, n, hm.symm⟩
/-- the two days' blocks behind their boxes -/
theorem two26 (a b : Nat → Int) (w : World) : Blk ((w.alloc (.cells (va a) 26)).alloc (.cells (va b) 26)) w.heap.size 26 (va a) ∧ Blk ((w.alloc (.cells (va a) 26)).alloc (.cells (va b) 26)) (w.heap.size + 1) 26 (va b) ∧ Below w.heap.size w ((w.alloc (.cells (va a) 26)).alloc (.cells (va b) 26)) :=
 ⟨(Blk.new w 26 (va a)).alloc (.cells (va b) 26), Blk.newAt (by simp), (below_new _ _).alloc (by simp) _⟩
set_option maxRecDepth 100000 in
theorem refRight_any (a b : Nat → Int) (w : World) : Calls Tryz.prog 95 #[.agg (va a), .agg (va b)] w fun e w' => e = .returned (.bool (vok a && vok b)) ∧ Below w.heap.size w w' := by
 obtain ⟨hA, hB, hb0⟩ := two26 a b w
 cases ha : vok a
 ·have HA := Lib.hid (chkV_no ha)
  clear ha
  rw [Bool.false_and]
  go_enter Tryz.func95, Tryz.ntmps95
  go_wp2_with (first
   | go_skip
   | (refine ldV 2 rfl rfl hA rfl ?_)
   | (go_at_call 43; refine (refCheck_any _ _).mono ?_; rw [HA.out]; rintro e w1 ⟨rfl, hb1⟩))
  go_ret
  exact ⟨rfl, below_next hb0 (by simp; omega) hb1⟩
 ·have HA := Lib.hid (chkV_ok ha)
  clear ha
  rw [Bool.true_and]
  cases hb : vok b
  all_goals
   have HB := Lib.hid (show chkV b = _ from by first | exact chkV_ok hb | exact chkV_no hb)
   clear hb
   go_enter Tryz.func95, Tryz.ntmps95
   go_wp2_with (first
    | go_skip
    | (refine ldV 2 rfl rfl hA rfl ?_)
    | (refine ldVG 3 (by rfl) rfl hB1 rfl ?_)
    | (go_at_call 43; refine (refCheck_any _ _).mono ?_; (first | (rw [HA.out]; rintro e w1 ⟨rfl, hb1⟩; have hB1 := hB.below hb1 (by simp)) | (rw [HB.out]; rintro e w2 ⟨rfl, hb2⟩))))
   go_ret
   exact ⟨rfl, below_next (below_next hb0 (by simp; omega) hb1) (by have := hb1.size; simp at this; omega) hb2⟩
end Go.Proofs.YtbhiphjifdnhmaaGreatDoor
namespace Go.Proofs.YtbhiphjifdnhmaaGreatDoor
open Go.RowKit
set_option maxRecDepth 100000 in
set_option maxHeartbeats 4000000 in
theorem refPlus_any (a b : Nat → Int) (w : World) : Calls Tryz.prog 44 #[.agg (va a), .agg (va b)] w (RetMd w (joinR plusM a b) (joinE plusM a b)) := by
 have hA := ((Blk.new w 26 (va a)).alloc (.cells (va b) 26)).alloc (.cells #[.int .i64 0, .int .i64 0, .int .i64 0, .int .i64 0, .int .i64 0, .int .i64 0, .int .i64 0, .int .i64 0, .int .i64 0, .int .i64 0, .int .i64 0, .int .i64 0, .int .i64 0, .int .i64 0, .int .i64 0, .int .i64 0, .int .i64 0, .int .i64 0, .int .i64 0, .int .i64 0, .int .i64 0, .int .i64 0, .int .i64 0, .int .i64 0, .int .i64 0] 75)
 have hB : Blk (((w.alloc (.cells (va a) 26)).alloc (.cells (va b) 26)).alloc (.cells #[.int .i64 0, .int .i64 0, .int .i64 0, .int .i64 0, .int .i64 0, .int .i64 0, .int .i64 0, .int .i64 0, .int .i64 0, .int .i64 0, .int .i64 0, .int .i64 0, .int .i64 0, .int .i64 0, .int .i64 0, .int .i64 0, .int .i64 0, .int .i64 0, .int .i64 0, .int .i64 0, .int .i64 0, .int .i64 0, .int .i64 0, .int .i64 0, .int .i64 0] 75)) (w.heap.size + 1) 26 (va b) := (Blk.newAt (by simp)).alloc _
 have hZ : Blk (((w.alloc (.cells (va a) 26)).alloc (.cells (va b) 26)).alloc (.cells #[.int .i64 0, .int .i64 0, .int .i64 0, .int .i64 0, .int .i64 0, .int .i64 0, .int .i64 0, .int .i64 0, .int .i64 0, .int .i64 0, .int .i64 0, .int .i64 0, .int .i64 0, .int .i64 0, .int .i64 0, .int .i64 0, .int .i64 0, .int .i64 0, .int .i64 0, .int .i64 0, .int .i64 0, .int .i64 0, .int .i64 0, .int .i64 0, .int .i64 0] 75)) (w.heap.size + 1 + 1) 75 (mnA zeroV 0) := by rw [zmn]; exact Blk.newAt (by simp)
 have hb0 : Below w.heap.size w (((w.alloc (.cells (va a) 26)).alloc (.cells (va b) 26)).alloc (.cells #[.int .i64 0, .int .i64 0, .int .i64 0, .int .i64 0, .int .i64 0, .int .i64 0, .int .i64 0, .int .i64 0, .int .i64 0, .int .i64 0, .int .i64 0, .int .i64 0, .int .i64 0, .int .i64 0, .int .i64 0, .int .i64 0, .int .i64 0, .int .i64 0, .int .i64 0, .int .i64 0, .int .i64 0, .int .i64 0, .int .i64 0, .int .i64 0, .int .i64 0] 75)) := ((below_new _ _).alloc (by simp) _).alloc (by simp; omega) _
 cases h0 : (vok a && vok b)
 ·have H0 := Lib.hid h0
  rw [joinE_no plusM h0, show joinR plusM a b = zeroV by unfold joinR; rw [joinE_no plusM h0]; rfl]
  clear h0
  go_enter Tryz.func44, Tryz.ntmps44
  go_wp2_with (first
   | (refine ldV 2 rfl rfl hA rfl ?_)
   | (refine ldV 3 rfl rfl hB rfl ?_)
   | (go_at_call 95; refine (refRight_any _ _ _).mono ?_; rw [H0.out]; rintro e w1 ⟨rfl, hb1⟩; have hZ1 := hZ.below hb1 (by simp))
   | (refine stMd 4 13 rfl rfl hZ1 rfl (v := zeroV) (e := 1) (by kernel_rfl) ?_))
  exact bodyPost_ret (resMd rfl _ _ (hZ1.setRow _) rfl) rfl ⟨rfl, below_setRow (below_next hb0 (by simp; omega) hb1) (by omega) _⟩
 ·have H0 := Lib.hid h0
  obtain ⟨ha, hb⟩ : vok a = true ∧ vok b = true := by simpa using h0
  have okA := (vok_iff.1 ha).all
  have okB := (vok_iff.1 hb).all
  have hR1 : joinE plusM a b = if vok (joinV plusM a b) then 0 else 3 := by rw [joinE_ok plusM h0, (plus_nested (vok_iff.1 ha) (vok_iff.1 hb)).rng]
  have hR2 : joinR plusM a b = if vok (joinV plusM a b) then joinV plusM a b else zeroV := by
   unfold joinR
   rw [hR1]
   split
   ·exact orZero_ok _
   ·exact orZero_no _ (by omega)
  rw [hR1, hR2]
  clear h0 hR1 hR2 ha hb
  obtain ⟨J, hJ⟩ : ∃ J, J = joinV plusM a b := ⟨_, rfl⟩
  rw [← hJ]
  have HJ := Lib.hid hJ
  obtain ⟨V, hV⟩ : ∃ V, V = if vok J then J else zeroV := ⟨_, rfl⟩
  obtain ⟨E, hE2⟩ : ∃ E : Int, E = if vok J then 0 else 3 := ⟨_, rfl⟩
  rw [← hV, ← hE2]
  have HF : Hid (∀ W, Calls Tryz.prog 94 #[.agg (va J)] W (RetMd W V E)) := fun W => by rw [hV, hE2]; exact refFormed_any J W
  clear hJ hV hE2
  go_enter Tryz.func44, Tryz.ntmps44
  go_wp2_with (first
   | (refine ldV 2 rfl rfl hA rfl ?_)
   | (refine ldV 3 rfl rfl hB rfl ?_)
   | (go_at_call 95; refine (refRight_any _ _ _).mono ?_; rw [H0.out]; rintro e w1 ⟨rfl, hb1⟩))
  have hz1 : w.heap.size + 1 + 1 + 1 ≤ w1.heap.size := by have := hb1.size; simpa using this
  have hA1 := (hA.below hb1 (by simp; omega)).alloc (.cells #[.int .i64 0, .int .i64 0, .int .i64 0, .int .i64 0, .int .i64 0, .int .i64 0, .int .i64 0, .int .i64 0, .int .i64 0, .int .i64 0, .int .i64 0, .int .i64 0, .int .i64 0, .int .i64 0, .int .i64 0, .int .i64 0, .int .i64 0, .int .i64 0, .int .i64 0, .int .i64 0, .int .i64 0, .int .i64 0, .int .i64 0, .int .i64 0] 26)
  have hB1 := (hB.below hb1 (by simp)).alloc (.cells #[.int .i64 0, .int .i64 0, .int .i64 0, .int .i64 0, .int .i64 0, .int .i64 0, .int .i64 0, .int .i64 0, .int .i64 0, .int .i64 0, .int .i64 0, .int .i64 0, .int .i64 0, .int .i64 0, .int .i64 0, .int .i64 0, .int .i64 0, .int .i64 0, .int .i64 0, .int .i64 0, .int .i64 0, .int .i64 0, .int .i64 0, .int .i64 0] 26)
  have hZ2 := (hZ.below hb1 (by simp)).alloc (.cells #[.int .i64 0, .int .i64 0, .int .i64 0, .int .i64 0, .int .i64 0, .int .i64 0, .int .i64 0, .int .i64 0, .int .i64 0, .int .i64 0, .int .i64 0, .int .i64 0, .int .i64 0, .int .i64 0, .int .i64 0, .int .i64 0, .int .i64 0, .int .i64 0, .int .i64 0, .int .i64 0, .int .i64 0, .int .i64 0, .int .i64 0, .int .i64 0] 26)
  have hC1 : Blk (w1.alloc (.cells #[.int .i64 0, .int .i64 0, .int .i64 0, .int .i64 0, .int .i64 0, .int .i64 0, .int .i64 0, .int .i64 0, .int .i64 0, .int .i64 0, .int .i64 0, .int .i64 0, .int .i64 0, .int .i64 0, .int .i64 0, .int .i64 0, .int .i64 0, .int .i64 0, .int .i64 0, .int .i64 0, .int .i64 0, .int .i64 0, .int .i64 0, .int .i64 0] 26)) w1.heap.size 26 (va (firstV J 0)) := by rw [z24, firstV_zero]; exact Blk.new _ _ _
  have hb3 := (below_next hb0 (by simp; omega) hb1).alloc (by omega) (.cells #[.int .i64 0, .int .i64 0, .int .i64 0, .int .i64 0, .int .i64 0, .int .i64 0, .int .i64 0, .int .i64 0, .int .i64 0, .int .i64 0, .int .i64 0, .int .i64 0, .int .i64 0, .int .i64 0, .int .i64 0, .int .i64 0, .int .i64 0, .int .i64 0, .int .i64 0, .int .i64 0, .int .i64 0, .int .i64 0, .int .i64 0, .int .i64 0] 26)
  clear hb1 hA hB hZ hb0
  go_loopw [7] (fun t7 wr => ∃ k : Nat, k ≤ 12 ∧ t7 = .int .i64 k ∧ Blk wr w.heap.size 26 (va a) ∧ Blk wr (w.heap.size + 1) 26 (va b) ∧ Blk wr (w.heap.size + 1 + 1) 75 (mnA zeroV 0) ∧ Blk wr w1.heap.size 26 (va (firstV J k)) ∧ Below w.heap.size w wr) (fun t7 _ => 12 - (intOf t7).toNat)
  case atStart => exact ⟨0, by omega, rfl, hA1, hB1, hZ2, hC1, hb3⟩
  case round =>
   obtain ⟨k, hk, rfl, hA2, hB2, hZ3, hC2, hb4⟩ := hrel
   clear hA1 hB1 hZ2 hC1 hb3
   have hlt3 := hC2.lt
   by_cases hlt : k < 12
   ·obtain ⟨a0, a1⟩ := hA2.spans k hlt
    obtain ⟨b0, b1⟩ := hB2.spans k hlt
    obtain ⟨l1, l2⟩ := okA (2 * k) (by omega)
    obtain ⟨l3, l4⟩ := okA (2 * k + 1) (by omega)
    obtain ⟨l5, l6⟩ := okB (2 * k) (by omega)
    obtain ⟨l7, l8⟩ := okB (2 * k + 1) (by omega)
    have HM := Lib.hid (show a (2 * k) + b (2 * k) = J (2 * k) ∧ a (2 * k + 1) + b (2 * k + 1) = J (2 * k + 1) by rw [HJ.out, joinV_lo, joinV_hi]; exact ⟨rfl, rfl⟩)
    have W0 : IntKind.i64.wrap (a (2 * k) + b (2 * k)) = a (2 * k) + b (2 * k) := IntWalk.i64_in _ (by omega)
    have W1 : IntKind.i64.wrap (a (2 * k + 1) + b (2 * k + 1)) = a (2 * k + 1) + b (2 * k + 1) := IntWalk.i64_in _ (by omega)
    clear okA okB
    go_wp2_with fail
    go_still_tail 26, (by kernel_rfl)
    all_goals
     change wpList _ _ _ _ _ wr.drew
     generalize hw2 : wr.drew = w2
     have hA3 : Blk w2 w.heap.size 26 (va a) := by rw [← hw2]; exact hA2
     have hB3 : Blk w2 (w.heap.size + 1) 26 (va b) := by rw [← hw2]; exact hB2
     have hZ4 : Blk w2 (w.heap.size + 1 + 1) 75 (mnA zeroV 0) := by rw [← hw2]; exact hZ3
     have hC3 : Blk w2 w1.heap.size 26 (va (firstV J k)) := by rw [← hw2]; exact hC2
     have hb5 : Below w.heap.size w w2 := by rw [← hw2]; exact hb4.drew
     clear hw2 hA2 hB2 hZ3 hC2 hb4 hlt3 a0 a1 b0 b1
     have hlt3 := hC3.lt
     have e0 := hC3.va (k * 2) (by omega)
     have e1 := hC3.va (k * 2 + 1) (by omega)
     have g0 := hC3.frozen (k * 2)
     have g1 := hC3.frozen (k * 2 + 1)
     go_wp2
     rw [HM.out.1, HM.out.2]
     go_roundw
     case rel => exact ⟨k + 1, by omega, by go_num, (hA3.far (by show _ ≠ w1.heap.size; omega) _).far (by show _ ≠ w1.heap.size; omega) _, (hB3.far (by show _ ≠ w1.heap.size; omega) _).far (by show _ ≠ w1.heap.size; omega) _, (hZ4.far (by show _ ≠ w1.heap.size; omega) _).far (by show _ ≠ w1.heap.size; omega) _, hC3.joinStep hlt, (hb5.setCell (by show _ ≤ w1.heap.size; omega) _).setCell (by show _ ≤ w1.heap.size; omega) _⟩
     case measure => simp [intOf]; omega
   ·obtain rfl : k = 12 := by omega
    have hC3 : Blk wr w1.heap.size 26 (va J) := by rw [← firstV_all]; exact hC2
    clear hC2 okA okB
    go_wp2_with (first
     | (refine ldV 6 rfl rfl hC3 rfl ?_)
     | (go_at_call 94; refine (HF.out _).mono ?_; rintro e w4 ⟨rfl, hb5⟩; have hZ4 := hZ3.below hb5 (by omega))
     | (refine stMd 4 45 rfl rfl hZ4 rfl (v := V) (e := E) rfl ?_))
    exact bodyPost_ret (resMd rfl _ _ (hZ4.setRow _) rfl) rfl ⟨rfl, below_setRow (below_next hb4 (by omega) hb5) (by omega) _⟩
set_option maxRecDepth 100000 in
set_option maxHeartbeats 4000000 in
theorem refHull_any (a b : Nat → Int) (w : World) : Calls Tryz.prog 47 #[.agg (va a), .agg (va b)] w (RetMd w (joinR hullM a b) (joinE hullM a b)) := by
 have hA := ((Blk.new w 26 (va a)).alloc (.cells (va b) 26)).alloc (.cells #[.int .i64 0, .int .i64 0, .int .i64 0, .int .i64 0, .int .i64 0, .int .i64 0, .int .i64 0, .int .i64 0, .int .i64 0, .int .i64 0, .int .i64 0, .int .i64 0, .int .i64 0, .int .i64 0, .int .i64 0, .int .i64 0, .int .i64 0, .int .i64 0, .int .i64 0, .int .i64 0, .int .i64 0, .int .i64 0, .int .i64 0, .int .i64 0, .int .i64 0] 75)
 have hB : Blk (((w.alloc (.cells (va a) 26)).alloc (.cells (va b) 26)).alloc (.cells #[.int .i64 0, .int .i64 0, .int .i64 0, .int .i64 0, .int .i64 0, .int .i64 0, .int .i64 0, .int .i64 0, .int .i64 0, .int .i64 0, .int .i64 0, .int .i64 0, .int .i64 0, .int .i64 0, .int .i64 0, .int .i64 0, .int .i64 0, .int .i64 0, .int .i64 0, .int .i64 0, .int .i64 0, .int .i64 0, .int .i64 0, .int .i64 0, .int .i64 0] 75)) (w.heap.size + 1) 26 (va b) := (Blk.newAt (by simp)).alloc _
 have hZ : Blk (((w.alloc (.cells (va a) 26)).alloc (.cells (va b) 26)).alloc (.cells #[.int .i64 0, .int .i64 0, .int .i64 0, .int .i64 0, .int .i64 0, .int .i64 0, .int .i64 0, .int .i64 0, .int .i64 0, .int .i64 0, .int .i64 0, .int .i64 0, .int .i64 0, .int .i64 0, .int .i64 0, .int .i64 0, .int .i64 0, .int .i64 0, .int .i64 0, .int .i64 0, .int .i64 0, .int .i64 0, .int .i64 0, .int .i64 0, .int .i64 0] 75)) (w.heap.size + 1 + 1) 75 (mnA zeroV 0) := by rw [zmn]; exact Blk.newAt (by simp)
 have hb0 : Below w.heap.size w (((w.alloc (.cells (va a) 26)).alloc (.cells (va b) 26)).alloc (.cells #[.int .i64 0, .int .i64 0, .int .i64 0, .int .i64 0, .int .i64 0, .int .i64 0, .int .i64 0, .int .i64 0, .int .i64 0, .int .i64 0, .int .i64 0, .int .i64 0, .int .i64 0, .int .i64 0, .int .i64 0, .int .i64 0, .int .i64 0, .int .i64 0, .int .i64 0, .int .i64 0, .int .i64 0, .int .i64 0, .int .i64 0, .int .i64 0, .int .i64 0] 75)) := ((below_new _ _).alloc (by simp) _).alloc (by simp; omega) _
 cases h0 : (vok a && vok b)
 ·have H0 := Lib.hid h0
  rw [joinE_no hullM h0, show joinR hullM a b = zeroV by unfold joinR; rw [joinE_no hullM h0]; rfl]
  clear h0
  go_enter Tryz.func47, Tryz.ntmps47
  go_wp2_with (first
   | (refine ldV 2 rfl rfl hA rfl ?_)
   | (refine ldV 3 rfl rfl hB rfl ?_)
   | (go_at_call 95; refine (refRight_any _ _ _).mono ?_; rw [H0.out]; rintro e w1 ⟨rfl, hb1⟩; have hZ1 := hZ.below hb1 (by simp))
   | (refine stMd 4 13 rfl rfl hZ1 rfl (v := zeroV) (e := 1) (by kernel_rfl) ?_))
  exact bodyPost_ret (resMd rfl _ _ (hZ1.setRow _) rfl) rfl ⟨rfl, below_setRow (below_next hb0 (by simp; omega) hb1) (by omega) _⟩
 ·have H0 := Lib.hid h0
  obtain ⟨ha, hb⟩ : vok a = true ∧ vok b = true := by simpa using h0
  have okA := (vok_iff.1 ha).all
  have okB := (vok_iff.1 hb).all
  rw [(hull_ok ha hb).1, (hull_ok ha hb).2]
  clear h0 ha hb
  obtain ⟨J, hJ⟩ : ∃ J, J = joinV hullM a b := ⟨_, rfl⟩
  rw [← hJ]
  have HJ := Lib.hid hJ
  clear hJ
  go_enter Tryz.func47, Tryz.ntmps47
  go_wp2_with (first
   | (refine ldV 2 rfl rfl hA rfl ?_)
   | (refine ldV 3 rfl rfl hB rfl ?_)
   | (go_at_call 95; refine (refRight_any _ _ _).mono ?_; rw [H0.out]; rintro e w1 ⟨rfl, hb1⟩))
  have hz1 : w.heap.size + 1 + 1 + 1 ≤ w1.heap.size := by have := hb1.size; simpa using this
  have hA1 := (hA.below hb1 (by simp; omega)).alloc (.cells #[.int .i64 0, .int .i64 0, .int .i64 0, .int .i64 0, .int .i64 0, .int .i64 0, .int .i64 0, .int .i64 0, .int .i64 0, .int .i64 0, .int .i64 0, .int .i64 0, .int .i64 0, .int .i64 0, .int .i64 0, .int .i64 0, .int .i64 0, .int .i64 0, .int .i64 0, .int .i64 0, .int .i64 0, .int .i64 0, .int .i64 0, .int .i64 0] 26)
  have hB1 := (hB.below hb1 (by simp)).alloc (.cells #[.int .i64 0, .int .i64 0, .int .i64 0, .int .i64 0, .int .i64 0, .int .i64 0, .int .i64 0, .int .i64 0, .int .i64 0, .int .i64 0, .int .i64 0, .int .i64 0, .int .i64 0, .int .i64 0, .int .i64 0, .int .i64 0, .int .i64 0, .int .i64 0, .int .i64 0, .int .i64 0, .int .i64 0, .int .i64 0, .int .i64 0, .int .i64 0] 26)
  have hZ2 := (hZ.below hb1 (by simp)).alloc (.cells #[.int .i64 0, .int .i64 0, .int .i64 0, .int .i64 0, .int .i64 0, .int .i64 0, .int .i64 0, .int .i64 0, .int .i64 0, .int .i64 0, .int .i64 0, .int .i64 0, .int .i64 0, .int .i64 0, .int .i64 0, .int .i64 0, .int .i64 0, .int .i64 0, .int .i64 0, .int .i64 0, .int .i64 0, .int .i64 0, .int .i64 0, .int .i64 0] 26)
  have hC1 : Blk (w1.alloc (.cells #[.int .i64 0, .int .i64 0, .int .i64 0, .int .i64 0, .int .i64 0, .int .i64 0, .int .i64 0, .int .i64 0, .int .i64 0, .int .i64 0, .int .i64 0, .int .i64 0, .int .i64 0, .int .i64 0, .int .i64 0, .int .i64 0, .int .i64 0, .int .i64 0, .int .i64 0, .int .i64 0, .int .i64 0, .int .i64 0, .int .i64 0, .int .i64 0] 26)) w1.heap.size 26 (va (firstV J 0)) := by rw [z24, firstV_zero]; exact Blk.new _ _ _
  have hb3 := (below_next hb0 (by simp; omega) hb1).alloc (by omega) (.cells #[.int .i64 0, .int .i64 0, .int .i64 0, .int .i64 0, .int .i64 0, .int .i64 0, .int .i64 0, .int .i64 0, .int .i64 0, .int .i64 0, .int .i64 0, .int .i64 0, .int .i64 0, .int .i64 0, .int .i64 0, .int .i64 0, .int .i64 0, .int .i64 0, .int .i64 0, .int .i64 0, .int .i64 0, .int .i64 0, .int .i64 0, .int .i64 0] 26)
  clear hb1 hA hB hZ hb0
  go_loopw [7] (fun t7 wr => ∃ k : Nat, k ≤ 12 ∧ t7 = .int .i64 k ∧ Blk wr w.heap.size 26 (va a) ∧ Blk wr (w.heap.size + 1) 26 (va b) ∧ Blk wr (w.heap.size + 1 + 1) 75 (mnA zeroV 0) ∧ Blk wr w1.heap.size 26 (va (firstV J k)) ∧ Below w.heap.size w wr) (fun t7 _ => 12 - (intOf t7).toNat)
  case atStart => exact ⟨0, by omega, rfl, hA1, hB1, hZ2, hC1, hb3⟩
  case round =>
   obtain ⟨k, hk, rfl, hA2, hB2, hZ3, hC2, hb4⟩ := hrel
   clear hA1 hB1 hZ2 hC1 hb3
   have hlt3 := hC2.lt
   by_cases hlt : k < 12
   ·obtain ⟨a0, a1⟩ := hA2.spans k hlt
    obtain ⟨b0, b1⟩ := hB2.spans k hlt
    obtain ⟨l1, l2⟩ := okA (2 * k) (by omega)
    obtain ⟨l3, l4⟩ := okA (2 * k + 1) (by omega)
    obtain ⟨l5, l6⟩ := okB (2 * k) (by omega)
    obtain ⟨l7, l8⟩ := okB (2 * k + 1) (by omega)
    have HM := Lib.hid (show min (a (2 * k)) (b (2 * k)) = J (2 * k) ∧ max (a (2 * k + 1)) (b (2 * k + 1)) = J (2 * k + 1) by rw [HJ.out, joinV_lo, joinV_hi]; exact ⟨rfl, rfl⟩)
    clear okA okB
    go_wp2_with fail
    go_still_tail 26, (by kernel_rfl)
    all_goals
     change wpList _ _ _ _ _ wr.drew
     generalize hw2 : wr.drew = w2
     have hA3 : Blk w2 w.heap.size 26 (va a) := by rw [← hw2]; exact hA2
     have hB3 : Blk w2 (w.heap.size + 1) 26 (va b) := by rw [← hw2]; exact hB2
     have hZ4 : Blk w2 (w.heap.size + 1 + 1) 75 (mnA zeroV 0) := by rw [← hw2]; exact hZ3
     have hC3 : Blk w2 w1.heap.size 26 (va (firstV J k)) := by rw [← hw2]; exact hC2
     have hb5 : Below w.heap.size w w2 := by rw [← hw2]; exact hb4.drew
     clear hw2 hA2 hB2 hZ3 hC2 hb4 hlt3 a0 a1 b0 b1
     have hlt3 := hC3.lt
     have e0 := hC3.va (k * 2) (by omega)
     have e1 := hC3.va (k * 2 + 1) (by omega)
     have g0 := hC3.frozen (k * 2)
     have g1 := hC3.frozen (k * 2 + 1)
     go_wp2
     rw [HM.out.1, HM.out.2]
     go_roundw
     case rel => exact ⟨k + 1, by omega, by go_num, (hA3.far (by show _ ≠ w1.heap.size; omega) _).far (by show _ ≠ w1.heap.size; omega) _, (hB3.far (by show _ ≠ w1.heap.size; omega) _).far (by show _ ≠ w1.heap.size; omega) _, (hZ4.far (by show _ ≠ w1.heap.size; omega) _).far (by show _ ≠ w1.heap.size; omega) _, hC3.joinStep hlt, (hb5.setCell (by show _ ≤ w1.heap.size; omega) _).setCell (by show _ ≤ w1.heap.size; omega) _⟩
     case measure => simp [intOf]; omega
   ·obtain rfl : k = 12 := by omega
    have hC3 : Blk wr w1.heap.size 26 (va J) := by rw [← firstV_all]; exact hC2
    clear hC2 okA okB
    go_wp2_with (first
     | (refine ldV 6 rfl rfl hC3 rfl ?_)
     | (refine wpl_build75V rfl (.tmp 44) rfl J rfl ?_)
     | (refine stMd 4 45 rfl rfl hZ3 rfl (v := J) (e := 0) rfl ?_))
    exact bodyPost_ret (resMd rfl _ _ (hZ3.setRow _) rfl) rfl ⟨rfl, below_setRow hb4 (by omega) _⟩
end Go.Proofs.YtbhiphjifdnhmaaGreatDoor
namespace Go.Proofs.YtbhiphjifdnhmaaGreatDoor
open Go.RowKit
/-- the 26 cells of a joined day -/
def joA (v : Nat → Int) (n e : Int) : Array Value := (mnA v n).push (.int .i64 e)
theorem joA_size (v : Nat → Int) (n e : Int) : (joA v n e).size = 26 := by simp [joA, mnA_size]
theorem joA_va (v : Nat → Int) (n e : Int) (i : Nat) (h : i < 24) : (joA v n e)[i]? = some (.int .i64 (v i)) := by
 unfold joA mnA
 rw [Array.getElem?_push, if_neg (by simp [va_size]; omega), Array.getElem?_push, if_neg (by rw [va_size]; omega), va_get _ _ h]
theorem joA_n (v : Nat → Int) (n e : Int) : (joA v n e)[24]? = some (.int .i64 n) := by
 unfold joA mnA
 rw [Array.getElem?_push, if_neg (by simp [va_size]), Array.getElem?_push, if_pos (by rw [va_size])]
theorem joA_e (v : Nat → Int) (n e : Int) : (joA v n e)[25]? = some (.int .i64 e) := by
 unfold joA
 rw [Array.getElem?_push, if_pos (by rw [mnA_size])]
theorem joA_one (v : Nat → Int) (n e : Int) : (joA v n e).all (·.oneCell') = true := by
 rw [Array.all_eq_true]
 intro i hi
 have h := joA_size v n e
 have hx : (joA v n e)[i]? = some (joA v n e)[i] := Array.getElem?_eq_getElem hi
 rcases Nat.lt_or_ge i 24 with h1 | h1
 ·rw [joA_va _ _ _ _ h1] at hx
  injection hx with hx
  rw [← hx]; rfl
 ·rcases (show i = 24 ∨ i = 25 by omega) with rfl | rfl
  ·rw [joA_n] at hx
   injection hx with hx
   rw [← hx]; rfl
  ·rw [joA_e] at hx
   injection hx with hx
   rw [← hx]; rfl
theorem joA_set (v : Nat → Int) (n e : Int) (i : Nat) (x : Int) (h : i < 24) : (joA v n e).setIfInBounds i (.int .i64 x) = joA (upd v i x) n e := by
 apply Array.ext_getElem?
 intro j
 rw [Array.getElem?_setIfInBounds, joA_size]
 rcases Nat.lt_or_ge j 24 with h1 | h1
 ·rw [joA_va _ _ _ _ h1, joA_va _ _ _ _ h1]
  by_cases hc : i = j
  ·subst hc; simp [upd, show i < 26 by omega]
  ·rw [if_neg hc, upd, if_neg (fun q => hc q.symm)]
 ·rw [if_neg (by omega)]
  rcases (show j = 24 ∨ j = 25 ∨ 26 ≤ j by omega) with rfl | rfl | h2
  ·rw [joA_n, joA_n]
  ·rw [joA_e, joA_e]
  ·rw [Array.getElem?_eq_none (by rw [joA_size]; omega), Array.getElem?_eq_none (by rw [joA_size]; omega)]
theorem joA_setN (v : Nat → Int) (n e x : Int) : (joA v n e).setIfInBounds 24 (.int .i64 x) = joA v x e := by
 apply Array.ext_getElem?
 intro j
 rw [Array.getElem?_setIfInBounds, joA_size]
 rcases Nat.lt_or_ge j 24 with h1 | h1
 ·rw [if_neg (by omega), joA_va _ _ _ _ h1, joA_va _ _ _ _ h1]
 ·rcases (show j = 24 ∨ j = 25 ∨ 26 ≤ j by omega) with rfl | rfl | h2
  ·simp [joA_n]
  ·rw [if_neg (by omega), joA_e, joA_e]
  ·rw [if_neg (by omega), Array.getElem?_eq_none (by rw [joA_size]; omega), Array.getElem?_eq_none (by rw [joA_size]; omega)]
theorem joA_congr {a b : Nat → Int} (n e : Int) (h : va a = va b) : joA a n e = joA b n e := by unfold joA mnA; rw [h]
theorem info81 (v : Nat → Int) (n e : Int) : (Tryz.prog.info? 81).map (·.size) = some (joA v n e).size := by
 rw [joA_size]; kernel_rfl
theorem zjo : (#[.int .i64 0, .int .i64 0, .int .i64 0, .int .i64 0, .int .i64 0, .int .i64 0, .int .i64 0, .int .i64 0, .int .i64 0, .int .i64 0, .int .i64 0, .int .i64 0, .int .i64 0, .int .i64 0, .int .i64 0, .int .i64 0, .int .i64 0, .int .i64 0, .int .i64 0, .int .i64 0, .int .i64 0, .int .i64 0, .int .i64 0, .int .i64 0, .int .i64 0, .int .i64 0] : Array Value) = joA zeroV 0 0 := by kernel_rfl
theorem run_build81E (e : Int) (w : World) : (Instr.build 81 #[(2, .int .i64 e)]).run Tryz.prog w = .ok (.agg (joA zeroV 0 e)) w := by kernel_rfl
/-- a joined day stored whole at slot t -/
theorem stJo {ops : Array Oper} {rest : List Oper} {o : Oper} {a : Act} {w : World} {Q : Exit → Act → World → Prop} (t s : Tmp) (hgd : o.guard = none) (ho : o.op = .store 81 (.tmp t) (.tmp s))
  {g : Nat} {T : TypeId} {v u : Nat → Int} {n e i j : Int} (hB : Blk w g T (joA u i j)) (hx : a.eval (.tmp t) = .pointer (some ⟨g, 0, none⟩)) (hy : a.eval (.tmp s) = .agg (joA v n e)) (h : wpList Tryz.prog ops Q rest (a.put o.dst undef) (w.setRow g (joA v n e))) : wpList Tryz.prog ops Q (o :: rest) a w :=
 wpList_store_row hgd 81 _ _ ho g _ hx hy T _ hB (info81 _ _ _) (by rw [joA_size, joA_size]) (joA_one _ _ _) h
theorem ldJo {ops : Array Oper} {rest : List Oper} {o : Oper} {a : Act} {w : World} {Q : Exit → Act → World → Prop} (t : Tmp) (hgd : o.guard = none) (ho : o.op = .load 81 (.tmp t))
  {g : Nat} {T : TypeId} {v : Nat → Int} {n e : Int} (hB : Blk w g T (joA v n e)) (hx : a.eval (.tmp t) = .pointer (some ⟨g, 0, none⟩)) (h : wpList Tryz.prog ops Q rest (a.put o.dst (.agg (joA v n e))) w) : wpList Tryz.prog ops Q (o :: rest) a w :=
 wpList_load_row hgd 81 _ ho g hx T _ (0, 0) _ hB Tryz.underlying81 rfl (info81 _ _ _) h
def RetJo (w : World) (v : Nat → Int) (n er : Int) (e : Ending) (w' : World) : Prop := e = .returned (.agg (joA v n er)) ∧ Below w.heap.size w w'
theorem resJo {fn : Func} {p : Tmp} (h : fn.results = #[.cell p 81]) (tmps : Array Value) (w : World) {g : Nat} {v : Nat → Int} {n e : Int} (hB : Blk w g 81 (joA v n e)) (hp : tmps.getD p undef = .pointer (some ⟨g, 0, none⟩)) : (results fn tmps).run Tryz.prog w = .ok (.agg (joA v n e)) w :=
 results_cell_row h _ _ g 81 (joA v n e) (0, 0) _ hp hB Tryz.underlying81 rfl (info81 _ _ _)
theorem Blk.joStore {w : World} {g : Nat} {t : TypeId} {v : Nat → Int} {n e : Int} (h : Blk w g t (joA v n e)) (i : Nat) (x : Int) (hi : i < 24) : Blk (w.setCell ⟨g, i, none⟩ (.int .i64 x)) g t (joA (upd v i x) n e) := by
 have := h.store i (.int .i64 x)
 rwa [joA_set _ _ _ _ _ hi] at this
theorem Blk.joN {w : World} {g : Nat} {t : TypeId} {v : Nat → Int} {n e : Int} (h : Blk w g t (joA v n e)) (x : Int) : Blk (w.setCell ⟨g, 24, none⟩ (.int .i64 x)) g t (joA v x e) := by
 have := h.store 24 (.int .i64 x)
 rwa [joA_setN] at this
/-- a further span of a joined day is stored -/
theorem Blk.joStep {w : World} {g : Nat} {t : TypeId} {J : Nat → Int} {n e : Int} {k : Nat} (h : Blk w g t (joA (firstV J k) n e)) (hk : k < 12) :
  Blk ((w.setCell ⟨g, k * 2, none⟩ (.int .i64 (J (2 * k)))).setCell ⟨g, k * 2 + 1, none⟩ (.int .i64 (J (2 * k + 1)))) g t (joA (firstV J (k + 1)) n e) := by
 have h2 := (h.joStore (k * 2) (J (2 * k)) (by omega)).joStore (k * 2 + 1) (J (2 * k + 1)) (by omega)
 rw [← joA_congr n e (firstV_upd J k), show 2 * k = k * 2 by omega]
 rw [show 2 * k = k * 2 by omega] at h2
 exact h2
theorem jo_same0 {a b : Nat → Int} (h : lastTo a b 1 = (0, 0)) : va (firstV (bothV a b) 0) = va (firstV (bothV a b) 1) := va_congr fun i _ => by
 show (if i < 2 * 0 then bothV a b i else 0) = if i < 2 * 1 then bothV a b i else 0
 rw [if_neg (by omega)]
 by_cases h2 : i < 2 * 1
 ·rw [if_pos h2]
  rcases (show i = 0 ∨ i = 1 by omega) with rfl | rfl
  ·have := bothV_lo a b 0
   rw [show 2 * 0 = 0 from rfl] at this
   rw [this, h]
  ·have := bothV_hi a b 0
   rw [show 2 * 0 + 1 = 1 from rfl] at this
   rw [this, h]
 ·rw [if_neg h2]
set_option maxRecDepth 100000 in
set_option maxHeartbeats 8000000 in
theorem refBoth_any (a b : Nat → Int) (w : World) : Calls Tryz.prog 46 #[.agg (va a), .agg (va b)] w (RetJo w (bothR a b) (bothK a b) (bothE a b)) := by
 have hA := ((Blk.new w 26 (va a)).alloc (.cells (va b) 26)).alloc (.cells #[.int .i64 0, .int .i64 0, .int .i64 0, .int .i64 0, .int .i64 0, .int .i64 0, .int .i64 0, .int .i64 0, .int .i64 0, .int .i64 0, .int .i64 0, .int .i64 0, .int .i64 0, .int .i64 0, .int .i64 0, .int .i64 0, .int .i64 0, .int .i64 0, .int .i64 0, .int .i64 0, .int .i64 0, .int .i64 0, .int .i64 0, .int .i64 0, .int .i64 0, .int .i64 0] 81)
 have hB : Blk (((w.alloc (.cells (va a) 26)).alloc (.cells (va b) 26)).alloc (.cells #[.int .i64 0, .int .i64 0, .int .i64 0, .int .i64 0, .int .i64 0, .int .i64 0, .int .i64 0, .int .i64 0, .int .i64 0, .int .i64 0, .int .i64 0, .int .i64 0, .int .i64 0, .int .i64 0, .int .i64 0, .int .i64 0, .int .i64 0, .int .i64 0, .int .i64 0, .int .i64 0, .int .i64 0, .int .i64 0, .int .i64 0, .int .i64 0, .int .i64 0, .int .i64 0] 81)) (w.heap.size + 1) 26 (va b) := (Blk.newAt (by simp)).alloc _
 have hZ : Blk (((w.alloc (.cells (va a) 26)).alloc (.cells (va b) 26)).alloc (.cells #[.int .i64 0, .int .i64 0, .int .i64 0, .int .i64 0, .int .i64 0, .int .i64 0, .int .i64 0, .int .i64 0, .int .i64 0, .int .i64 0, .int .i64 0, .int .i64 0, .int .i64 0, .int .i64 0, .int .i64 0, .int .i64 0, .int .i64 0, .int .i64 0, .int .i64 0, .int .i64 0, .int .i64 0, .int .i64 0, .int .i64 0, .int .i64 0, .int .i64 0, .int .i64 0] 81)) (w.heap.size + 1 + 1) 81 (joA zeroV 0 0) := by rw [zjo]; exact Blk.newAt (by simp)
 have hb0 : Below w.heap.size w (((w.alloc (.cells (va a) 26)).alloc (.cells (va b) 26)).alloc (.cells #[.int .i64 0, .int .i64 0, .int .i64 0, .int .i64 0, .int .i64 0, .int .i64 0, .int .i64 0, .int .i64 0, .int .i64 0, .int .i64 0, .int .i64 0, .int .i64 0, .int .i64 0, .int .i64 0, .int .i64 0, .int .i64 0, .int .i64 0, .int .i64 0, .int .i64 0, .int .i64 0, .int .i64 0, .int .i64 0, .int .i64 0, .int .i64 0, .int .i64 0, .int .i64 0] 81)) := ((below_new _ _).alloc (by simp) _).alloc (by simp; omega) _
 cases h0 : (vok a && vok b)
 ·have H0 := Lib.hid h0
  have HR := Lib.hid (show bothE a b = 1 ∧ bothR a b = zeroV ∧ bothK a b = 0 by simp [bothE, bothR, bothK, h0, orZero])
  clear h0
  rw [HR.out.1, HR.out.2.1, HR.out.2.2]
  go_enter Tryz.func46, Tryz.ntmps46
  go_wp2_with (first
   | (refine ldV 2 rfl rfl hA rfl ?_)
   | (refine ldV 3 rfl rfl hB rfl ?_)
   | (go_at_call 95; refine (refRight_any _ _ _).mono ?_; rw [H0.out]; rintro e w1 ⟨rfl, hb1⟩; have hZ1 := hZ.below hb1 (by simp))
   | (refine stJo 4 14 rfl rfl hZ1 rfl (v := zeroV) (n := 0) (e := 1) (by kernel_rfl) ?_))
  exact bodyPost_ret (resJo rfl _ _ (hZ1.setRow _) rfl) rfl ⟨rfl, below_setRow (below_next hb0 (by simp; omega) hb1) (by omega) _⟩
 ·have H0 := Lib.hid h0
  obtain ⟨ha, hb⟩ : vok a = true ∧ vok b = true := by simpa using h0
  have HE : bothE a b = if bothN a b 12 = 0 then 9 else 0 := by simp [bothE, h0]
  have HR := Lib.hid (show (bothN a b 12 = 0 → bothE a b = 9 ∧ bothR a b = zeroV ∧ bothK a b = 0) ∧ (bothN a b 12 ≠ 0 → bothE a b = 0 ∧ bothR a b = bothV a b ∧ bothK a b = bothN a b 12) by
   refine ⟨fun h => ?_, fun h => ?_⟩
   ·have e : bothE a b = 9 := by rw [HE, if_pos h]
    exact ⟨e, by unfold bothR; rw [e]; exact orZero_no _ (by omega), by unfold bothK; rw [e]; rfl⟩
   ·have e : bothE a b = 0 := by rw [HE, if_neg h]
    exact ⟨e, by unfold bothR; rw [e]; exact orZero_ok _, by unfold bothK; rw [e]; rfl⟩)
  clear h0 ha hb HE
  obtain ⟨V, hV⟩ : ∃ V, V = bothR a b := ⟨_, rfl⟩
  obtain ⟨K, hK⟩ : ∃ K, K = bothK a b := ⟨_, rfl⟩
  obtain ⟨E, hE⟩ : ∃ E, E = bothE a b := ⟨_, rfl⟩
  rw [← hV, ← hK, ← hE] at HR ⊢
  clear hV hK hE
  go_enter Tryz.func46, Tryz.ntmps46
  go_wp2_with (first
   | (refine ldV 2 rfl rfl hA rfl ?_)
   | (refine ldV 3 rfl rfl hB rfl ?_)
   | (go_at_call 95; refine (refRight_any _ _ _).mono ?_; rw [H0.out]; rintro e w1 ⟨rfl, hb1⟩))
  have hz1 : w.heap.size + 1 + 1 + 1 ≤ w1.heap.size := by have := hb1.size; simpa using this
  have hA1 := (hA.below hb1 (by simp; omega)).alloc (.cells #[.int .i64 0, .int .i64 0, .int .i64 0, .int .i64 0, .int .i64 0, .int .i64 0, .int .i64 0, .int .i64 0, .int .i64 0, .int .i64 0, .int .i64 0, .int .i64 0, .int .i64 0, .int .i64 0, .int .i64 0, .int .i64 0, .int .i64 0, .int .i64 0, .int .i64 0, .int .i64 0, .int .i64 0, .int .i64 0, .int .i64 0, .int .i64 0, .int .i64 0, .int .i64 0] 81)
  have hB1 := (hB.below hb1 (by simp)).alloc (.cells #[.int .i64 0, .int .i64 0, .int .i64 0, .int .i64 0, .int .i64 0, .int .i64 0, .int .i64 0, .int .i64 0, .int .i64 0, .int .i64 0, .int .i64 0, .int .i64 0, .int .i64 0, .int .i64 0, .int .i64 0, .int .i64 0, .int .i64 0, .int .i64 0, .int .i64 0, .int .i64 0, .int .i64 0, .int .i64 0, .int .i64 0, .int .i64 0, .int .i64 0, .int .i64 0] 81)
  have hZ2 := (hZ.below hb1 (by simp)).alloc (.cells #[.int .i64 0, .int .i64 0, .int .i64 0, .int .i64 0, .int .i64 0, .int .i64 0, .int .i64 0, .int .i64 0, .int .i64 0, .int .i64 0, .int .i64 0, .int .i64 0, .int .i64 0, .int .i64 0, .int .i64 0, .int .i64 0, .int .i64 0, .int .i64 0, .int .i64 0, .int .i64 0, .int .i64 0, .int .i64 0, .int .i64 0, .int .i64 0, .int .i64 0, .int .i64 0] 81)
  have hC1 : Blk (w1.alloc (.cells #[.int .i64 0, .int .i64 0, .int .i64 0, .int .i64 0, .int .i64 0, .int .i64 0, .int .i64 0, .int .i64 0, .int .i64 0, .int .i64 0, .int .i64 0, .int .i64 0, .int .i64 0, .int .i64 0, .int .i64 0, .int .i64 0, .int .i64 0, .int .i64 0, .int .i64 0, .int .i64 0, .int .i64 0, .int .i64 0, .int .i64 0, .int .i64 0, .int .i64 0, .int .i64 0] 81)) w1.heap.size 81 (joA (firstV (bothV a b) 0) (bothN a b 0) 0) := by rw [zjo, joA_congr _ _ (firstV_zero _).symm]; exact Blk.new _ _ _
  have hb3 := (below_next hb0 (by simp; omega) hb1).alloc (by omega) (.cells #[.int .i64 0, .int .i64 0, .int .i64 0, .int .i64 0, .int .i64 0, .int .i64 0, .int .i64 0, .int .i64 0, .int .i64 0, .int .i64 0, .int .i64 0, .int .i64 0, .int .i64 0, .int .i64 0, .int .i64 0, .int .i64 0, .int .i64 0, .int .i64 0, .int .i64 0, .int .i64 0, .int .i64 0, .int .i64 0, .int .i64 0, .int .i64 0, .int .i64 0, .int .i64 0] 81)
  clear hb1 hA hB hZ hb0
  go_loopw [7] (fun t7 wr => ∃ k : Nat, k ≤ 12 ∧ t7 = .int .i64 k ∧ Blk wr w.heap.size 26 (va a) ∧ Blk wr (w.heap.size + 1) 26 (va b) ∧ Blk wr (w.heap.size + 1 + 1) 81 (joA zeroV 0 0) ∧ Blk wr w1.heap.size 81 (joA (firstV (bothV a b) k) (bothN a b k) 0) ∧ Below w.heap.size w wr) (fun t7 _ => 12 - (intOf t7).toNat)
  case atStart => exact ⟨0, by omega, rfl, hA1, hB1, hZ2, hC1, hb3⟩
  case round =>
   obtain ⟨k, hk, rfl, hA2, hB2, hZ3, hC2, hb4⟩ := hrel
   clear hA1 hB1 hZ2 hC1 hb3
   have hlt3 := hC2.lt
   by_cases hlt : k < 12
   ·obtain ⟨a0, a1⟩ := hA2.spans k hlt
    obtain ⟨b0, b1⟩ := hB2.spans k hlt
    obtain ⟨M, hM⟩ : ∃ M, M = meetV a b := ⟨_, rfl⟩
    have HM := Lib.hid (show max (a (2 * k)) (b (2 * k)) = M (2 * k) ∧ min (a (2 * k + 1)) (b (2 * k + 1)) = M (2 * k + 1) by rw [hM, meetV, joinV_lo, joinV_hi]; exact ⟨rfl, rfl⟩)
    have hme : meets a b k = decide (M (2 * k) ≤ M (2 * k + 1)) := by rw [hM]; rfl
    have hl : lastTo a b (k + 1) = if meets a b k then (M (2 * k), M (2 * k + 1)) else lastTo a b k := by rw [hM]; rfl
    have hn : bothN a b (k + 1) = if meets a b k then (k : Int) + 1 else bothN a b k := rfl
    have HL := Lib.hid hl
    have HN := Lib.hid hn
    have HME := Lib.hid hme
    clear hM hl hn hme
    go_upto_region 8 with fail
    go_cut [8] (fun s8 wx => s8 = .pointer (some ⟨wr.heap.size, 0, none⟩) ∧ wx = (wr.alloc (.cells #[.int .i64 (M (2 * k)), .int .i64 (M (2 * k + 1))] 23)).drew)
    case first =>
     go_region_held3 (fun w' => w'.cell? ⟨w.heap.size, k * 2, none⟩ = some (.int .i64 (a (2 * k))) ∧ w'.cell? ⟨w.heap.size, k * 2 + 1, none⟩ = some (.int .i64 (a (2 * k + 1))) ∧ w'.cell? ⟨w.heap.size + 1, k * 2, none⟩ = some (.int .i64 (b (2 * k))) ∧ w'.cell? ⟨w.heap.size + 1, k * 2 + 1, none⟩ = some (.int .i64 (b (2 * k + 1)))) (first | exact ⟨a0, a1, b0, b1⟩ | exact keep4A ⟨a0, a1, b0, b1⟩) ((fail))
     all_goals
      go_wp2_with fail
      go_meet
      case rel => exact ⟨rfl, by rw [HM.out.1, HM.out.2]⟩
    case rest =>
     obtain ⟨rfl, hwc⟩ := hcut
     have hA3 : Blk wc w.heap.size 26 (va a) := by rw [hwc]; exact hA2.alloc _
     have hB3 : Blk wc (w.heap.size + 1) 26 (va b) := by rw [hwc]; exact hB2.alloc _
     have hZ4 : Blk wc (w.heap.size + 1 + 1) 81 (joA zeroV 0 0) := by rw [hwc]; exact hZ3.alloc _
     have hC3 : Blk wc w1.heap.size 81 (joA (firstV (bothV a b) k) (bothN a b k) 0) := by rw [hwc]; exact hC2.alloc _
     have hN3 : Blk wc wr.heap.size 23 #[.int .i64 (M (2 * k)), .int .i64 (M (2 * k + 1))] := by rw [hwc]; exact Blk.new wr 23 _
     have hb5 : Below w.heap.size w wc := by rw [hwc]; exact (hb4.alloc hb4.size _).drew
     clear hwc hA2 hB2 hZ3 hC2 hb4 a0 a1 b0 b1
     obtain ⟨m0, m1⟩ := hN3.two
     have hle := HME.out
     cases hme : meets a b k
     ·have hn1 := Lib.hid (show bothN a b (k + 1) = bothN a b k by rw [HN.out, hme]; rfl)
      have hl1 := Lib.hid (show lastTo a b (k + 1) = lastTo a b k by rw [HL.out, hme]; rfl)
      have hd : decide (M (2 * k) ≤ M (2 * k + 1)) = false := by rw [← hle, hme]
      clear hle hme HL HN HME
      by_cases hk0 : k = 0
      ·subst hk0
       go_wp2_with fail
       go_roundw
       case rel => exact ⟨1, by omega, rfl, hA3, hB3, hZ4, by rw [hn1.out, ← joA_congr _ _ (jo_same0 hl1.out)]; exact hC3, hb5⟩
       case measure => simp [intOf]
      ·have hk1 : k - 1 + 1 = k := by omega
       have hB0 : bothV a b (2 * k) = firstV (bothV a b) k ((k - 1) * 2) := by
        unfold firstV
        rw [if_pos (by omega), bothV_lo, hl1.out, show (k - 1) * 2 = 2 * (k - 1) by omega, bothV_lo, hk1]
       have hB1 : bothV a b (2 * k + 1) = firstV (bothV a b) k ((k - 1) * 2 + 1) := by
        unfold firstV
        rw [if_pos (by omega), bothV_hi, hl1.out, show (k - 1) * 2 + 1 = 2 * (k - 1) + 1 by omega, bothV_hi, hk1]
       have f0 : wc.cell? ⟨w1.heap.size, (k - 1) * 2, none⟩ = some (.int .i64 (bothV a b (2 * k))) := by rw [hB0]; exact (hC3.cell _).trans (joA_va _ _ _ _ (by omega))
       have f1 : wc.cell? ⟨w1.heap.size, (k - 1) * 2 + 1, none⟩ = some (.int .i64 (bothV a b (2 * k + 1))) := by rw [hB1]; exact (hC3.cell _).trans (joA_va _ _ _ _ (by omega))
       have g0 := hC3.frozen (k * 2)
       have g1 := hC3.frozen (k * 2 + 1)
       have e0 : wc.cell? ⟨w1.heap.size, k * 2, none⟩ = some (.int .i64 (firstV (bothV a b) k (k * 2))) := (hC3.cell _).trans (joA_va _ _ _ _ (by omega))
       have e1 : wc.cell? ⟨w1.heap.size, k * 2 + 1, none⟩ = some (.int .i64 (firstV (bothV a b) k (k * 2 + 1))) := (hC3.cell _).trans (joA_va _ _ _ _ (by omega))
       clear hB0 hB1 hk1
       have hk2 : ((k : Int) - 1).toNat = k - 1 := by omega
       have hk3 : (k : Int) - 1 < 12 := by omega
       have hk4 : (0 : Int) < k := by omega
       have hk5 : 1 ≤ (k : Int) := by omega
       go_wp2_with fail
       go_roundw
       case rel => exact ⟨k + 1, by omega, by go_num, (hA3.far (by show _ ≠ w1.heap.size; omega) _).far (by show _ ≠ w1.heap.size; omega) _, (hB3.far (by show _ ≠ w1.heap.size; omega) _).far (by show _ ≠ w1.heap.size; omega) _, (hZ4.far (by show _ ≠ w1.heap.size; omega) _).far (by show _ ≠ w1.heap.size; omega) _, by rw [hn1.out]; exact hC3.joStep hlt, (hb5.setCell (by show _ ≤ w1.heap.size; omega) _).setCell (by show _ ≤ w1.heap.size; omega) _⟩
       case measure => simp [intOf]; omega
     ·have hn1 := Lib.hid (show bothN a b (k + 1) = (k : Int) + 1 by rw [HN.out, hme]; rfl)
      have hl1 := Lib.hid (show M (2 * k) = bothV a b (2 * k) ∧ M (2 * k + 1) = bothV a b (2 * k + 1) by rw [bothV_lo, bothV_hi, HL.out, hme]; exact ⟨rfl, rfl⟩)
      have hd : decide (M (2 * k) ≤ M (2 * k + 1)) = true := by rw [← hle, hme]
      clear hle hme HL HN HME
      have g0 := hC3.frozen (k * 2)
      have g1 := hC3.frozen (k * 2 + 1)
      have g2 := hC3.frozen 24
      have e2 : wc.cell? ⟨w1.heap.size, 24, none⟩ = some (.int .i64 (bothN a b k)) := (hC3.cell 24).trans (joA_n _ _ _)
      have e0 : wc.cell? ⟨w1.heap.size, k * 2, none⟩ = some (.int .i64 (firstV (bothV a b) k (k * 2))) := (hC3.cell _).trans (joA_va _ _ _ _ (by omega))
      have e1 : wc.cell? ⟨w1.heap.size, k * 2 + 1, none⟩ = some (.int .i64 (firstV (bothV a b) k (k * 2 + 1))) := (hC3.cell _).trans (joA_va _ _ _ _ (by omega))
      go_wp2_with fail
      rw [hl1.out.1, hl1.out.2]
      go_roundw
      case rel => exact ⟨k + 1, by omega, by go_num, ((hA3.far (by show _ ≠ w1.heap.size; omega) _).far (by show _ ≠ w1.heap.size; omega) _).far (by show _ ≠ w1.heap.size; omega) _, ((hB3.far (by show _ ≠ w1.heap.size; omega) _).far (by show _ ≠ w1.heap.size; omega) _).far (by show _ ≠ w1.heap.size; omega) _, ((hZ4.far (by show _ ≠ w1.heap.size; omega) _).far (by show _ ≠ w1.heap.size; omega) _).far (by show _ ≠ w1.heap.size; omega) _, by rw [hn1.out]; exact (hC3.joN _).joStep hlt, ((hb5.setCell (by show _ ≤ w1.heap.size; omega) _).setCell (by show _ ≤ w1.heap.size; omega) _).setCell (by show _ ≤ w1.heap.size; omega) _⟩
      case measure => simp [intOf]; omega
   ·obtain rfl : k = 12 := by omega
    have hC3 : Blk wr w1.heap.size 81 (joA (bothV a b) (bothN a b 12) 0) := by rw [← joA_congr _ _ (firstV_all _)]; exact hC2
    have en : wr.cell? ⟨w1.heap.size, 24, none⟩ = some (.int .i64 (bothN a b 12)) := (hC3.cell 24).trans (joA_n _ _ _)
    clear hC2
    by_cases h0 : bothN a b 12 = 0
    ·obtain ⟨rfl, rfl, rfl⟩ := HR.out.1 h0
     have hn0 : (bothN a b 12 == 0) = true := by simp [h0]
     clear h0
     go_wp2_with (first
      | (refine stJo 4 70 rfl rfl hZ3 rfl (v := zeroV) (n := 0) (e := 9) (by kernel_rfl) ?_))
     exact bodyPost_ret (resJo rfl _ _ (hZ3.setRow _) rfl) rfl ⟨rfl, below_setRow hb4 (by omega) _⟩
    ·obtain ⟨rfl, rfl, rfl⟩ := HR.out.2 h0
     have hn0 : (bothN a b 12 == 0) = false := by simp [h0]
     clear h0
     go_wp2_with (first
      | (refine ldJo 6 rfl rfl hC3 rfl ?_)
      | (refine stJo 4 71 rfl rfl hZ3 rfl rfl ?_))
     exact bodyPost_ret (resJo rfl _ _ (hZ3.setRow _) rfl) rfl ⟨rfl, below_setRow hb4 (by omega) _⟩
end Go.Proofs.YtbhiphjifdnhmaaGreatDoor
namespace Go.Proofs.YtbhiphjifdnhmaaGreatDoor
open Go.RowKit Go.Maps
theorem mnA_va (v : Nat → Int) (e : Int) (i : Nat) (h : i < 24) : (mnA v e)[i]? = some (.int .i64 (v i)) := by
 unfold mnA
 rw [Array.getElem?_push, if_neg (by rw [va_size]; omega), va_get _ _ h]
theorem mnA_e (v : Nat → Int) (e : Int) : (mnA v e)[24]? = some (.int .i64 e) := by
 unfold mnA
 rw [Array.getElem?_push, if_pos (by rw [va_size])]
theorem new75z (w : World) : Blk (w.alloc (.cells #[.int .i64 0, .int .i64 0, .int .i64 0, .int .i64 0, .int .i64 0, .int .i64 0, .int .i64 0, .int .i64 0, .int .i64 0, .int .i64 0, .int .i64 0, .int .i64 0, .int .i64 0, .int .i64 0, .int .i64 0, .int .i64 0, .int .i64 0, .int .i64 0, .int .i64 0, .int .i64 0, .int .i64 0, .int .i64 0, .int .i64 0, .int .i64 0, .int .i64 0] 75)) w.heap.size 75 (mnA zeroV 0) := by rw [zmn]; exact Blk.new _ _ _
theorem new75 (w : World) (c : Nat → Int) (e : Int) : Blk ((w.alloc (.cells #[.int .i64 0, .int .i64 0, .int .i64 0, .int .i64 0, .int .i64 0, .int .i64 0, .int .i64 0, .int .i64 0, .int .i64 0, .int .i64 0, .int .i64 0, .int .i64 0, .int .i64 0, .int .i64 0, .int .i64 0, .int .i64 0, .int .i64 0, .int .i64 0, .int .i64 0, .int .i64 0, .int .i64 0, .int .i64 0, .int .i64 0, .int .i64 0, .int .i64 0] 75)).setRow w.heap.size (mnA c e)) w.heap.size 75 (mnA c e) := (new75z w).setRow _
theorem below75 (w : World) (c : Nat → Int) (e : Int) : Below w.heap.size w ((w.alloc (.cells #[.int .i64 0, .int .i64 0, .int .i64 0, .int .i64 0, .int .i64 0, .int .i64 0, .int .i64 0, .int .i64 0, .int .i64 0, .int .i64 0, .int .i64 0, .int .i64 0, .int .i64 0, .int .i64 0, .int .i64 0, .int .i64 0, .int .i64 0, .int .i64 0, .int .i64 0, .int .i64 0, .int .i64 0, .int .i64 0, .int .i64 0, .int .i64 0, .int .i64 0] 75)).setRow w.heap.size (mnA c e)) := below_setRow (below_new _ _) (Nat.le_refl _) _
theorem new81z (w : World) : Blk (w.alloc (.cells #[.int .i64 0, .int .i64 0, .int .i64 0, .int .i64 0, .int .i64 0, .int .i64 0, .int .i64 0, .int .i64 0, .int .i64 0, .int .i64 0, .int .i64 0, .int .i64 0, .int .i64 0, .int .i64 0, .int .i64 0, .int .i64 0, .int .i64 0, .int .i64 0, .int .i64 0, .int .i64 0, .int .i64 0, .int .i64 0, .int .i64 0, .int .i64 0, .int .i64 0, .int .i64 0] 81)) w.heap.size 81 (joA zeroV 0 0) := by rw [zjo]; exact Blk.new _ _ _
theorem new81 (w : World) (c : Nat → Int) (n e : Int) : Blk ((w.alloc (.cells #[.int .i64 0, .int .i64 0, .int .i64 0, .int .i64 0, .int .i64 0, .int .i64 0, .int .i64 0, .int .i64 0, .int .i64 0, .int .i64 0, .int .i64 0, .int .i64 0, .int .i64 0, .int .i64 0, .int .i64 0, .int .i64 0, .int .i64 0, .int .i64 0, .int .i64 0, .int .i64 0, .int .i64 0, .int .i64 0, .int .i64 0, .int .i64 0, .int .i64 0, .int .i64 0] 81)).setRow w.heap.size (joA c n e)) w.heap.size 81 (joA c n e) := (new81z w).setRow _
theorem below81 (w : World) (c : Nat → Int) (n e : Int) : Below w.heap.size w ((w.alloc (.cells #[.int .i64 0, .int .i64 0, .int .i64 0, .int .i64 0, .int .i64 0, .int .i64 0, .int .i64 0, .int .i64 0, .int .i64 0, .int .i64 0, .int .i64 0, .int .i64 0, .int .i64 0, .int .i64 0, .int .i64 0, .int .i64 0, .int .i64 0, .int .i64 0, .int .i64 0, .int .i64 0, .int .i64 0, .int .i64 0, .int .i64 0, .int .i64 0, .int .i64 0, .int .i64 0] 81)).setRow w.heap.size (joA c n e)) := below_setRow (below_new _ _) (Nat.le_refl _) _
theorem mn_at {w : World} {g : Nat} {T : TypeId} {v : Nat → Int} {e : Int} (h : Blk w g T (mnA v e)) : w.rangeAt g 0 (va v).toList := fun j x hx => by
 have hj : j < 24 := by have := (List.getElem?_eq_some_iff.1 hx).1; simpa [va_size] using this
 have q := h.cell (0 + j)
 rw [show 0 + j = j by omega, mnA_va v e j hj] at q
 rw [Array.getElem?_toList, va_get v j hj] at hx
 rw [show 0 + j = j by omega]
 exact q.trans hx
theorem jo_at {w : World} {g : Nat} {T : TypeId} {v : Nat → Int} {n e : Int} (h : Blk w g T (joA v n e)) : w.rangeAt g 0 (va v).toList := fun j x hx => by
 have hj : j < 24 := by have := (List.getElem?_eq_some_iff.1 hx).1; simpa [va_size] using this
 have q := h.cell (0 + j)
 rw [show 0 + j = j by omega, joA_va v n e j hj] at q
 rw [Array.getElem?_toList, va_get v j hj] at hx
 rw [show 0 + j = j by omega]
 exact q.trans hx
theorem va_len (v : Nat → Int) : (Tryz.prog.info? 26).map (·.size) = some (va v).toList.length := by
 rw [Array.length_toList]
 exact info26 v
/-- the day of a made or joined one, loaded under a guard -/
theorem ldDayG {ops : Array Oper} {rest : List Oper} {o : Oper} {a : Act} {w : World} {Q : Exit → Act → World → Prop} (t : Tmp) (hgd : Region.wanted o (yielded ops a.tmps) = true) (ho : o.op = .load 26 (.tmp t))
  {g : Nat} {v : Nat → Int} (hB : w.rangeAt g 0 (va v).toList) (hx : a.eval (.tmp t) = .pointer (some ⟨g, 0, none⟩)) (h : wpList Tryz.prog ops Q rest (a.put o.dst (.agg (va v))) w) : wpList Tryz.prog ops Q (o :: rest) a w :=
 wpList_step fun _ hK => by rw [if_pos hgd]; exact wp_load_mid 26 _ ho g 0 hx (va v).toList _ hB Tryz.underlying26 rfl (va_len v) (hK _ _ (by simpa using h))
/-- two days that are the same, compared under a guard -/
theorem wpl_eq26G {ops : Array Oper} {rest : List Oper} {o : Oper} {a : Act} {w : World} {Q : Exit → Act → World → Prop} (hgd : Region.wanted o (yielded ops a.tmps) = true) (x y : Operand) (t : TypeId) (ho : o.op = .binOp .eql 26 x y t) (v : Nat → Int) (hx : a.eval x = .agg (va v)) (hy : a.eval y = .agg (va v))
  (h : wpList Tryz.prog ops Q rest (a.put o.dst (.bool true)) w) : wpList Tryz.prog ops Q (o :: rest) a w :=
 wpList_step fun _ hK => by
  rw [if_pos hgd]
  unfold Oper.wp execOp
  simp only [ho, hx, hy, Sem.run_bind, guard26, run_eq26, sameV_self, Result.andThen_ok, Sem.run_pure]
  exact hK _ _ h
end Go.Proofs.YtbhiphjifdnhmaaGreatDoor
