import Derived.Test.YtbhiphjifdnhmaaGreatDoorR2
import Derived.Test.YtbhiphjifdnhmaaGreatDoorR3
import Derived.Test.YtbhiphjifdnhmaaGreatDoorM8
import Derived.StillTailTactics
/- The reference: Plus, Less, Hull. -/
namespace Go.Proofs.YtbhiphjifdnhmaaGreatDoor
open Go.RowKit
set_option linter.unusedSimpArgs false
set_option linter.unusedVariables false

set_option maxRecDepth 100000 in
set_option maxHeartbeats 4000000 in
theorem refPlus_any (a b : Nat → Int) (w : World) : Calls Tryz.prog 44 #[.agg (va a), .agg (va b)] w (RetMd w (joinR plusM a b) (joinE plusM a b)) := by
  have hA := ((Blk.new w 26 (va a)).alloc (.cells (va b) 26)).alloc (.cells #[.int .i64 0, .int .i64 0, .int .i64 0, .int .i64 0, .int .i64 0, .int .i64 0, .int .i64 0, .int .i64 0, .int .i64 0, .int .i64 0, .int .i64 0, .int .i64 0, .int .i64 0, .int .i64 0, .int .i64 0, .int .i64 0, .int .i64 0, .int .i64 0, .int .i64 0, .int .i64 0, .int .i64 0, .int .i64 0, .int .i64 0, .int .i64 0, .int .i64 0] 75)
  have hB : Blk (((w.alloc (.cells (va a) 26)).alloc (.cells (va b) 26)).alloc (.cells #[.int .i64 0, .int .i64 0, .int .i64 0, .int .i64 0, .int .i64 0, .int .i64 0, .int .i64 0, .int .i64 0, .int .i64 0, .int .i64 0, .int .i64 0, .int .i64 0, .int .i64 0, .int .i64 0, .int .i64 0, .int .i64 0, .int .i64 0, .int .i64 0, .int .i64 0, .int .i64 0, .int .i64 0, .int .i64 0, .int .i64 0, .int .i64 0, .int .i64 0] 75)) (w.heap.size + 1) 26 (va b) := (Blk.newAt (by simp)).alloc _
  have hZ : Blk (((w.alloc (.cells (va a) 26)).alloc (.cells (va b) 26)).alloc (.cells #[.int .i64 0, .int .i64 0, .int .i64 0, .int .i64 0, .int .i64 0, .int .i64 0, .int .i64 0, .int .i64 0, .int .i64 0, .int .i64 0, .int .i64 0, .int .i64 0, .int .i64 0, .int .i64 0, .int .i64 0, .int .i64 0, .int .i64 0, .int .i64 0, .int .i64 0, .int .i64 0, .int .i64 0, .int .i64 0, .int .i64 0, .int .i64 0, .int .i64 0] 75)) (w.heap.size + 1 + 1) 75 (mnA zeroV 0) := by rw [zmn]; exact Blk.newAt (by simp)
  have hb0 : Below w.heap.size w (((w.alloc (.cells (va a) 26)).alloc (.cells (va b) 26)).alloc (.cells #[.int .i64 0, .int .i64 0, .int .i64 0, .int .i64 0, .int .i64 0, .int .i64 0, .int .i64 0, .int .i64 0, .int .i64 0, .int .i64 0, .int .i64 0, .int .i64 0, .int .i64 0, .int .i64 0, .int .i64 0, .int .i64 0, .int .i64 0, .int .i64 0, .int .i64 0, .int .i64 0, .int .i64 0, .int .i64 0, .int .i64 0, .int .i64 0, .int .i64 0] 75)) := ((below_new _ _).alloc (by simp) _).alloc (by simp; omega) _
  cases h0 : (vok a && vok b)
  · have H0 := Lib.hid h0
    rw [joinE_no plusM h0, show joinR plusM a b = zeroV by unfold joinR; rw [joinE_no plusM h0]; rfl]
    clear h0
    go_enter Tryz.func44, Tryz.ntmps44
    go_wp2_with (first
      | (refine ldV 2 rfl rfl hA rfl ?_)
      | (refine ldV 3 rfl rfl hB rfl ?_)
      | (go_at_call 95; refine (refRight_any _ _ _).mono ?_; rw [H0.out]; rintro e w1 ⟨rfl, hb1⟩; have hZ1 := hZ.below hb1 (by simp))
      | (refine stMd 4 13 rfl rfl hZ1 rfl (v := zeroV) (e := 1) (by kernel_rfl) ?_))
    exact bodyPost_ret (resMd rfl _ _ (hZ1.setRow _) rfl) rfl ⟨rfl, below_setRow (below_next hb0 (by simp; omega) hb1) (by omega) _⟩
  · have H0 := Lib.hid h0
    obtain ⟨ha, hb⟩ : vok a = true ∧ vok b = true := by simpa using h0
    have okA := (vok_iff.1 ha).all
    have okB := (vok_iff.1 hb).all
    have hR1 : joinE plusM a b = if vok (joinV plusM a b) then 0 else 3 := by rw [joinE_ok plusM h0, (plus_nested (vok_iff.1 ha) (vok_iff.1 hb)).rng]
    have hR2 : joinR plusM a b = if vok (joinV plusM a b) then joinV plusM a b else zeroV := by
      unfold joinR
      rw [hR1]
      split
      · exact orZero_ok _
      · exact orZero_no _ (by omega)
    rw [hR1, hR2]
    clear h0 hR1 hR2 ha hb
    obtain ⟨J, hJ⟩ : ∃ J, J = joinV plusM a b := ⟨_, rfl⟩
    rw [← hJ]
    have HJ := Lib.hid hJ
    obtain ⟨V, hV⟩ : ∃ V, V = if vok J then J else zeroV := ⟨_, rfl⟩
    obtain ⟨E, hE2⟩ : ∃ E : Int, E = if vok J then 0 else 3 := ⟨_, rfl⟩
    rw [← hV, ← hE2]
    have HF : Hid (∀ W, Calls Tryz.prog 94 #[.agg (va J)] W (RetMd W V E)) := fun W => by rw [hV, hE2]; exact refFormed_any J W
    clear hJ hV hE2
    go_enter Tryz.func44, Tryz.ntmps44
    go_wp2_with (first
      | (refine ldV 2 rfl rfl hA rfl ?_)
      | (refine ldV 3 rfl rfl hB rfl ?_)
      | (go_at_call 95; refine (refRight_any _ _ _).mono ?_; rw [H0.out]; rintro e w1 ⟨rfl, hb1⟩))
    have hz1 : w.heap.size + 1 + 1 + 1 ≤ w1.heap.size := by have := hb1.size; simpa using this
    have hA1 := (hA.below hb1 (by simp; omega)).alloc (.cells #[.int .i64 0, .int .i64 0, .int .i64 0, .int .i64 0, .int .i64 0, .int .i64 0, .int .i64 0, .int .i64 0, .int .i64 0, .int .i64 0, .int .i64 0, .int .i64 0, .int .i64 0, .int .i64 0, .int .i64 0, .int .i64 0, .int .i64 0, .int .i64 0, .int .i64 0, .int .i64 0, .int .i64 0, .int .i64 0, .int .i64 0, .int .i64 0] 26)
    have hB1 := (hB.below hb1 (by simp)).alloc (.cells #[.int .i64 0, .int .i64 0, .int .i64 0, .int .i64 0, .int .i64 0, .int .i64 0, .int .i64 0, .int .i64 0, .int .i64 0, .int .i64 0, .int .i64 0, .int .i64 0, .int .i64 0, .int .i64 0, .int .i64 0, .int .i64 0, .int .i64 0, .int .i64 0, .int .i64 0, .int .i64 0, .int .i64 0, .int .i64 0, .int .i64 0, .int .i64 0] 26)
    have hZ2 := (hZ.below hb1 (by simp)).alloc (.cells #[.int .i64 0, .int .i64 0, .int .i64 0, .int .i64 0, .int .i64 0, .int .i64 0, .int .i64 0, .int .i64 0, .int .i64 0, .int .i64 0, .int .i64 0, .int .i64 0, .int .i64 0, .int .i64 0, .int .i64 0, .int .i64 0, .int .i64 0, .int .i64 0, .int .i64 0, .int .i64 0, .int .i64 0, .int .i64 0, .int .i64 0, .int .i64 0] 26)
    have hC1 : Blk (w1.alloc (.cells #[.int .i64 0, .int .i64 0, .int .i64 0, .int .i64 0, .int .i64 0, .int .i64 0, .int .i64 0, .int .i64 0, .int .i64 0, .int .i64 0, .int .i64 0, .int .i64 0, .int .i64 0, .int .i64 0, .int .i64 0, .int .i64 0, .int .i64 0, .int .i64 0, .int .i64 0, .int .i64 0, .int .i64 0, .int .i64 0, .int .i64 0, .int .i64 0] 26)) w1.heap.size 26 (va (firstV J 0)) := by rw [z24, firstV_zero]; exact Blk.new _ _ _
    have hb3 := (below_next hb0 (by simp; omega) hb1).alloc (by omega) (.cells #[.int .i64 0, .int .i64 0, .int .i64 0, .int .i64 0, .int .i64 0, .int .i64 0, .int .i64 0, .int .i64 0, .int .i64 0, .int .i64 0, .int .i64 0, .int .i64 0, .int .i64 0, .int .i64 0, .int .i64 0, .int .i64 0, .int .i64 0, .int .i64 0, .int .i64 0, .int .i64 0, .int .i64 0, .int .i64 0, .int .i64 0, .int .i64 0] 26)
    clear hb1 hA hB hZ hb0
    go_loopw [7] (fun t7 wr => ∃ k : Nat, k ≤ 12 ∧ t7 = .int .i64 k ∧ Blk wr w.heap.size 26 (va a) ∧ Blk wr (w.heap.size + 1) 26 (va b) ∧ Blk wr (w.heap.size + 1 + 1) 75 (mnA zeroV 0) ∧ Blk wr w1.heap.size 26 (va (firstV J k)) ∧ Below w.heap.size w wr) (fun t7 _ => 12 - (intOf t7).toNat)
    case atStart => exact ⟨0, by omega, rfl, hA1, hB1, hZ2, hC1, hb3⟩
    case round =>
      obtain ⟨k, hk, rfl, hA2, hB2, hZ3, hC2, hb4⟩ := hrel
      clear hA1 hB1 hZ2 hC1 hb3
      have hlt3 := hC2.lt
      by_cases hlt : k < 12
      · obtain ⟨a0, a1⟩ := hA2.spans k hlt
        obtain ⟨b0, b1⟩ := hB2.spans k hlt
        obtain ⟨l1, l2⟩ := okA (2 * k) (by omega)
        obtain ⟨l3, l4⟩ := okA (2 * k + 1) (by omega)
        obtain ⟨l5, l6⟩ := okB (2 * k) (by omega)
        obtain ⟨l7, l8⟩ := okB (2 * k + 1) (by omega)
        have HM := Lib.hid (show a (2 * k) + b (2 * k) = J (2 * k) ∧ a (2 * k + 1) + b (2 * k + 1) = J (2 * k + 1) by rw [HJ.out, joinV_lo, joinV_hi]; exact ⟨rfl, rfl⟩)
        have W0 : IntKind.i64.wrap (a (2 * k) + b (2 * k)) = a (2 * k) + b (2 * k) := IntWalk.i64_in _ (by omega)
        have W1 : IntKind.i64.wrap (a (2 * k + 1) + b (2 * k + 1)) = a (2 * k + 1) + b (2 * k + 1) := IntWalk.i64_in _ (by omega)
        clear okA okB
        go_wp2_with fail
        go_still_tail 26, (by kernel_rfl)
        all_goals
          change wpList _ _ _ _ _ wr.drew
          generalize hw2 : wr.drew = w2
          have hA3 : Blk w2 w.heap.size 26 (va a) := by rw [← hw2]; exact hA2
          have hB3 : Blk w2 (w.heap.size + 1) 26 (va b) := by rw [← hw2]; exact hB2
          have hZ4 : Blk w2 (w.heap.size + 1 + 1) 75 (mnA zeroV 0) := by rw [← hw2]; exact hZ3
          have hC3 : Blk w2 w1.heap.size 26 (va (firstV J k)) := by rw [← hw2]; exact hC2
          have hb5 : Below w.heap.size w w2 := by rw [← hw2]; exact hb4.drew
          clear hw2 hA2 hB2 hZ3 hC2 hb4 hlt3 a0 a1 b0 b1
          have hlt3 := hC3.lt
          have e0 := hC3.va (k * 2) (by omega)
          have e1 := hC3.va (k * 2 + 1) (by omega)
          have g0 := hC3.frozen (k * 2)
          have g1 := hC3.frozen (k * 2 + 1)
          go_wp2
          rw [HM.out.1, HM.out.2]
          go_roundw
          case rel => exact ⟨k + 1, by omega, by go_num, (hA3.far (by show _ ≠ w1.heap.size; omega) _).far (by show _ ≠ w1.heap.size; omega) _, (hB3.far (by show _ ≠ w1.heap.size; omega) _).far (by show _ ≠ w1.heap.size; omega) _, (hZ4.far (by show _ ≠ w1.heap.size; omega) _).far (by show _ ≠ w1.heap.size; omega) _, hC3.joinStep hlt, (hb5.setCell (by show _ ≤ w1.heap.size; omega) _).setCell (by show _ ≤ w1.heap.size; omega) _⟩
          case measure => simp [intOf]; omega
      · obtain rfl : k = 12 := by omega
        have hC3 : Blk wr w1.heap.size 26 (va J) := by rw [← firstV_all]; exact hC2
        clear hC2 okA okB
        go_wp2_with (first
          | (refine ldV 6 rfl rfl hC3 rfl ?_)
          | (go_at_call 94; refine (HF.out _).mono ?_; rintro e w4 ⟨rfl, hb5⟩; have hZ4 := hZ3.below hb5 (by omega))
          | (refine stMd 4 45 rfl rfl hZ4 rfl (v := V) (e := E) rfl ?_))
        exact bodyPost_ret (resMd rfl _ _ (hZ4.setRow _) rfl) rfl ⟨rfl, below_setRow (below_next hb4 (by omega) hb5) (by omega) _⟩

set_option maxRecDepth 100000 in
set_option maxHeartbeats 4000000 in
theorem refHull_any (a b : Nat → Int) (w : World) : Calls Tryz.prog 47 #[.agg (va a), .agg (va b)] w (RetMd w (joinR hullM a b) (joinE hullM a b)) := by
  have hA := ((Blk.new w 26 (va a)).alloc (.cells (va b) 26)).alloc (.cells #[.int .i64 0, .int .i64 0, .int .i64 0, .int .i64 0, .int .i64 0, .int .i64 0, .int .i64 0, .int .i64 0, .int .i64 0, .int .i64 0, .int .i64 0, .int .i64 0, .int .i64 0, .int .i64 0, .int .i64 0, .int .i64 0, .int .i64 0, .int .i64 0, .int .i64 0, .int .i64 0, .int .i64 0, .int .i64 0, .int .i64 0, .int .i64 0, .int .i64 0] 75)
  have hB : Blk (((w.alloc (.cells (va a) 26)).alloc (.cells (va b) 26)).alloc (.cells #[.int .i64 0, .int .i64 0, .int .i64 0, .int .i64 0, .int .i64 0, .int .i64 0, .int .i64 0, .int .i64 0, .int .i64 0, .int .i64 0, .int .i64 0, .int .i64 0, .int .i64 0, .int .i64 0, .int .i64 0, .int .i64 0, .int .i64 0, .int .i64 0, .int .i64 0, .int .i64 0, .int .i64 0, .int .i64 0, .int .i64 0, .int .i64 0, .int .i64 0] 75)) (w.heap.size + 1) 26 (va b) := (Blk.newAt (by simp)).alloc _
  have hZ : Blk (((w.alloc (.cells (va a) 26)).alloc (.cells (va b) 26)).alloc (.cells #[.int .i64 0, .int .i64 0, .int .i64 0, .int .i64 0, .int .i64 0, .int .i64 0, .int .i64 0, .int .i64 0, .int .i64 0, .int .i64 0, .int .i64 0, .int .i64 0, .int .i64 0, .int .i64 0, .int .i64 0, .int .i64 0, .int .i64 0, .int .i64 0, .int .i64 0, .int .i64 0, .int .i64 0, .int .i64 0, .int .i64 0, .int .i64 0, .int .i64 0] 75)) (w.heap.size + 1 + 1) 75 (mnA zeroV 0) := by rw [zmn]; exact Blk.newAt (by simp)
  have hb0 : Below w.heap.size w (((w.alloc (.cells (va a) 26)).alloc (.cells (va b) 26)).alloc (.cells #[.int .i64 0, .int .i64 0, .int .i64 0, .int .i64 0, .int .i64 0, .int .i64 0, .int .i64 0, .int .i64 0, .int .i64 0, .int .i64 0, .int .i64 0, .int .i64 0, .int .i64 0, .int .i64 0, .int .i64 0, .int .i64 0, .int .i64 0, .int .i64 0, .int .i64 0, .int .i64 0, .int .i64 0, .int .i64 0, .int .i64 0, .int .i64 0, .int .i64 0] 75)) := ((below_new _ _).alloc (by simp) _).alloc (by simp; omega) _
  cases h0 : (vok a && vok b)
  · have H0 := Lib.hid h0
    rw [joinE_no hullM h0, show joinR hullM a b = zeroV by unfold joinR; rw [joinE_no hullM h0]; rfl]
    clear h0
    go_enter Tryz.func47, Tryz.ntmps47
    go_wp2_with (first
      | (refine ldV 2 rfl rfl hA rfl ?_)
      | (refine ldV 3 rfl rfl hB rfl ?_)
      | (go_at_call 95; refine (refRight_any _ _ _).mono ?_; rw [H0.out]; rintro e w1 ⟨rfl, hb1⟩; have hZ1 := hZ.below hb1 (by simp))
      | (refine stMd 4 13 rfl rfl hZ1 rfl (v := zeroV) (e := 1) (by kernel_rfl) ?_))
    exact bodyPost_ret (resMd rfl _ _ (hZ1.setRow _) rfl) rfl ⟨rfl, below_setRow (below_next hb0 (by simp; omega) hb1) (by omega) _⟩
  · have H0 := Lib.hid h0
    obtain ⟨ha, hb⟩ : vok a = true ∧ vok b = true := by simpa using h0
    have okA := (vok_iff.1 ha).all
    have okB := (vok_iff.1 hb).all
    rw [(hull_ok ha hb).1, (hull_ok ha hb).2]
    clear h0 ha hb
    obtain ⟨J, hJ⟩ : ∃ J, J = joinV hullM a b := ⟨_, rfl⟩
    rw [← hJ]
    have HJ := Lib.hid hJ
    clear hJ
    go_enter Tryz.func47, Tryz.ntmps47
    go_wp2_with (first
      | (refine ldV 2 rfl rfl hA rfl ?_)
      | (refine ldV 3 rfl rfl hB rfl ?_)
      | (go_at_call 95; refine (refRight_any _ _ _).mono ?_; rw [H0.out]; rintro e w1 ⟨rfl, hb1⟩))
    have hz1 : w.heap.size + 1 + 1 + 1 ≤ w1.heap.size := by have := hb1.size; simpa using this
    have hA1 := (hA.below hb1 (by simp; omega)).alloc (.cells #[.int .i64 0, .int .i64 0, .int .i64 0, .int .i64 0, .int .i64 0, .int .i64 0, .int .i64 0, .int .i64 0, .int .i64 0, .int .i64 0, .int .i64 0, .int .i64 0, .int .i64 0, .int .i64 0, .int .i64 0, .int .i64 0, .int .i64 0, .int .i64 0, .int .i64 0, .int .i64 0, .int .i64 0, .int .i64 0, .int .i64 0, .int .i64 0] 26)
    have hB1 := (hB.below hb1 (by simp)).alloc (.cells #[.int .i64 0, .int .i64 0, .int .i64 0, .int .i64 0, .int .i64 0, .int .i64 0, .int .i64 0, .int .i64 0, .int .i64 0, .int .i64 0, .int .i64 0, .int .i64 0, .int .i64 0, .int .i64 0, .int .i64 0, .int .i64 0, .int .i64 0, .int .i64 0, .int .i64 0, .int .i64 0, .int .i64 0, .int .i64 0, .int .i64 0, .int .i64 0] 26)
    have hZ2 := (hZ.below hb1 (by simp)).alloc (.cells #[.int .i64 0, .int .i64 0, .int .i64 0, .int .i64 0, .int .i64 0, .int .i64 0, .int .i64 0, .int .i64 0, .int .i64 0, .int .i64 0, .int .i64 0, .int .i64 0, .int .i64 0, .int .i64 0, .int .i64 0, .int .i64 0, .int .i64 0, .int .i64 0, .int .i64 0, .int .i64 0, .int .i64 0, .int .i64 0, .int .i64 0, .int .i64 0] 26)
    have hC1 : Blk (w1.alloc (.cells #[.int .i64 0, .int .i64 0, .int .i64 0, .int .i64 0, .int .i64 0, .int .i64 0, .int .i64 0, .int .i64 0, .int .i64 0, .int .i64 0, .int .i64 0, .int .i64 0, .int .i64 0, .int .i64 0, .int .i64 0, .int .i64 0, .int .i64 0, .int .i64 0, .int .i64 0, .int .i64 0, .int .i64 0, .int .i64 0, .int .i64 0, .int .i64 0] 26)) w1.heap.size 26 (va (firstV J 0)) := by rw [z24, firstV_zero]; exact Blk.new _ _ _
    have hb3 := (below_next hb0 (by simp; omega) hb1).alloc (by omega) (.cells #[.int .i64 0, .int .i64 0, .int .i64 0, .int .i64 0, .int .i64 0, .int .i64 0, .int .i64 0, .int .i64 0, .int .i64 0, .int .i64 0, .int .i64 0, .int .i64 0, .int .i64 0, .int .i64 0, .int .i64 0, .int .i64 0, .int .i64 0, .int .i64 0, .int .i64 0, .int .i64 0, .int .i64 0, .int .i64 0, .int .i64 0, .int .i64 0] 26)
    clear hb1 hA hB hZ hb0
    go_loopw [7] (fun t7 wr => ∃ k : Nat, k ≤ 12 ∧ t7 = .int .i64 k ∧ Blk wr w.heap.size 26 (va a) ∧ Blk wr (w.heap.size + 1) 26 (va b) ∧ Blk wr (w.heap.size + 1 + 1) 75 (mnA zeroV 0) ∧ Blk wr w1.heap.size 26 (va (firstV J k)) ∧ Below w.heap.size w wr) (fun t7 _ => 12 - (intOf t7).toNat)
    case atStart => exact ⟨0, by omega, rfl, hA1, hB1, hZ2, hC1, hb3⟩
    case round =>
      obtain ⟨k, hk, rfl, hA2, hB2, hZ3, hC2, hb4⟩ := hrel
      clear hA1 hB1 hZ2 hC1 hb3
      have hlt3 := hC2.lt
      by_cases hlt : k < 12
      · obtain ⟨a0, a1⟩ := hA2.spans k hlt
        obtain ⟨b0, b1⟩ := hB2.spans k hlt
        obtain ⟨l1, l2⟩ := okA (2 * k) (by omega)
        obtain ⟨l3, l4⟩ := okA (2 * k + 1) (by omega)
        obtain ⟨l5, l6⟩ := okB (2 * k) (by omega)
        obtain ⟨l7, l8⟩ := okB (2 * k + 1) (by omega)
        have HM := Lib.hid (show min (a (2 * k)) (b (2 * k)) = J (2 * k) ∧ max (a (2 * k + 1)) (b (2 * k + 1)) = J (2 * k + 1) by rw [HJ.out, joinV_lo, joinV_hi]; exact ⟨rfl, rfl⟩)
        clear okA okB
        go_wp2_with fail
        go_still_tail 26, (by kernel_rfl)
        all_goals
          change wpList _ _ _ _ _ wr.drew
          generalize hw2 : wr.drew = w2
          have hA3 : Blk w2 w.heap.size 26 (va a) := by rw [← hw2]; exact hA2
          have hB3 : Blk w2 (w.heap.size + 1) 26 (va b) := by rw [← hw2]; exact hB2
          have hZ4 : Blk w2 (w.heap.size + 1 + 1) 75 (mnA zeroV 0) := by rw [← hw2]; exact hZ3
          have hC3 : Blk w2 w1.heap.size 26 (va (firstV J k)) := by rw [← hw2]; exact hC2
          have hb5 : Below w.heap.size w w2 := by rw [← hw2]; exact hb4.drew
          clear hw2 hA2 hB2 hZ3 hC2 hb4 hlt3 a0 a1 b0 b1
          have hlt3 := hC3.lt
          have e0 := hC3.va (k * 2) (by omega)
          have e1 := hC3.va (k * 2 + 1) (by omega)
          have g0 := hC3.frozen (k * 2)
          have g1 := hC3.frozen (k * 2 + 1)
          go_wp2
          rw [HM.out.1, HM.out.2]
          go_roundw
          case rel => exact ⟨k + 1, by omega, by go_num, (hA3.far (by show _ ≠ w1.heap.size; omega) _).far (by show _ ≠ w1.heap.size; omega) _, (hB3.far (by show _ ≠ w1.heap.size; omega) _).far (by show _ ≠ w1.heap.size; omega) _, (hZ4.far (by show _ ≠ w1.heap.size; omega) _).far (by show _ ≠ w1.heap.size; omega) _, hC3.joinStep hlt, (hb5.setCell (by show _ ≤ w1.heap.size; omega) _).setCell (by show _ ≤ w1.heap.size; omega) _⟩
          case measure => simp [intOf]; omega
      · obtain rfl : k = 12 := by omega
        have hC3 : Blk wr w1.heap.size 26 (va J) := by rw [← firstV_all]; exact hC2
        clear hC2 okA okB
        go_wp2_with (first
          | (refine ldV 6 rfl rfl hC3 rfl ?_)
          | (refine wpl_build75V rfl (.tmp 44) rfl J rfl ?_)
          | (refine stMd 4 45 rfl rfl hZ3 rfl (v := J) (e := 0) rfl ?_))
        exact bodyPost_ret (resMd rfl _ _ (hZ3.setRow _) rfl) rfl ⟨rfl, below_setRow hb4 (by omega) _⟩

set_option maxRecDepth 100000 in
set_option maxHeartbeats 4000000 in
theorem refLess_any (a b : Nat → Int) (w : World) : Calls Tryz.prog 45 #[.agg (va a), .agg (va b)] w (RetMd w (joinR lessM a b) (joinE lessM a b)) := by
  have hA := ((Blk.new w 26 (va a)).alloc (.cells (va b) 26)).alloc (.cells #[.int .i64 0, .int .i64 0, .int .i64 0, .int .i64 0, .int .i64 0, .int .i64 0, .int .i64 0, .int .i64 0, .int .i64 0, .int .i64 0, .int .i64 0, .int .i64 0, .int .i64 0, .int .i64 0, .int .i64 0, .int .i64 0, .int .i64 0, .int .i64 0, .int .i64 0, .int .i64 0, .int .i64 0, .int .i64 0, .int .i64 0, .int .i64 0, .int .i64 0] 75)
  have hB : Blk (((w.alloc (.cells (va a) 26)).alloc (.cells (va b) 26)).alloc (.cells #[.int .i64 0, .int .i64 0, .int .i64 0, .int .i64 0, .int .i64 0, .int .i64 0, .int .i64 0, .int .i64 0, .int .i64 0, .int .i64 0, .int .i64 0, .int .i64 0, .int .i64 0, .int .i64 0, .int .i64 0, .int .i64 0, .int .i64 0, .int .i64 0, .int .i64 0, .int .i64 0, .int .i64 0, .int .i64 0, .int .i64 0, .int .i64 0, .int .i64 0] 75)) (w.heap.size + 1) 26 (va b) := (Blk.newAt (by simp)).alloc _
  have hZ : Blk (((w.alloc (.cells (va a) 26)).alloc (.cells (va b) 26)).alloc (.cells #[.int .i64 0, .int .i64 0, .int .i64 0, .int .i64 0, .int .i64 0, .int .i64 0, .int .i64 0, .int .i64 0, .int .i64 0, .int .i64 0, .int .i64 0, .int .i64 0, .int .i64 0, .int .i64 0, .int .i64 0, .int .i64 0, .int .i64 0, .int .i64 0, .int .i64 0, .int .i64 0, .int .i64 0, .int .i64 0, .int .i64 0, .int .i64 0, .int .i64 0] 75)) (w.heap.size + 1 + 1) 75 (mnA zeroV 0) := by rw [zmn]; exact Blk.newAt (by simp)
  have hb0 : Below w.heap.size w (((w.alloc (.cells (va a) 26)).alloc (.cells (va b) 26)).alloc (.cells #[.int .i64 0, .int .i64 0, .int .i64 0, .int .i64 0, .int .i64 0, .int .i64 0, .int .i64 0, .int .i64 0, .int .i64 0, .int .i64 0, .int .i64 0, .int .i64 0, .int .i64 0, .int .i64 0, .int .i64 0, .int .i64 0, .int .i64 0, .int .i64 0, .int .i64 0, .int .i64 0, .int .i64 0, .int .i64 0, .int .i64 0, .int .i64 0, .int .i64 0] 75)) := ((below_new _ _).alloc (by simp) _).alloc (by simp; omega) _
  cases h0 : (vok a && vok b)
  · have H0 := Lib.hid h0
    rw [joinE_no lessM h0, show joinR lessM a b = zeroV by unfold joinR; rw [joinE_no lessM h0]; rfl]
    clear h0
    go_enter Tryz.func45, Tryz.ntmps45
    go_wp2_with (first
      | (refine ldV 2 rfl rfl hA rfl ?_)
      | (refine ldV 3 rfl rfl hB rfl ?_)
      | (go_at_call 95; refine (refRight_any _ _ _).mono ?_; rw [H0.out]; rintro e w1 ⟨rfl, hb1⟩; have hZ1 := hZ.below hb1 (by simp))
      | (refine stMd 4 13 rfl rfl hZ1 rfl (v := zeroV) (e := 1) (by kernel_rfl) ?_))
    exact bodyPost_ret (resMd rfl _ _ (hZ1.setRow _) rfl) rfl ⟨rfl, below_setRow (below_next hb0 (by simp; omega) hb1) (by omega) _⟩
  · have H0 := Lib.hid h0
    obtain ⟨ha, hb⟩ : vok a = true ∧ vok b = true := by simpa using h0
    have okA := (vok_iff.1 ha).all
    have okB := (vok_iff.1 hb).all
    have hR1 : joinE lessM a b = if vok (joinV lessM a b) then 0 else 3 := by rw [joinE_ok lessM h0, (less_nested (vok_iff.1 ha) (vok_iff.1 hb)).rng]
    have hR2 : joinR lessM a b = if vok (joinV lessM a b) then joinV lessM a b else zeroV := by
      unfold joinR
      rw [hR1]
      split
      · exact orZero_ok _
      · exact orZero_no _ (by omega)
    rw [hR1, hR2]
    clear h0 hR1 hR2 ha hb
    obtain ⟨J, hJ⟩ : ∃ J, J = joinV lessM a b := ⟨_, rfl⟩
    rw [← hJ]
    have HJ := Lib.hid hJ
    obtain ⟨V, hV⟩ : ∃ V, V = if vok J then J else zeroV := ⟨_, rfl⟩
    obtain ⟨E, hE2⟩ : ∃ E : Int, E = if vok J then 0 else 3 := ⟨_, rfl⟩
    rw [← hV, ← hE2]
    have HF : Hid (∀ W, Calls Tryz.prog 94 #[.agg (va J)] W (RetMd W V E)) := fun W => by rw [hV, hE2]; exact refFormed_any J W
    clear hJ hV hE2
    go_enter Tryz.func45, Tryz.ntmps45
    go_wp2_with (first
      | (refine ldV 2 rfl rfl hA rfl ?_)
      | (refine ldV 3 rfl rfl hB rfl ?_)
      | (go_at_call 95; refine (refRight_any _ _ _).mono ?_; rw [H0.out]; rintro e w1 ⟨rfl, hb1⟩))
    have hz1 : w.heap.size + 1 + 1 + 1 ≤ w1.heap.size := by have := hb1.size; simpa using this
    have hA1 := (hA.below hb1 (by simp; omega)).alloc (.cells #[.int .i64 0, .int .i64 0, .int .i64 0, .int .i64 0, .int .i64 0, .int .i64 0, .int .i64 0, .int .i64 0, .int .i64 0, .int .i64 0, .int .i64 0, .int .i64 0, .int .i64 0, .int .i64 0, .int .i64 0, .int .i64 0, .int .i64 0, .int .i64 0, .int .i64 0, .int .i64 0, .int .i64 0, .int .i64 0, .int .i64 0, .int .i64 0] 26)
    have hB1 := (hB.below hb1 (by simp)).alloc (.cells #[.int .i64 0, .int .i64 0, .int .i64 0, .int .i64 0, .int .i64 0, .int .i64 0, .int .i64 0, .int .i64 0, .int .i64 0, .int .i64 0, .int .i64 0, .int .i64 0, .int .i64 0, .int .i64 0, .int .i64 0, .int .i64 0, .int .i64 0, .int .i64 0, .int .i64 0, .int .i64 0, .int .i64 0, .int .i64 0, .int .i64 0, .int .i64 0] 26)
    have hZ2 := (hZ.below hb1 (by simp)).alloc (.cells #[.int .i64 0, .int .i64 0, .int .i64 0, .int .i64 0, .int .i64 0, .int .i64 0, .int .i64 0, .int .i64 0, .int .i64 0, .int .i64 0, .int .i64 0, .int .i64 0, .int .i64 0, .int .i64 0, .int .i64 0, .int .i64 0, .int .i64 0, .int .i64 0, .int .i64 0, .int .i64 0, .int .i64 0, .int .i64 0, .int .i64 0, .int .i64 0] 26)
    have hC1 : Blk (w1.alloc (.cells #[.int .i64 0, .int .i64 0, .int .i64 0, .int .i64 0, .int .i64 0, .int .i64 0, .int .i64 0, .int .i64 0, .int .i64 0, .int .i64 0, .int .i64 0, .int .i64 0, .int .i64 0, .int .i64 0, .int .i64 0, .int .i64 0, .int .i64 0, .int .i64 0, .int .i64 0, .int .i64 0, .int .i64 0, .int .i64 0, .int .i64 0, .int .i64 0] 26)) w1.heap.size 26 (va (firstV J 0)) := by rw [z24, firstV_zero]; exact Blk.new _ _ _
    have hb3 := (below_next hb0 (by simp; omega) hb1).alloc (by omega) (.cells #[.int .i64 0, .int .i64 0, .int .i64 0, .int .i64 0, .int .i64 0, .int .i64 0, .int .i64 0, .int .i64 0, .int .i64 0, .int .i64 0, .int .i64 0, .int .i64 0, .int .i64 0, .int .i64 0, .int .i64 0, .int .i64 0, .int .i64 0, .int .i64 0, .int .i64 0, .int .i64 0, .int .i64 0, .int .i64 0, .int .i64 0, .int .i64 0] 26)
    clear hb1 hA hB hZ hb0
    go_loopw [7] (fun t7 wr => ∃ k : Nat, k ≤ 12 ∧ t7 = .int .i64 k ∧ Blk wr w.heap.size 26 (va a) ∧ Blk wr (w.heap.size + 1) 26 (va b) ∧ Blk wr (w.heap.size + 1 + 1) 75 (mnA zeroV 0) ∧ Blk wr w1.heap.size 26 (va (firstV J k)) ∧ Below w.heap.size w wr) (fun t7 _ => 12 - (intOf t7).toNat)
    case atStart => exact ⟨0, by omega, rfl, hA1, hB1, hZ2, hC1, hb3⟩
    case round =>
      obtain ⟨k, hk, rfl, hA2, hB2, hZ3, hC2, hb4⟩ := hrel
      clear hA1 hB1 hZ2 hC1 hb3
      have hlt3 := hC2.lt
      by_cases hlt : k < 12
      · obtain ⟨a0, a1⟩ := hA2.spans k hlt
        obtain ⟨b0, b1⟩ := hB2.spans k hlt
        obtain ⟨l1, l2⟩ := okA (2 * k) (by omega)
        obtain ⟨l3, l4⟩ := okA (2 * k + 1) (by omega)
        obtain ⟨l5, l6⟩ := okB (2 * k) (by omega)
        obtain ⟨l7, l8⟩ := okB (2 * k + 1) (by omega)
        have HM := Lib.hid (show a (2 * k) - b (2 * k + 1) = J (2 * k) ∧ a (2 * k + 1) - b (2 * k) = J (2 * k + 1) by rw [HJ.out, joinV_lo, joinV_hi]; exact ⟨rfl, rfl⟩)
        have W0 : IntKind.i64.wrap (a (2 * k) - b (2 * k + 1)) = a (2 * k) - b (2 * k + 1) := IntWalk.i64_in _ (by omega)
        have W1 : IntKind.i64.wrap (a (2 * k + 1) - b (2 * k)) = a (2 * k + 1) - b (2 * k) := IntWalk.i64_in _ (by omega)
        clear okA okB
        go_wp2_with fail
        go_still_tail 26, (by kernel_rfl)
        all_goals
          change wpList _ _ _ _ _ wr.drew
          generalize hw2 : wr.drew = w2
          have hA3 : Blk w2 w.heap.size 26 (va a) := by rw [← hw2]; exact hA2
          have hB3 : Blk w2 (w.heap.size + 1) 26 (va b) := by rw [← hw2]; exact hB2
          have hZ4 : Blk w2 (w.heap.size + 1 + 1) 75 (mnA zeroV 0) := by rw [← hw2]; exact hZ3
          have hC3 : Blk w2 w1.heap.size 26 (va (firstV J k)) := by rw [← hw2]; exact hC2
          have hb5 : Below w.heap.size w w2 := by rw [← hw2]; exact hb4.drew
          clear hw2 hA2 hB2 hZ3 hC2 hb4 hlt3 a0 a1 b0 b1
          have hlt3 := hC3.lt
          have e0 := hC3.va (k * 2) (by omega)
          have e1 := hC3.va (k * 2 + 1) (by omega)
          have g0 := hC3.frozen (k * 2)
          have g1 := hC3.frozen (k * 2 + 1)
          go_wp2
          rw [HM.out.1, HM.out.2]
          go_roundw
          case rel => exact ⟨k + 1, by omega, by go_num, (hA3.far (by show _ ≠ w1.heap.size; omega) _).far (by show _ ≠ w1.heap.size; omega) _, (hB3.far (by show _ ≠ w1.heap.size; omega) _).far (by show _ ≠ w1.heap.size; omega) _, (hZ4.far (by show _ ≠ w1.heap.size; omega) _).far (by show _ ≠ w1.heap.size; omega) _, hC3.joinStep hlt, (hb5.setCell (by show _ ≤ w1.heap.size; omega) _).setCell (by show _ ≤ w1.heap.size; omega) _⟩
          case measure => simp [intOf]; omega
      · obtain rfl : k = 12 := by omega
        have hC3 : Blk wr w1.heap.size 26 (va J) := by rw [← firstV_all]; exact hC2
        clear hC2 okA okB
        go_wp2_with (first
          | (refine ldV 6 rfl rfl hC3 rfl ?_)
          | (go_at_call 94; refine (HF.out _).mono ?_; rintro e w4 ⟨rfl, hb5⟩; have hZ4 := hZ3.below hb5 (by omega))
          | (refine stMd 4 45 rfl rfl hZ4 rfl (v := V) (e := E) rfl ?_))
        exact bodyPost_ret (resMd rfl _ _ (hZ4.setRow _) rfl) rfl ⟨rfl, below_setRow (below_next hb4 (by omega) hb5) (by omega) _⟩
end Go.Proofs.YtbhiphjifdnhmaaGreatDoor
