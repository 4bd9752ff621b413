import Derived.Test.YtbhiphjifdnhmaaGreatDoorA7
/- Plus, Less, Hull, Around, Sharp. -/
namespace Go.Proofs.YtbhiphjifdnhmaaGreatDoor
open Go.RowKit

set_option maxRecDepth 100000 in
set_option maxHeartbeats 800000 in
theorem plus_any (a b : Nat → Int) (w : World) : Calls Tryz.prog 16 #[.agg (va a), .agg (va b)] w (RetV w (joinR plusM a b) (joinE plusM a b)) := by
  have hA := ((Blk.new w 26 (va a)).alloc (.cells (va b) 26)).alloc (.cells #[.int .i64 0, .int .i64 0, .int .i64 0, .int .i64 0, .int .i64 0, .int .i64 0, .int .i64 0, .int .i64 0, .int .i64 0, .int .i64 0, .int .i64 0, .int .i64 0, .int .i64 0, .int .i64 0, .int .i64 0, .int .i64 0, .int .i64 0, .int .i64 0, .int .i64 0, .int .i64 0, .int .i64 0, .int .i64 0, .int .i64 0, .int .i64 0] 26)
  have hB : Blk (((w.alloc (.cells (va a) 26)).alloc (.cells (va b) 26)).alloc (.cells #[.int .i64 0, .int .i64 0, .int .i64 0, .int .i64 0, .int .i64 0, .int .i64 0, .int .i64 0, .int .i64 0, .int .i64 0, .int .i64 0, .int .i64 0, .int .i64 0, .int .i64 0, .int .i64 0, .int .i64 0, .int .i64 0, .int .i64 0, .int .i64 0, .int .i64 0, .int .i64 0, .int .i64 0, .int .i64 0, .int .i64 0, .int .i64 0] 26)) (w.heap.size + 1) 26 (va b) := (Blk.newAt (by simp)).alloc _
  have hZ : Blk (((w.alloc (.cells (va a) 26)).alloc (.cells (va b) 26)).alloc (.cells #[.int .i64 0, .int .i64 0, .int .i64 0, .int .i64 0, .int .i64 0, .int .i64 0, .int .i64 0, .int .i64 0, .int .i64 0, .int .i64 0, .int .i64 0, .int .i64 0, .int .i64 0, .int .i64 0, .int .i64 0, .int .i64 0, .int .i64 0, .int .i64 0, .int .i64 0, .int .i64 0, .int .i64 0, .int .i64 0, .int .i64 0, .int .i64 0] 26)) (w.heap.size + 1 + 1) 26 (va zeroV) := by rw [z24]; exact Blk.newAt (by simp)
  have hb0 : Below w.heap.size w (((w.alloc (.cells (va a) 26)).alloc (.cells (va b) 26)).alloc (.cells #[.int .i64 0, .int .i64 0, .int .i64 0, .int .i64 0, .int .i64 0, .int .i64 0, .int .i64 0, .int .i64 0, .int .i64 0, .int .i64 0, .int .i64 0, .int .i64 0, .int .i64 0, .int .i64 0, .int .i64 0, .int .i64 0, .int .i64 0, .int .i64 0, .int .i64 0, .int .i64 0, .int .i64 0, .int .i64 0, .int .i64 0, .int .i64 0] 26)) := ((below_new _ _).alloc (by simp) _).alloc (by simp; omega) _
  go_enter Tryz.func16, Tryz.ntmps16
  go_wp2_with (first
    | (refine ldV 2 rfl rfl hA rfl ?_)
    | (refine ldV 3 rfl rfl hB rfl ?_)
    | (go_at_call 69; refine (joinPlus_any _ _ _).mono ?_; rintro e w1 ⟨rfl, hb1⟩; have hZ1 := hZ.below hb1 (by simp))
    | (refine stV 4 9 rfl rfl hZ1 rfl rfl ?_))
  exact bodyPost_ret (resV2 rfl _ _ (hZ1.setRow _) rfl rfl) rfl ⟨rfl, below_setRow (below_next hb0 (by simp; omega) hb1) (by omega) _⟩

set_option maxRecDepth 100000 in
set_option maxHeartbeats 800000 in
theorem less_any (a b : Nat → Int) (w : World) : Calls Tryz.prog 17 #[.agg (va a), .agg (va b)] w (RetV w (joinR lessM a b) (joinE lessM a b)) := by
  have hA := ((Blk.new w 26 (va a)).alloc (.cells (va b) 26)).alloc (.cells #[.int .i64 0, .int .i64 0, .int .i64 0, .int .i64 0, .int .i64 0, .int .i64 0, .int .i64 0, .int .i64 0, .int .i64 0, .int .i64 0, .int .i64 0, .int .i64 0, .int .i64 0, .int .i64 0, .int .i64 0, .int .i64 0, .int .i64 0, .int .i64 0, .int .i64 0, .int .i64 0, .int .i64 0, .int .i64 0, .int .i64 0, .int .i64 0] 26)
  have hB : Blk (((w.alloc (.cells (va a) 26)).alloc (.cells (va b) 26)).alloc (.cells #[.int .i64 0, .int .i64 0, .int .i64 0, .int .i64 0, .int .i64 0, .int .i64 0, .int .i64 0, .int .i64 0, .int .i64 0, .int .i64 0, .int .i64 0, .int .i64 0, .int .i64 0, .int .i64 0, .int .i64 0, .int .i64 0, .int .i64 0, .int .i64 0, .int .i64 0, .int .i64 0, .int .i64 0, .int .i64 0, .int .i64 0, .int .i64 0] 26)) (w.heap.size + 1) 26 (va b) := (Blk.newAt (by simp)).alloc _
  have hZ : Blk (((w.alloc (.cells (va a) 26)).alloc (.cells (va b) 26)).alloc (.cells #[.int .i64 0, .int .i64 0, .int .i64 0, .int .i64 0, .int .i64 0, .int .i64 0, .int .i64 0, .int .i64 0, .int .i64 0, .int .i64 0, .int .i64 0, .int .i64 0, .int .i64 0, .int .i64 0, .int .i64 0, .int .i64 0, .int .i64 0, .int .i64 0, .int .i64 0, .int .i64 0, .int .i64 0, .int .i64 0, .int .i64 0, .int .i64 0] 26)) (w.heap.size + 1 + 1) 26 (va zeroV) := by rw [z24]; exact Blk.newAt (by simp)
  have hb0 : Below w.heap.size w (((w.alloc (.cells (va a) 26)).alloc (.cells (va b) 26)).alloc (.cells #[.int .i64 0, .int .i64 0, .int .i64 0, .int .i64 0, .int .i64 0, .int .i64 0, .int .i64 0, .int .i64 0, .int .i64 0, .int .i64 0, .int .i64 0, .int .i64 0, .int .i64 0, .int .i64 0, .int .i64 0, .int .i64 0, .int .i64 0, .int .i64 0, .int .i64 0, .int .i64 0, .int .i64 0, .int .i64 0, .int .i64 0, .int .i64 0] 26)) := ((below_new _ _).alloc (by simp) _).alloc (by simp; omega) _
  go_enter Tryz.func17, Tryz.ntmps17
  go_wp2_with (first
    | (refine ldV 2 rfl rfl hA rfl ?_)
    | (refine ldV 3 rfl rfl hB rfl ?_)
    | (go_at_call 69; refine (joinLess_any _ _ _).mono ?_; rintro e w1 ⟨rfl, hb1⟩; have hZ1 := hZ.below hb1 (by simp))
    | (refine stV 4 9 rfl rfl hZ1 rfl rfl ?_))
  exact bodyPost_ret (resV2 rfl _ _ (hZ1.setRow _) rfl rfl) rfl ⟨rfl, below_setRow (below_next hb0 (by simp; omega) hb1) (by omega) _⟩

set_option maxRecDepth 100000 in
set_option maxHeartbeats 800000 in
theorem hull_any (a b : Nat → Int) (w : World) : Calls Tryz.prog 19 #[.agg (va a), .agg (va b)] w (RetV w (joinR hullM a b) (joinE hullM a b)) := by
  have hA := ((Blk.new w 26 (va a)).alloc (.cells (va b) 26)).alloc (.cells #[.int .i64 0, .int .i64 0, .int .i64 0, .int .i64 0, .int .i64 0, .int .i64 0, .int .i64 0, .int .i64 0, .int .i64 0, .int .i64 0, .int .i64 0, .int .i64 0, .int .i64 0, .int .i64 0, .int .i64 0, .int .i64 0, .int .i64 0, .int .i64 0, .int .i64 0, .int .i64 0, .int .i64 0, .int .i64 0, .int .i64 0, .int .i64 0] 26)
  have hB : Blk (((w.alloc (.cells (va a) 26)).alloc (.cells (va b) 26)).alloc (.cells #[.int .i64 0, .int .i64 0, .int .i64 0, .int .i64 0, .int .i64 0, .int .i64 0, .int .i64 0, .int .i64 0, .int .i64 0, .int .i64 0, .int .i64 0, .int .i64 0, .int .i64 0, .int .i64 0, .int .i64 0, .int .i64 0, .int .i64 0, .int .i64 0, .int .i64 0, .int .i64 0, .int .i64 0, .int .i64 0, .int .i64 0, .int .i64 0] 26)) (w.heap.size + 1) 26 (va b) := (Blk.newAt (by simp)).alloc _
  have hZ : Blk (((w.alloc (.cells (va a) 26)).alloc (.cells (va b) 26)).alloc (.cells #[.int .i64 0, .int .i64 0, .int .i64 0, .int .i64 0, .int .i64 0, .int .i64 0, .int .i64 0, .int .i64 0, .int .i64 0, .int .i64 0, .int .i64 0, .int .i64 0, .int .i64 0, .int .i64 0, .int .i64 0, .int .i64 0, .int .i64 0, .int .i64 0, .int .i64 0, .int .i64 0, .int .i64 0, .int .i64 0, .int .i64 0, .int .i64 0] 26)) (w.heap.size + 1 + 1) 26 (va zeroV) := by rw [z24]; exact Blk.newAt (by simp)
  have hb0 : Below w.heap.size w (((w.alloc (.cells (va a) 26)).alloc (.cells (va b) 26)).alloc (.cells #[.int .i64 0, .int .i64 0, .int .i64 0, .int .i64 0, .int .i64 0, .int .i64 0, .int .i64 0, .int .i64 0, .int .i64 0, .int .i64 0, .int .i64 0, .int .i64 0, .int .i64 0, .int .i64 0, .int .i64 0, .int .i64 0, .int .i64 0, .int .i64 0, .int .i64 0, .int .i64 0, .int .i64 0, .int .i64 0, .int .i64 0, .int .i64 0] 26)) := ((below_new _ _).alloc (by simp) _).alloc (by simp; omega) _
  go_enter Tryz.func19, Tryz.ntmps19
  go_wp2_with (first
    | (refine ldV 2 rfl rfl hA rfl ?_)
    | (refine ldV 3 rfl rfl hB rfl ?_)
    | (go_at_call 69; refine (joinHull_any _ _ _).mono ?_; rintro e w1 ⟨rfl, hb1⟩; have hZ1 := hZ.below hb1 (by simp))
    | (refine stV 4 9 rfl rfl hZ1 rfl rfl ?_))
  exact bodyPost_ret (resV2 rfl _ _ (hZ1.setRow _) rfl rfl) rfl ⟨rfl, below_setRow (below_next hb0 (by simp; omega) hb1) (by omega) _⟩

theorem numB_lim {n : Int} (h : numB n = true) : -3000 ≤ n ∧ n ≤ 3000 := numB_iff.1 h
set_option maxRecDepth 100000 in
set_option maxHeartbeats 1600000 in
theorem around_any (lo hi wider : Int) (w : World) : Calls Tryz.prog 20 #[.agg #[.int .i64 lo, .int .i64 hi], .int .i64 wider] w (RetV w (aroundR lo hi wider) (aroundE lo hi wider)) := by
  have hA := (Blk.new w 23 #[.int .i64 lo, .int .i64 hi]).alloc (.cells #[.int .i64 0, .int .i64 0, .int .i64 0, .int .i64 0, .int .i64 0, .int .i64 0, .int .i64 0, .int .i64 0, .int .i64 0, .int .i64 0, .int .i64 0, .int .i64 0, .int .i64 0, .int .i64 0, .int .i64 0, .int .i64 0, .int .i64 0, .int .i64 0, .int .i64 0, .int .i64 0, .int .i64 0, .int .i64 0, .int .i64 0, .int .i64 0] 26)
  have hZ : Blk ((w.alloc (.cells #[.int .i64 lo, .int .i64 hi] 23)).alloc (.cells #[.int .i64 0, .int .i64 0, .int .i64 0, .int .i64 0, .int .i64 0, .int .i64 0, .int .i64 0, .int .i64 0, .int .i64 0, .int .i64 0, .int .i64 0, .int .i64 0, .int .i64 0, .int .i64 0, .int .i64 0, .int .i64 0, .int .i64 0, .int .i64 0, .int .i64 0, .int .i64 0, .int .i64 0, .int .i64 0, .int .i64 0, .int .i64 0] 26)) (w.heap.size + 1) 26 (va zeroV) := by rw [z24]; exact Blk.newAt (by simp)
  have hb0 : Below w.heap.size w ((w.alloc (.cells #[.int .i64 lo, .int .i64 hi] 23)).alloc (.cells #[.int .i64 0, .int .i64 0, .int .i64 0, .int .i64 0, .int .i64 0, .int .i64 0, .int .i64 0, .int .i64 0, .int .i64 0, .int .i64 0, .int .i64 0, .int .i64 0, .int .i64 0, .int .i64 0, .int .i64 0, .int .i64 0, .int .i64 0, .int .i64 0, .int .i64 0, .int .i64 0, .int .i64 0, .int .i64 0, .int .i64 0, .int .i64 0] 26)) := (below_new _ _).alloc (by simp) _
  have hbad : aroundB lo hi wider = false → aroundE lo hi wider = 1 ∧ aroundR lo hi wider = zeroV := fun h => by simp [aroundR, aroundE, h, orZero]
  cases hS : decide (lo ≤ hi)
  · have HR := Lib.hid (hbad (by simp [aroundB, hS]))
    have H0 := Lib.hid hS
    clear hS hbad
    rw [HR.out.1, HR.out.2]
    go_enter Tryz.func20, Tryz.ntmps20
    go_wp2_with (first
      | (go_at_call 62; refine (isSpan_any _ _ _).mono ?_; rw [H0.out]; rintro e w1 ⟨rfl, hb1⟩; have hZ1 := hZ.below hb1 (by simp); obtain ⟨d0, d1⟩ := (hA.below hb1 (by simp; omega)).two)
      | (refine stV 4 32 rfl rfl hZ1 rfl (congrArg Value.agg z24) ?_))
    exact bodyPost_ret (resV2 rfl _ _ (hZ1.setRow _) rfl rfl) rfl ⟨rfl, below_setRow (below_next hb0 (by simp; omega) hb1) (by omega) _⟩
  · have H0 := Lib.hid hS
    cases hL : numB lo
    · have HR := Lib.hid (hbad (by simp [aroundB, hL]))
      have H1 := Lib.hid hL
      clear hS hL hbad
      rw [HR.out.1, HR.out.2]
      go_enter Tryz.func20, Tryz.ntmps20
      go_wp2_with (first
        | (go_at_call 62; refine (isSpan_any _ _ _).mono ?_; rw [H0.out]; rintro e w1 ⟨rfl, hb1⟩; have hZ1 := hZ.below hb1 (by simp); obtain ⟨d0, d1⟩ := (hA.below hb1 (by simp; omega)).two)
        | (go_at_call 63; refine (isNumber_any _ _).mono ?_; (first | rw [H1.out]); rintro e w2 ⟨rfl, rfl⟩)
        | (refine stV 4 32 rfl rfl hZ1 rfl (congrArg Value.agg z24) ?_))
      exact bodyPost_ret (resV2 rfl _ _ (hZ1.setRow _) rfl rfl) rfl ⟨rfl, below_setRow (below_next hb0 (by simp; omega) hb1) (by omega) _⟩
    · have H1 := Lib.hid hL
      cases hH : numB hi
      · have HR := Lib.hid (hbad (by simp [aroundB, hH]))
        have H2 := Lib.hid hH
        clear hS hL hH hbad
        rw [HR.out.1, HR.out.2]
        go_enter Tryz.func20, Tryz.ntmps20
        go_wp2_with (first
          | (go_at_call 62; refine (isSpan_any _ _ _).mono ?_; rw [H0.out]; rintro e w1 ⟨rfl, hb1⟩; have hZ1 := hZ.below hb1 (by simp); obtain ⟨d0, d1⟩ := (hA.below hb1 (by simp; omega)).two)
          | (go_at_call 63; refine (isNumber_any _ _).mono ?_; (first | rw [H1.out] | rw [H2.out]); rintro e w2 ⟨rfl, rfl⟩)
          | (refine stV 4 32 rfl rfl hZ1 rfl (congrArg Value.agg z24) ?_))
        exact bodyPost_ret (resV2 rfl _ _ (hZ1.setRow _) rfl rfl) rfl ⟨rfl, below_setRow (below_next hb0 (by simp; omega) hb1) (by omega) _⟩
      · have H2 := Lib.hid hH
        by_cases hw0 : wider < 0
        · have HR := Lib.hid (hbad (by simp [aroundB, show ¬ (0 ≤ wider) by omega]))
          clear hS hL hH hbad
          rw [HR.out.1, HR.out.2]
          go_enter Tryz.func20, Tryz.ntmps20
          go_wp2_with (first
            | (go_at_call 62; refine (isSpan_any _ _ _).mono ?_; rw [H0.out]; rintro e w1 ⟨rfl, hb1⟩; have hZ1 := hZ.below hb1 (by simp); obtain ⟨d0, d1⟩ := (hA.below hb1 (by simp; omega)).two)
            | (go_at_call 63; refine (isNumber_any _ _).mono ?_; (first | rw [H1.out] | rw [H2.out]); rintro e w2 ⟨rfl, rfl⟩)
            | (refine stV 4 32 rfl rfl hZ1 rfl (congrArg Value.agg z24) ?_))
          exact bodyPost_ret (resV2 rfl _ _ (hZ1.setRow _) rfl rfl) rfl ⟨rfl, below_setRow (below_next hb0 (by simp; omega) hb1) (by omega) _⟩
        · by_cases hw1 : 3000 < wider
          · have HR := Lib.hid (hbad (by simp [aroundB, show ¬ (wider ≤ 3000) by omega]))
            clear hS hL hH hbad
            rw [HR.out.1, HR.out.2]
            go_enter Tryz.func20, Tryz.ntmps20
            go_wp2_with (first
              | (go_at_call 62; refine (isSpan_any _ _ _).mono ?_; rw [H0.out]; rintro e w1 ⟨rfl, hb1⟩; have hZ1 := hZ.below hb1 (by simp); obtain ⟨d0, d1⟩ := (hA.below hb1 (by simp; omega)).two)
              | (go_at_call 63; refine (isNumber_any _ _).mono ?_; (first | rw [H1.out] | rw [H2.out]); rintro e w2 ⟨rfl, rfl⟩)
              | (refine stV 4 32 rfl rfl hZ1 rfl (congrArg Value.agg z24) ?_))
            exact bodyPost_ret (resV2 rfl _ _ (hZ1.setRow _) rfl rfl) rfl ⟨rfl, below_setRow (below_next hb0 (by simp; omega) hb1) (by omega) _⟩
          · have HR := Lib.hid (show aroundE lo hi wider = rngE (aroundV lo hi wider) by simp [aroundE, aroundB, hS, hL, hH, show 0 ≤ wider by omega, show wider ≤ 3000 by omega])
            have hlo := numB_lim hL
            have hhi := numB_lim hH
            clear hS hL hH hbad
            unfold aroundR
            rw [HR.out]
            go_enter Tryz.func20, Tryz.ntmps20
            go_wp2_with (first
              | (go_at_call 62; refine (isSpan_any _ _ _).mono ?_; rw [H0.out]; rintro e w1 ⟨rfl, hb1⟩; have hZ1 := hZ.below hb1 (by simp); obtain ⟨d0, d1⟩ := (hA.below hb1 (by simp; omega)).two)
              | (go_at_call 63; refine (isNumber_any _ _).mono ?_; (first | rw [H1.out] | rw [H2.out]); rintro e w2 ⟨rfl, rfl⟩))
            have hz1 : w.heap.size + 1 + 1 ≤ w1.heap.size := by have := hb1.size; simpa using this
            have hA1 := (hA.below hb1 (by simp; omega)).alloc (.cells #[.int .i64 0, .int .i64 0, .int .i64 0, .int .i64 0, .int .i64 0, .int .i64 0, .int .i64 0, .int .i64 0, .int .i64 0, .int .i64 0, .int .i64 0, .int .i64 0, .int .i64 0, .int .i64 0, .int .i64 0, .int .i64 0, .int .i64 0, .int .i64 0, .int .i64 0, .int .i64 0, .int .i64 0, .int .i64 0, .int .i64 0, .int .i64 0] 26)
            have hZ2 := hZ1.alloc (.cells #[.int .i64 0, .int .i64 0, .int .i64 0, .int .i64 0, .int .i64 0, .int .i64 0, .int .i64 0, .int .i64 0, .int .i64 0, .int .i64 0, .int .i64 0, .int .i64 0, .int .i64 0, .int .i64 0, .int .i64 0, .int .i64 0, .int .i64 0, .int .i64 0, .int .i64 0, .int .i64 0, .int .i64 0, .int .i64 0, .int .i64 0, .int .i64 0] 26)
            have hC1 : Blk (w1.alloc (.cells #[.int .i64 0, .int .i64 0, .int .i64 0, .int .i64 0, .int .i64 0, .int .i64 0, .int .i64 0, .int .i64 0, .int .i64 0, .int .i64 0, .int .i64 0, .int .i64 0, .int .i64 0, .int .i64 0, .int .i64 0, .int .i64 0, .int .i64 0, .int .i64 0, .int .i64 0, .int .i64 0, .int .i64 0, .int .i64 0, .int .i64 0, .int .i64 0] 26)) w1.heap.size 26 (va (firstV (aroundV lo hi wider) 0)) := by rw [z24, firstV_zero]; exact Blk.new _ _ _
            have hb3 := (below_next hb0 (by simp; omega) hb1).alloc (by omega) (.cells #[.int .i64 0, .int .i64 0, .int .i64 0, .int .i64 0, .int .i64 0, .int .i64 0, .int .i64 0, .int .i64 0, .int .i64 0, .int .i64 0, .int .i64 0, .int .i64 0, .int .i64 0, .int .i64 0, .int .i64 0, .int .i64 0, .int .i64 0, .int .i64 0, .int .i64 0, .int .i64 0, .int .i64 0, .int .i64 0, .int .i64 0, .int .i64 0] 26)
            generalize hJ : aroundV lo hi wider = J at hC1
            have HJ := Lib.hid hJ
            clear hJ hb1 hA hZ hb0 hZ1 d0 d1
            go_loopw [33] (fun t33 wr => ∃ k : Nat, k ≤ 12 ∧ t33 = .int .i64 k ∧ Blk wr w.heap.size 23 #[.int .i64 lo, .int .i64 hi] ∧ Blk wr (w.heap.size + 1) 26 (va zeroV) ∧ Blk wr w1.heap.size 26 (va (firstV J k)) ∧ Below w.heap.size w wr) (fun t33 _ => 12 - (intOf t33).toNat)
            case atStart => exact ⟨0, by omega, rfl, hA1, hZ2, hC1, hb3⟩
            case round =>
              obtain ⟨k, hk, rfl, hA2, hZ3, hC2, hb4⟩ := hrel
              clear hA1 hZ2 hC1 hb3
              have hlt3 := hC2.lt
              by_cases hlt : k < 12
              · obtain ⟨c0, c1⟩ := hA2.two
                have e0 := hC2.va (k * 2) (by omega)
                have e1 := hC2.va (k * 2 + 1) (by omega)
                have g0 := hC2.frozen (k * 2)
                have g1 := hC2.frozen (k * 2 + 1)
                have m0 : -3000 ≤ wider * (11 - (k : Int)) := by
                  rcases Nat.lt_or_ge k 12 with h | h
                  · have : 0 ≤ wider * (11 - (k : Int)) := Int.mul_nonneg (by omega) (by omega)
                    omega
                  · omega
                have m1 : wider * (11 - (k : Int)) ≤ 33000 := by
                  have : wider * (11 - (k : Int)) ≤ 3000 * (11 - (k : Int)) := Int.mul_le_mul_of_nonneg_right (by omega) (by omega)
                  omega
                have hm : IntKind.i64.wrap (wider * (11 - (k : Int))) = wider * (11 - (k : Int)) := IntWalk.i64_in _ (by omega)
                have HM := Lib.hid (show lo - wider * (11 - (k : Int)) = J (2 * k) ∧ hi + wider * (11 - (k : Int)) = J (2 * k + 1) by rw [← HJ.out, aroundV_lo, aroundV_hi]; exact ⟨rfl, rfl⟩)
                go_wp2
                rw [HM.out.1, HM.out.2]
                go_roundw
                case rel => exact ⟨k + 1, by omega, by go_num, (hA2.far (by show _ ≠ w1.heap.size; omega) _).far (by show _ ≠ w1.heap.size; omega) _, (hZ3.far (by show _ ≠ w1.heap.size; omega) _).far (by show _ ≠ w1.heap.size; omega) _, hC2.joinStep hlt, (hb4.setCell (by show _ ≤ w1.heap.size; omega) _).setCell (by show _ ≤ w1.heap.size; omega) _⟩
                case measure => simp [intOf]; omega
              · obtain rfl : k = 12 := by omega
                have hC3 : Blk wr w1.heap.size 26 (va J) := by rw [← firstV_all]; exact hC2
                clear hC2
                go_wp2_with (first
                  | (refine ldV 6 rfl rfl hC3 rfl ?_)
                  | (go_at_call 75; refine (inRange_any _ _).mono ?_; rintro e w4 ⟨rfl, hb5⟩; have hZ4 := hZ3.below hb5 (by omega))
                  | (refine stV 4 55 rfl rfl hZ4 rfl rfl ?_))
                exact bodyPost_ret (resV2 rfl _ _ (hZ4.setRow _) rfl rfl) rfl ⟨by rw [HJ.out]; rfl, below_setRow (below_next hb4 (by omega) hb5) (by omega) _⟩

/-- Sharp -/
def sharpE (n : Int) : Int := aroundE n n 0
def sharpR (n : Int) : Nat → Int := aroundR n n 0
set_option maxRecDepth 100000 in
set_option maxHeartbeats 800000 in
theorem sharp_any (n : Int) (w : World) : Calls Tryz.prog 38 #[.int .i64 n] w (RetV w (sharpR n) (sharpE n)) := by
  have hZ : Blk (w.alloc (.cells #[.int .i64 0, .int .i64 0, .int .i64 0, .int .i64 0, .int .i64 0, .int .i64 0, .int .i64 0, .int .i64 0, .int .i64 0, .int .i64 0, .int .i64 0, .int .i64 0, .int .i64 0, .int .i64 0, .int .i64 0, .int .i64 0, .int .i64 0, .int .i64 0, .int .i64 0, .int .i64 0, .int .i64 0, .int .i64 0, .int .i64 0, .int .i64 0] 26)) w.heap.size 26 (va zeroV) := by rw [z24]; exact Blk.new _ _ _
  go_enter Tryz.func38, Tryz.ntmps38
  go_wp2_with (first
    | (go_at_call 20; refine (around_any _ _ _ _).mono ?_; rintro e w1 ⟨rfl, hb1⟩; have hZ1 := hZ.below hb1 (by simp))
    | (refine stV 2 8 rfl rfl hZ1 rfl rfl ?_))
  exact bodyPost_ret (resV2 rfl _ _ (hZ1.setRow _) rfl rfl) rfl ⟨rfl, below_setRow (below_next (below_new _ _) (by simp) hb1) (by omega) _⟩
end Go.Proofs.YtbhiphjifdnhmaaGreatDoor
