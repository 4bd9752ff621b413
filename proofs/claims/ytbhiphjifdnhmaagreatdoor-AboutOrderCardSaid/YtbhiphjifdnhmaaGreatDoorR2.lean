import Derived.Test.YtbhiphjifdnhmaaGreatDoorK12
import Derived.Test.YtbhiphjifdnhmaaGreatDoorR1
set_option linter.unusedSimpArgs false
set_option linter.unusedVariables false
/- The reference: formed, Around, Sharp; the laws' own days. -/
namespace Go.Proofs.YtbhiphjifdnhmaaGreatDoor
open Go.RowKit

theorem info75 (v : Nat → Int) (e : Int) : (Tryz.prog.info? 75).map (·.size) = some (mnA v e).size := by
  rw [mnA_size]; kernel_rfl
theorem run_build75V (v : Nat → Int) (w : World) : (Instr.build 75 #[(0, .agg (va v))]).run Tryz.prog w = .ok (.agg (mnA v 0)) w := by kernel_rfl
theorem wpl_build75V {ops : Array Oper} {rest : List Oper} {o : Oper} {a : Act} {w : World} {Q : Exit → Act → World → Prop} (hgd : o.guard = none) (x : Operand) (ho : o.op = .build 75 #[(0, x)]) (v : Nat → Int) (hx : a.eval x = .agg (va v))
    (h : wpList Tryz.prog ops Q rest (a.put o.dst (.agg (mnA v 0))) w) : wpList Tryz.prog ops Q (o :: rest) a w :=
  wpList_plain hgd fun _ hK => by
    unfold Oper.wp
    simp [execOp, ho, hx, run_build75V, Result.andThen]
    exact hK _ _ h
/-- a made day stored whole at slot t -/
theorem stMd {ops : Array Oper} {rest : List Oper} {o : Oper} {a : Act} {w : World} {Q : Exit → Act → World → Prop} (t s : Tmp) (hgd : o.guard = none) (ho : o.op = .store 75 (.tmp t) (.tmp s))
    {g : Nat} {T : TypeId} {v u : Nat → Int} {e i : Int} (hB : Blk w g T (mnA u i)) (hx : a.eval (.tmp t) = .pointer (some ⟨g, 0, none⟩)) (hy : a.eval (.tmp s) = .agg (mnA v e)) (h : wpList Tryz.prog ops Q rest (a.put o.dst undef) (w.setRow g (mnA v e))) : wpList Tryz.prog ops Q (o :: rest) a w :=
  wpList_store_row hgd 75 _ _ ho g _ hx hy T _ hB (info75 _ _) (by rw [mnA_size, mnA_size]) (mnA_one _ _) h
/-- a made day is returned -/
def RetMd (w : World) (v : Nat → Int) (er : Int) (e : Ending) (w' : World) : Prop := e = .returned (.agg (mnA v er)) ∧ Below w.heap.size w w'
theorem resMd {fn : Func} {p : Tmp} (h : fn.results = #[.cell p 75]) (tmps : Array Value) (w : World) {g : Nat} {v : Nat → Int} {e : Int} (hB : Blk w g 75 (mnA v e)) (hp : tmps.getD p undef = .pointer (some ⟨g, 0, none⟩)) : (results fn tmps).run Tryz.prog w = .ok (.agg (mnA v e)) w :=
  results_cell_row h _ _ g 75 (mnA v e) (0, 0) _ hp hB Tryz.underlying75 rfl (info75 _ _)
set_option maxRecDepth 100000 in
set_option maxHeartbeats 1000000 in
theorem refFormed_any (a : Nat → Int) (w : World) : Calls Tryz.prog 94 #[.agg (va a)] w (RetMd w (if vok a then a else zeroV) (if vok a then 0 else 3)) := by
  have hA := (Blk.new w 26 (va a)).alloc (.cells #[.int .i64 0, .int .i64 0, .int .i64 0, .int .i64 0, .int .i64 0, .int .i64 0, .int .i64 0, .int .i64 0, .int .i64 0, .int .i64 0, .int .i64 0, .int .i64 0, .int .i64 0, .int .i64 0, .int .i64 0, .int .i64 0, .int .i64 0, .int .i64 0, .int .i64 0, .int .i64 0, .int .i64 0, .int .i64 0, .int .i64 0, .int .i64 0, .int .i64 0] 75)
  have hZ : Blk ((w.alloc (.cells (va a) 26)).alloc (.cells #[.int .i64 0, .int .i64 0, .int .i64 0, .int .i64 0, .int .i64 0, .int .i64 0, .int .i64 0, .int .i64 0, .int .i64 0, .int .i64 0, .int .i64 0, .int .i64 0, .int .i64 0, .int .i64 0, .int .i64 0, .int .i64 0, .int .i64 0, .int .i64 0, .int .i64 0, .int .i64 0, .int .i64 0, .int .i64 0, .int .i64 0, .int .i64 0, .int .i64 0] 75)) (w.heap.size + 1) 75 (mnA zeroV 0) := by rw [zmn]; exact Blk.newAt (by simp)
  have hb0 : Below w.heap.size w ((w.alloc (.cells (va a) 26)).alloc (.cells #[.int .i64 0, .int .i64 0, .int .i64 0, .int .i64 0, .int .i64 0, .int .i64 0, .int .i64 0, .int .i64 0, .int .i64 0, .int .i64 0, .int .i64 0, .int .i64 0, .int .i64 0, .int .i64 0, .int .i64 0, .int .i64 0, .int .i64 0, .int .i64 0, .int .i64 0, .int .i64 0, .int .i64 0, .int .i64 0, .int .i64 0, .int .i64 0, .int .i64 0] 75)) := (below_new _ _).alloc (by simp) _
  cases hv : vok a
  · have HV := Lib.hid (chkV_no hv)
    rw [if_neg (by simp), if_neg (by simp)]
    clear hv
    go_enter Tryz.func94, Tryz.ntmps94
    go_wp2_with (first
      | (refine ldV 1 rfl rfl hA rfl ?_)
      | (go_at_call 43; refine (refCheck_any _ _).mono ?_; rw [HV.out]; rintro e w1 ⟨rfl, hb1⟩; have hZ1 := hZ.below hb1 (by simp))
      | (refine stMd 2 6 rfl rfl hZ1 rfl (v := zeroV) (e := 3) (by kernel_rfl) ?_))
    exact bodyPost_ret (resMd rfl _ _ (hZ1.setRow _) rfl) rfl ⟨rfl, below_setRow (below_next hb0 (by simp; omega) hb1) (by omega) _⟩
  · have HV := Lib.hid (chkV_ok hv)
    rw [if_pos rfl, if_pos rfl]
    clear hv
    go_enter Tryz.func94, Tryz.ntmps94
    go_wp2_with (first
      | (refine ldV 1 rfl rfl hA rfl ?_)
      | (go_at_call 43; refine (refCheck_any _ _).mono ?_; rw [HV.out]; rintro e w1 ⟨rfl, hb1⟩; have hA1 := hA.below hb1 (by simp; omega); have hZ1 := hZ.below hb1 (by simp))
      | (refine ldV 1 rfl rfl hA1 rfl ?_)
      | (refine wpl_build75V rfl (.tmp 7) rfl a rfl ?_)
      | (refine stMd 2 8 rfl rfl hZ1 rfl (v := a) (e := 0) rfl ?_))
    exact bodyPost_ret (resMd rfl _ _ (hZ1.setRow _) rfl) rfl ⟨rfl, below_setRow (below_next hb0 (by simp; omega) hb1) (by omega) _⟩
set_option maxRecDepth 100000 in
set_option maxHeartbeats 2000000 in
theorem refAround_any (lo hi wider : Int) (w : World) : Calls Tryz.prog 40 #[.agg #[.int .i64 lo, .int .i64 hi], .int .i64 wider] w (RetMd w (aroundR lo hi wider) (aroundE lo hi wider)) := by
  have hA := (Blk.new w 23 #[.int .i64 lo, .int .i64 hi]).alloc (.cells #[.int .i64 0, .int .i64 0, .int .i64 0, .int .i64 0, .int .i64 0, .int .i64 0, .int .i64 0, .int .i64 0, .int .i64 0, .int .i64 0, .int .i64 0, .int .i64 0, .int .i64 0, .int .i64 0, .int .i64 0, .int .i64 0, .int .i64 0, .int .i64 0, .int .i64 0, .int .i64 0, .int .i64 0, .int .i64 0, .int .i64 0, .int .i64 0, .int .i64 0] 75)
  have hZ : Blk ((w.alloc (.cells #[.int .i64 lo, .int .i64 hi] 23)).alloc (.cells #[.int .i64 0, .int .i64 0, .int .i64 0, .int .i64 0, .int .i64 0, .int .i64 0, .int .i64 0, .int .i64 0, .int .i64 0, .int .i64 0, .int .i64 0, .int .i64 0, .int .i64 0, .int .i64 0, .int .i64 0, .int .i64 0, .int .i64 0, .int .i64 0, .int .i64 0, .int .i64 0, .int .i64 0, .int .i64 0, .int .i64 0, .int .i64 0, .int .i64 0] 75)) (w.heap.size + 1) 75 (mnA zeroV 0) := by rw [zmn]; exact Blk.newAt (by simp)
  have hb0 : Below w.heap.size w ((w.alloc (.cells #[.int .i64 lo, .int .i64 hi] 23)).alloc (.cells #[.int .i64 0, .int .i64 0, .int .i64 0, .int .i64 0, .int .i64 0, .int .i64 0, .int .i64 0, .int .i64 0, .int .i64 0, .int .i64 0, .int .i64 0, .int .i64 0, .int .i64 0, .int .i64 0, .int .i64 0, .int .i64 0, .int .i64 0, .int .i64 0, .int .i64 0, .int .i64 0, .int .i64 0, .int .i64 0, .int .i64 0, .int .i64 0, .int .i64 0] 75)) := (below_new _ _).alloc (by simp) _
  obtain ⟨a0, a1⟩ := hA.two
  have hbad : aroundB lo hi wider = false → aroundE lo hi wider = 1 ∧ aroundR lo hi wider = zeroV := fun h => by simp [aroundR, aroundE, h, orZero]
  have hB : aroundB lo hi wider = (spanB lo hi && (decide (0 ≤ wider) && decide (wider ≤ 3000))) := by simp [aroundB, spanB, Bool.and_comm]
  cases hS : (spanB lo hi && (decide (0 ≤ wider) && decide (wider ≤ 3000)))
  · have HR := Lib.hid (hbad (by rw [hB, hS]))
    rw [HR.out.1, HR.out.2]
    clear hB hbad
    cases h1 : spanB lo hi
    · have H1 := Lib.hid h1
      clear hS h1
      go_enter Tryz.func40, Tryz.ntmps40
      go_wp2_with (first
        | (go_at_call 92; refine (refSpan_any _ _ _).mono ?_; rw [H1.out]; rintro e w1 ⟨rfl, hb1⟩; have hZ1 := hZ.below hb1 (by simp))
        | (go_at_call 93; refine (refWithin_any _ _ _ _).mono ?_; rintro e w2 ⟨rfl, rfl⟩)
        | (refine stMd 4 19 rfl rfl hZ1 rfl (v := zeroV) (e := 1) (by kernel_rfl) ?_))
      all_goals exact bodyPost_ret (resMd rfl _ _ (hZ1.setRow _) rfl) rfl ⟨rfl, below_setRow (below_next hb0 (by simp; omega) hb1) (by omega) _⟩
    · have H1 := Lib.hid h1
      have H2 := Lib.hid (show (decide (0 ≤ wider) && decide (wider ≤ 3000)) = false by rw [h1] at hS; simpa using hS)
      clear hS h1
      go_enter Tryz.func40, Tryz.ntmps40
      go_wp2_with (first
        | (go_at_call 92; refine (refSpan_any _ _ _).mono ?_; rw [H1.out]; rintro e w1 ⟨rfl, hb1⟩; have hZ1 := hZ.below hb1 (by simp))
        | (go_at_call 93; refine (refWithin_any _ _ _ _).mono ?_; rw [H2.out]; rintro e w2 ⟨rfl, rfl⟩)
        | (refine stMd 4 19 rfl rfl hZ1 rfl (v := zeroV) (e := 1) (by kernel_rfl) ?_))
      exact bodyPost_ret (resMd rfl _ _ (hZ1.setRow _) rfl) rfl ⟨rfl, below_setRow (below_next hb0 (by simp; omega) hb1) (by omega) _⟩
  · have h1 : spanB lo hi = true := by simp at hS; exact hS.1
    have hw0 : 0 ≤ wider := by simp at hS; exact hS.2.1
    have hw1 : wider ≤ 3000 := by simp at hS; exact hS.2.2
    have hlh : lo ≤ hi := by simp [spanB] at h1; exact h1.2
    have hE : aroundE lo hi wider = rngE (aroundV lo hi wider) := by simp [aroundE, hB, hS]
    have hlo := numB_lim (show numB lo = true by simp [spanB] at h1; exact h1.1.1)
    have hhi := numB_lim (show numB hi = true by simp [spanB] at h1; exact h1.1.2)
    have H1 := Lib.hid h1
    have H2 := Lib.hid (show (decide (0 ≤ wider) && decide (wider ≤ 3000)) = true by simp [hw0, hw1])
    have hR1 : aroundE lo hi wider = if vok (aroundV lo hi wider) then 0 else 3 := by rw [hE, (around_nested hlh hw0).rng]
    have hR2 : aroundR lo hi wider = if vok (aroundV lo hi wider) then aroundV lo hi wider else zeroV := by
      unfold aroundR
      rw [hR1]
      split
      · exact orZero_ok _
      · exact orZero_no _ (by omega)
    rw [hR1, hR2]
    clear hS h1 hE hR1 hR2 hB hbad
    obtain ⟨J, hJ⟩ : ∃ J, J = aroundV lo hi wider := ⟨_, rfl⟩
    rw [← hJ]
    have HJ := Lib.hid hJ
    obtain ⟨V, hV⟩ : ∃ V, V = if vok J then J else zeroV := ⟨_, rfl⟩
    obtain ⟨E, hE2⟩ : ∃ E : Int, E = if vok J then 0 else 3 := ⟨_, rfl⟩
    rw [← hV, ← hE2]
    have HF : Hid (∀ W, Calls Tryz.prog 94 #[.agg (va J)] W (RetMd W V E)) := fun W => by rw [hV, hE2]; exact refFormed_any J W
    clear hJ hV hE2
    go_enter Tryz.func40, Tryz.ntmps40
    go_wp2_with (first
      | (go_at_call 92; refine (refSpan_any _ _ _).mono ?_; rw [H1.out]; rintro e w1 ⟨rfl, hb1⟩)
      | (go_at_call 93; refine (refWithin_any _ _ _ _).mono ?_; rw [H2.out]; rintro e w2 ⟨rfl, rfl⟩))
    have hz1 : w.heap.size + 1 + 1 ≤ w1.heap.size := by have := hb1.size; simpa using this
    have hA1 := (hA.below hb1 (by simp; omega)).alloc (.cells #[.int .i64 0, .int .i64 0, .int .i64 0, .int .i64 0, .int .i64 0, .int .i64 0, .int .i64 0, .int .i64 0, .int .i64 0, .int .i64 0, .int .i64 0, .int .i64 0, .int .i64 0, .int .i64 0, .int .i64 0, .int .i64 0, .int .i64 0, .int .i64 0, .int .i64 0, .int .i64 0, .int .i64 0, .int .i64 0, .int .i64 0, .int .i64 0] 26)
    have hZ2 := (hZ.below hb1 (by simp)).alloc (.cells #[.int .i64 0, .int .i64 0, .int .i64 0, .int .i64 0, .int .i64 0, .int .i64 0, .int .i64 0, .int .i64 0, .int .i64 0, .int .i64 0, .int .i64 0, .int .i64 0, .int .i64 0, .int .i64 0, .int .i64 0, .int .i64 0, .int .i64 0, .int .i64 0, .int .i64 0, .int .i64 0, .int .i64 0, .int .i64 0, .int .i64 0, .int .i64 0] 26)
    have hC1 : Blk (w1.alloc (.cells #[.int .i64 0, .int .i64 0, .int .i64 0, .int .i64 0, .int .i64 0, .int .i64 0, .int .i64 0, .int .i64 0, .int .i64 0, .int .i64 0, .int .i64 0, .int .i64 0, .int .i64 0, .int .i64 0, .int .i64 0, .int .i64 0, .int .i64 0, .int .i64 0, .int .i64 0, .int .i64 0, .int .i64 0, .int .i64 0, .int .i64 0, .int .i64 0] 26)) w1.heap.size 26 (va (firstV J 0)) := by rw [z24, firstV_zero]; exact Blk.new _ _ _
    have hb3 := (below_next hb0 (by simp; omega) hb1).alloc (by omega) (.cells #[.int .i64 0, .int .i64 0, .int .i64 0, .int .i64 0, .int .i64 0, .int .i64 0, .int .i64 0, .int .i64 0, .int .i64 0, .int .i64 0, .int .i64 0, .int .i64 0, .int .i64 0, .int .i64 0, .int .i64 0, .int .i64 0, .int .i64 0, .int .i64 0, .int .i64 0, .int .i64 0, .int .i64 0, .int .i64 0, .int .i64 0, .int .i64 0] 26)
    clear hb1 hA hZ hb0 a0 a1
    go_loopw [8] (fun t8 wr => ∃ k : Nat, k ≤ 12 ∧ t8 = .int .i64 ((k : Int) + 1) ∧ Blk wr w.heap.size 23 #[.int .i64 lo, .int .i64 hi] ∧ Blk wr (w.heap.size + 1) 75 (mnA zeroV 0) ∧ Blk wr w1.heap.size 26 (va (firstV J k)) ∧ Below w.heap.size w wr) (fun t8 _ => 13 - (intOf t8).toNat)
    case atStart => exact ⟨0, by omega, rfl, hA1, hZ2, hC1, hb3⟩
    case round =>
      obtain ⟨k, hk, rfl, hA2, hZ3, hC2, hb4⟩ := hrel
      clear hA1 hZ2 hC1 hb3
      have hlt3 := hC2.lt
      have hk20 : IntKind.i64.wrap ((k : Int) + 1 + 1) = (k : Int) + 1 + 1 := IntWalk.i64_in _ (by omega)
      by_cases hlt : k < 12
      · obtain ⟨c0, c1⟩ := hA2.two
        have e0 := hC2.va (k * 2) (by omega)
        have e1 := hC2.va (k * 2 + 1) (by omega)
        have g0 := hC2.frozen (k * 2)
        have g1 := hC2.frozen (k * 2 + 1)
        have q1 : (k : Int) + 1 ≤ 12 := by omega
        have m0 : 0 ≤ wider * (12 - ((k : Int) + 1)) := Int.mul_nonneg (by omega) (by omega)
        have m1 : wider * (12 - ((k : Int) + 1)) ≤ 36000 := by
          have : wider * (12 - ((k : Int) + 1)) ≤ 3000 * (12 - ((k : Int) + 1)) := Int.mul_le_mul_of_nonneg_right (by omega) (by omega)
          omega
        have hm : IntKind.i64.wrap (wider * (12 - ((k : Int) + 1))) = wider * (12 - ((k : Int) + 1)) := IntWalk.i64_in _ (by omega)
        have HM := Lib.hid (show lo - wider * (12 - ((k : Int) + 1)) = J (2 * k) ∧ hi + wider * (12 - ((k : Int) + 1)) = J (2 * k + 1) by rw [HJ.out, aroundV_lo, aroundV_hi, show (12 : Int) - ((k : Int) + 1) = 11 - (k : Int) by omega]; exact ⟨rfl, rfl⟩)
        go_wp2
        rw [HM.out.1, HM.out.2]
        go_roundw
        case rel => exact ⟨k + 1, by omega, by go_num, (hA2.far (by show _ ≠ w1.heap.size; omega) _).far (by show _ ≠ w1.heap.size; omega) _, (hZ3.far (by show _ ≠ w1.heap.size; omega) _).far (by show _ ≠ w1.heap.size; omega) _, hC2.joinStep hlt, (hb4.setCell (by show _ ≤ w1.heap.size; omega) _).setCell (by show _ ≤ w1.heap.size; omega) _⟩
        case measure => simp [intOf]; omega
      · obtain rfl : k = 12 := by omega
        have hC3 : Blk wr w1.heap.size 26 (va J) := by rw [← firstV_all]; exact hC2
        clear hC2
        go_wp2_with (first
          | (refine ldV 7 rfl rfl hC3 rfl ?_)
          | (go_at_call 94; refine (HF.out _).mono ?_; rintro e w4 ⟨rfl, hb5⟩; have hZ4 := hZ3.below hb5 (by omega))
          | (refine stMd 4 44 rfl rfl hZ4 rfl (v := V) (e := E) rfl ?_))
        exact bodyPost_ret (resMd rfl _ _ (hZ4.setRow _) rfl) rfl ⟨rfl, below_setRow (below_next hb4 (by omega) hb5) (by omega) _⟩
end Go.Proofs.YtbhiphjifdnhmaaGreatDoor
