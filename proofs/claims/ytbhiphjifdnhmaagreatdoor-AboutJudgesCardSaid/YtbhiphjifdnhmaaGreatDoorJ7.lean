import Derived.Test.YtbhiphjifdnhmaaGreatDoorJ6
set_option linter.unusedSimpArgs false
set_option linter.unusedVariables false
/- The law's sorts and judged. -/
namespace Go.Proofs.YtbhiphjifdnhmaaGreatDoor
open Go.RowKit

/-- the law's sorts -/
theorem resSo {fn : Func} {p : Tmp} (h : fn.results = #[.cell p 86]) (tmps : Array Value) (w : World) {g : Nat} {T : TypeId} {x y z u : Value} (hB : Blk w g T #[x, y, z, u])
    (hp : tmps.getD p undef = .pointer (some ⟨g, 0, none⟩)) : (results fn tmps).run Tryz.prog w = .ok (.agg #[x, y, z, u]) w :=
  results_cell_row h tmps w g T _ (0, 0) _ hp hB Tryz.underlying86 rfl (by kernel_rfl)
theorem bldSo0 (w : World) : (Instr.build 86 #[]).run Tryz.prog w = .ok (.agg #[.int .i64 0, .int .i64 0, .int .i64 0, .int .i64 0]) w := by kernel_rfl
theorem bldSo1 (x : Int) (w : World) : (Instr.build 86 #[(0, .int .i64 1), (1, .int .i64 x)]).run Tryz.prog w = .ok (.agg #[.int .i64 1, .int .i64 x, .int .i64 0, .int .i64 0]) w := by kernel_rfl
theorem bldSo2 (x y : Int) (w : World) : (Instr.build 86 #[(0, .int .i64 2), (2, .agg #[.int .i64 x, .int .i64 y])]).run Tryz.prog w = .ok (.agg #[.int .i64 2, .int .i64 0, .int .i64 x, .int .i64 y]) w := by kernel_rfl
set_option maxRecDepth 100000 in
theorem sortBefore_any (w : World) : Calls Tryz.prog 50 #[] w fun e w' => e = .returned (.agg #[.int .i64 0, .int .i64 0, .int .i64 0, .int .i64 0]) ∧ Below w.heap.size w w' := by
  have hbd := bldSo0
  go_enter Tryz.func50, Tryz.ntmps50
  go_wp2
  exact bodyPost_ret (resSo rfl _ _ (Blk.new _ _ _) rfl) rfl ⟨rfl, below_new _ _⟩
set_option maxRecDepth 100000 in
theorem sortNear_any (m : Int) (w : World) : Calls Tryz.prog 51 #[.int .i64 m] w fun e w' => e = .returned (.agg #[.int .i64 1, .int .i64 m, .int .i64 0, .int .i64 0]) ∧ Below w.heap.size w w' := by
  have hbd := bldSo1
  go_enter Tryz.func51, Tryz.ntmps51
  go_wp2
  exact bodyPost_ret (resSo rfl _ _ (Blk.new _ _ _) rfl) rfl ⟨rfl, below_new _ _⟩
set_option maxRecDepth 100000 in
theorem sortIn_any (x y : Int) (w : World) : Calls Tryz.prog 52 #[.agg #[.int .i64 x, .int .i64 y]] w fun e w' => e = .returned (.agg #[.int .i64 2, .int .i64 0, .int .i64 x, .int .i64 y]) ∧ Below w.heap.size w w' := by
  have hbd := bldSo2
  have kP : Blk ((w.alloc (.cells #[.int .i64 x, .int .i64 y] 23)).alloc (.cells #[.int .i64 2, .int .i64 0, .int .i64 x, .int .i64 y] 86)) (w.heap.size + 1) 86 #[.int .i64 2, .int .i64 0, .int .i64 x, .int .i64 y] := Blk.newAt (by simp)
  have hb0 : Below w.heap.size w ((w.alloc (.cells #[.int .i64 x, .int .i64 y] 23)).alloc (.cells #[.int .i64 2, .int .i64 0, .int .i64 x, .int .i64 y] 86)) := (below_new _ _).alloc (by simp) _
  go_enter Tryz.func52, Tryz.ntmps52
  go_wp2
  exact bodyPost_ret (resSo rfl _ _ kP rfl) rfl ⟨rfl, hb0⟩
theorem build48 (w : World) : (Instr.build 48 #[]).run Tryz.prog w = .ok (.agg (vcs vd0)) w := by kernel_rfl
theorem guard48 (op : BinOp) (x y : Operand) (xs ys : Array Value) (w : World) : (eqGuard op 48 x y (.agg xs) (.agg ys)).run Tryz.prog w = .ok () w := by
  unfold eqGuard
  cases op <;> simp [go_sem, Tryz.underlying48]
theorem eq48 (w : World) : (binOp .eql 48 (.agg (vcs vd0)) (.agg (vcs vd0))).run Tryz.prog w = .ok (.bool true) w := by kernel_rfl
/-- a verdict that is zero, compared with the zero verdict, under a guard -/
theorem wpl_zero48 {ops : Array Oper} {rest : List Oper} {o : Oper} {a : Act} {w : World} {Q : Exit → Act → World → Prop} (hgd : Region.wanted o (yielded ops a.tmps) = true) (x y : Operand) (t : TypeId) (ho : o.op = .binOp .eql 48 x y t) (hx : a.eval x = .agg (vcs vd0)) (hy : a.eval y = .agg (vcs vd0))
    (h : wpList Tryz.prog ops Q rest (a.put o.dst (.bool true)) w) : wpList Tryz.prog ops Q (o :: rest) a w :=
  wpList_step fun _ hK => by
    rw [if_pos hgd]
    unfold Oper.wp execOp
    simp only [ho, hx, hy, Sem.run_bind, guard48, eq48, Result.andThen_ok, Sem.run_pure]
    exact hK _ _ h
set_option maxRecDepth 100000 in
set_option maxHeartbeats 4000000 in
/-- a verdict, or its error, is judged right -/
theorem judged_any (k m lo hi : Int) (hk : k = 0 ∨ k = 1 ∨ k = 2) (a b : Nat → Int) (v : Vd) (er : Int) (h1 : refE k m lo hi a b = 0 → er = 0 ∧ refCheck k m lo hi a b v = 0) (h2 : refE k m lo hi a b ≠ 0 → er = refE k m lo hi a b ∧ v = vd0) (w : World) :
    Calls Tryz.prog 49 #[.agg #[.int .i64 k, .int .i64 m, .int .i64 lo, .int .i64 hi], .agg (va a), .agg (va b), .agg (vcs v), .int .i64 er] w fun e w' => e = .returned (.bool true) ∧ Below w.heap.size w w' := by
  obtain ⟨kS, kA, kB, hb0⟩ := four_blocks k m lo hi a b (.cells (vcs v) 48) w
  have kV : Blk ((((w.alloc (.cells #[.int .i64 k, .int .i64 m, .int .i64 lo, .int .i64 hi] 86)).alloc (.cells (va a) 26)).alloc (.cells (va b) 26)).alloc (.cells (vcs v) 48)) (w.heap.size + 1 + 1 + 1) 48 (vcs v) := Blk.newAt (by simp)
  have hV : Hid (∀ W, Calls Tryz.prog 96 #[.agg #[.int .i64 k, .int .i64 m, .int .i64 lo, .int .i64 hi], .agg (va a), .agg (va b)] W fun e w' => e = .returned (.agg #[.int .i64 (rvC k m lo hi a b), .int .i64 (rvM k m lo hi a b), .int .i64 (refE k m lo hi a b)]) ∧ Below W.heap.size W w') := fun W => refVerdict_any k m lo hi hk a b W
  have hC : Hid (∀ W, Calls Tryz.prog 53 #[.agg #[.int .i64 k, .int .i64 m, .int .i64 lo, .int .i64 hi], .agg (va a), .agg (va b), .agg (vcs v)] W fun e w' => e = .returned (.int .i64 (refCheck k m lo hi a b v)) ∧ Below W.heap.size W w') := fun W => refCheckV_any k m lo hi hk a b v W
  generalize refE k m lo hi a b = E at h1 h2 hV
  generalize rvC k m lo hi a b = C at hV
  generalize rvM k m lo hi a b = M at hV
  generalize refCheck k m lo hi a b v = R at h1 hC
  clear hk
  by_cases h0 : E = 0
  · subst h0
    obtain ⟨rfl, rfl⟩ := h1 rfl
    clear h1 h2
    go_enter Tryz.func49, Tryz.ntmps49
    go_wp2_with (first
      | go_skip
      | (refine ldSo 5 (by rfl) rfl kS rfl ?_)
      | (refine ldV 6 rfl rfl kA rfl ?_)
      | (refine ldV 7 rfl rfl kB rfl ?_)
      | (refine ldVG 6 (by rfl) rfl kA rfl ?_)
      | (refine ldVG 7 (by rfl) rfl kB rfl ?_)
      | (refine ldVj 8 (by rfl) rfl kV rfl ?_)
      | (go_at_call 96; refine (hV.out _).mono ?_; rintro e w1 ⟨rfl, h1⟩; replace hb0 := (below_next hb0 hb0.size h1).alloc (below_next hb0 hb0.size h1).size (.cells #[.int .i64 C, .int .i64 M, .int .i64 0] 140); replace kS := (kS.below h1 kS.lt).alloc (.cells #[.int .i64 C, .int .i64 M, .int .i64 0] 140); replace kA := (kA.below h1 kA.lt).alloc (.cells #[.int .i64 C, .int .i64 M, .int .i64 0] 140); replace kB := (kB.below h1 kB.lt).alloc (.cells #[.int .i64 C, .int .i64 M, .int .i64 0] 140); replace kV := (kV.below h1 kV.lt).alloc (.cells #[.int .i64 C, .int .i64 M, .int .i64 0] 140); have kD := Blk.new w1 140 #[.int .i64 C, .int .i64 M, .int .i64 0]; obtain ⟨z0, z1, z2⟩ := kD.three; clear h1)
      | (go_at_call 53; refine (hC.out _).mono ?_; rintro e w2 ⟨rfl, h2⟩; replace hb0 := below_next hb0 hb0.size h2))
    go_ret
    exact ⟨rfl, hb0⟩
  · obtain ⟨rfl, rfl⟩ := h2 h0
    clear h1 h2 hC
    have g0 : (er != 0) = true := by simp [h0]
    have hbd := build48
    have heq := eq48
    clear h0
    go_enter Tryz.func49, Tryz.ntmps49
    go_wp2_with (first
      | go_skip
      | (refine ldSo 5 (by rfl) rfl kS rfl ?_)
      | (refine ldV 6 rfl rfl kA rfl ?_)
      | (refine ldV 7 rfl rfl kB rfl ?_)
      | (refine ldVj 8 (by rfl) rfl kV rfl ?_)
      | (refine wpl_zero48 (by rfl) (.tmp 24) (.tmp 25) _ rfl rfl rfl ?_)
      | (go_at_call 96; refine (hV.out _).mono ?_; rintro e w1 ⟨rfl, h1⟩; replace hb0 := (below_next hb0 hb0.size h1).alloc (below_next hb0 hb0.size h1).size (.cells #[.int .i64 C, .int .i64 M, .int .i64 er] 140); replace kV := (kV.below h1 kV.lt).alloc (.cells #[.int .i64 C, .int .i64 M, .int .i64 er] 140); have kD := Blk.new w1 140 #[.int .i64 C, .int .i64 M, .int .i64 er]; obtain ⟨z0, z1, z2⟩ := kD.three; clear h1))
    go_ret
    exact ⟨rfl, hb0⟩
end Go.Proofs.YtbhiphjifdnhmaaGreatDoor
