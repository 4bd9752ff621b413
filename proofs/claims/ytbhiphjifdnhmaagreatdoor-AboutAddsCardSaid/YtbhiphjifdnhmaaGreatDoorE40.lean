import Derived.Test.YtbhiphjifdnhmaaGreatDoorE1
import Derived.Deep.QuietTactic
import Derived.BigQuiet
set_option linter.unusedSimpArgs false
set_option linter.unusedVariables false
/- AboutAdds. -/
namespace Go.Proofs.YtbhiphjifdnhmaaGreatDoor
open Go.RowKit Go.Maps
set_option linter.unusedSimpArgs false

theorem allB_drewN {w : World} {L : List (Nat × TypeId × Array Value)} (h : AllB w L) (n : Nat) : AllB (w.drewN n) L := h
/-- two days that are the same, compared under a guard -/
theorem wpl_same26G {ops : Array Oper} {rest : List Oper} {o : Oper} {a : Act} {w : World} {Q : Exit → Act → World → Prop} (hgd : Region.wanted o (yielded ops a.tmps) = true) (x y : Operand) (t : TypeId) (ho : o.op = .binOp .eql 26 x y t) (v : Nat → Int) (hx : a.eval x = .agg (va v)) (hy : a.eval y = .agg (va v))
    (h : wpList Tryz.prog ops Q rest (a.put o.dst (.bool true)) w) : wpList Tryz.prog ops Q (o :: rest) a w :=
  wpList_step fun _ hK => by
    rw [if_pos hgd]
    unfold Oper.wp execOp
    simp only [ho, hx, hy, Sem.run_bind, guard26, run_eq26, sameV_self, Result.andThen_ok, Sem.run_pure]
    exact hK _ _ h
theorem wpl_diff26G {ops : Array Oper} {rest : List Oper} {o : Oper} {a : Act} {w : World} {Q : Exit → Act → World → Prop} (hgd : Region.wanted o (yielded ops a.tmps) = true) (x y : Operand) (t : TypeId) (ho : o.op = .binOp .neq 26 x y t) (v : Nat → Int) (hx : a.eval x = .agg (va v)) (hy : a.eval y = .agg (va v))
    (h : wpList Tryz.prog ops Q rest (a.put o.dst (.bool false)) w) : wpList Tryz.prog ops Q (o :: rest) a w :=
  wpList_step fun _ hK => by
    rw [if_pos hgd]
    unfold Oper.wp execOp
    simp only [ho, hx, hy, Sem.run_bind, guard26, run_ne26, sameV_self, Result.andThen_ok, Sem.run_pure, Bool.not_true]
    exact hK _ _ h
/-- reaches, where it is so -/
theorem reach_ok {a : Nat → Int} {n d : Int} (h : chkV a = 0 ∧ d ≤ degR a n) (W : World) : Calls Tryz.prog 23 #[.agg (va a), .int .i64 n, .int .i64 d] W fun e w' => e = .returned (.bool true) ∧ Below W.heap.size W w' := by
  have g := reaches_any a n d W
  rw [decide_eq_true h.1, decide_eq_true h.2] at g
  exact g
end Go.Proofs.YtbhiphjifdnhmaaGreatDoor
