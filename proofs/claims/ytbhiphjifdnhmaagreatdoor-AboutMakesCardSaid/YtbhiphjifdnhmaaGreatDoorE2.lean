import Derived.Test.YtbhiphjifdnhmaaGreatDoorR5
set_option linter.unusedSimpArgs false
set_option linter.unusedVariables false
/- Words for the laws that compare with the reference: made and joined days in blocks, equality under a guard. -/
namespace Go.Proofs.YtbhiphjifdnhmaaGreatDoor
open Go.RowKit Go.Maps

theorem mnA_va (v : Nat → Int) (e : Int) (i : Nat) (h : i < 24) : (mnA v e)[i]? = some (.int .i64 (v i)) := by
  unfold mnA
  rw [Array.getElem?_push, if_neg (by rw [va_size]; omega), va_get _ _ h]
theorem mnA_e (v : Nat → Int) (e : Int) : (mnA v e)[24]? = some (.int .i64 e) := by
  unfold mnA
  rw [Array.getElem?_push, if_pos (by rw [va_size])]
theorem new75z (w : World) : Blk (w.alloc (.cells #[.int .i64 0, .int .i64 0, .int .i64 0, .int .i64 0, .int .i64 0, .int .i64 0, .int .i64 0, .int .i64 0, .int .i64 0, .int .i64 0, .int .i64 0, .int .i64 0, .int .i64 0, .int .i64 0, .int .i64 0, .int .i64 0, .int .i64 0, .int .i64 0, .int .i64 0, .int .i64 0, .int .i64 0, .int .i64 0, .int .i64 0, .int .i64 0, .int .i64 0] 75)) w.heap.size 75 (mnA zeroV 0) := by rw [zmn]; exact Blk.new _ _ _
theorem new75 (w : World) (c : Nat → Int) (e : Int) : Blk ((w.alloc (.cells #[.int .i64 0, .int .i64 0, .int .i64 0, .int .i64 0, .int .i64 0, .int .i64 0, .int .i64 0, .int .i64 0, .int .i64 0, .int .i64 0, .int .i64 0, .int .i64 0, .int .i64 0, .int .i64 0, .int .i64 0, .int .i64 0, .int .i64 0, .int .i64 0, .int .i64 0, .int .i64 0, .int .i64 0, .int .i64 0, .int .i64 0, .int .i64 0, .int .i64 0] 75)).setRow w.heap.size (mnA c e)) w.heap.size 75 (mnA c e) := (new75z w).setRow _
theorem below75 (w : World) (c : Nat → Int) (e : Int) : Below w.heap.size w ((w.alloc (.cells #[.int .i64 0, .int .i64 0, .int .i64 0, .int .i64 0, .int .i64 0, .int .i64 0, .int .i64 0, .int .i64 0, .int .i64 0, .int .i64 0, .int .i64 0, .int .i64 0, .int .i64 0, .int .i64 0, .int .i64 0, .int .i64 0, .int .i64 0, .int .i64 0, .int .i64 0, .int .i64 0, .int .i64 0, .int .i64 0, .int .i64 0, .int .i64 0, .int .i64 0] 75)).setRow w.heap.size (mnA c e)) := below_setRow (below_new _ _) (Nat.le_refl _) _
theorem new81z (w : World) : Blk (w.alloc (.cells #[.int .i64 0, .int .i64 0, .int .i64 0, .int .i64 0, .int .i64 0, .int .i64 0, .int .i64 0, .int .i64 0, .int .i64 0, .int .i64 0, .int .i64 0, .int .i64 0, .int .i64 0, .int .i64 0, .int .i64 0, .int .i64 0, .int .i64 0, .int .i64 0, .int .i64 0, .int .i64 0, .int .i64 0, .int .i64 0, .int .i64 0, .int .i64 0, .int .i64 0, .int .i64 0] 81)) w.heap.size 81 (joA zeroV 0 0) := by rw [zjo]; exact Blk.new _ _ _
theorem new81 (w : World) (c : Nat → Int) (n e : Int) : Blk ((w.alloc (.cells #[.int .i64 0, .int .i64 0, .int .i64 0, .int .i64 0, .int .i64 0, .int .i64 0, .int .i64 0, .int .i64 0, .int .i64 0, .int .i64 0, .int .i64 0, .int .i64 0, .int .i64 0, .int .i64 0, .int .i64 0, .int .i64 0, .int .i64 0, .int .i64 0, .int .i64 0, .int .i64 0, .int .i64 0, .int .i64 0, .int .i64 0, .int .i64 0, .int .i64 0, .int .i64 0] 81)).setRow w.heap.size (joA c n e)) w.heap.size 81 (joA c n e) := (new81z w).setRow _
theorem below81 (w : World) (c : Nat → Int) (n e : Int) : Below w.heap.size w ((w.alloc (.cells #[.int .i64 0, .int .i64 0, .int .i64 0, .int .i64 0, .int .i64 0, .int .i64 0, .int .i64 0, .int .i64 0, .int .i64 0, .int .i64 0, .int .i64 0, .int .i64 0, .int .i64 0, .int .i64 0, .int .i64 0, .int .i64 0, .int .i64 0, .int .i64 0, .int .i64 0, .int .i64 0, .int .i64 0, .int .i64 0, .int .i64 0, .int .i64 0, .int .i64 0, .int .i64 0] 81)).setRow w.heap.size (joA c n e)) := below_setRow (below_new _ _) (Nat.le_refl _) _
theorem mn_at {w : World} {g : Nat} {T : TypeId} {v : Nat → Int} {e : Int} (h : Blk w g T (mnA v e)) : w.rangeAt g 0 (va v).toList := fun j x hx => by
  have hj : j < 24 := by have := (List.getElem?_eq_some_iff.1 hx).1; simpa [va_size] using this
  have q := h.cell (0 + j)
  rw [show 0 + j = j by omega, mnA_va v e j hj] at q
  rw [Array.getElem?_toList, va_get v j hj] at hx
  rw [show 0 + j = j by omega]
  exact q.trans hx
theorem jo_at {w : World} {g : Nat} {T : TypeId} {v : Nat → Int} {n e : Int} (h : Blk w g T (joA v n e)) : w.rangeAt g 0 (va v).toList := fun j x hx => by
  have hj : j < 24 := by have := (List.getElem?_eq_some_iff.1 hx).1; simpa [va_size] using this
  have q := h.cell (0 + j)
  rw [show 0 + j = j by omega, joA_va v n e j hj] at q
  rw [Array.getElem?_toList, va_get v j hj] at hx
  rw [show 0 + j = j by omega]
  exact q.trans hx
theorem va_len (v : Nat → Int) : (Tryz.prog.info? 26).map (·.size) = some (va v).toList.length := by
  rw [Array.length_toList]
  exact info26 v
/-- the day of a made or joined one, loaded under a guard -/
theorem ldDayG {ops : Array Oper} {rest : List Oper} {o : Oper} {a : Act} {w : World} {Q : Exit → Act → World → Prop} (t : Tmp) (hgd : Region.wanted o (yielded ops a.tmps) = true) (ho : o.op = .load 26 (.tmp t))
    {g : Nat} {v : Nat → Int} (hB : w.rangeAt g 0 (va v).toList) (hx : a.eval (.tmp t) = .pointer (some ⟨g, 0, none⟩)) (h : wpList Tryz.prog ops Q rest (a.put o.dst (.agg (va v))) w) : wpList Tryz.prog ops Q (o :: rest) a w :=
  wpList_step fun _ hK => by rw [if_pos hgd]; exact wp_load_mid 26 _ ho g 0 hx (va v).toList _ hB Tryz.underlying26 rfl (va_len v) (hK _ _ (by simpa using h))
/-- two days that are the same, compared under a guard -/
theorem wpl_eq26G {ops : Array Oper} {rest : List Oper} {o : Oper} {a : Act} {w : World} {Q : Exit → Act → World → Prop} (hgd : Region.wanted o (yielded ops a.tmps) = true) (x y : Operand) (t : TypeId) (ho : o.op = .binOp .eql 26 x y t) (v : Nat → Int) (hx : a.eval x = .agg (va v)) (hy : a.eval y = .agg (va v))
    (h : wpList Tryz.prog ops Q rest (a.put o.dst (.bool true)) w) : wpList Tryz.prog ops Q (o :: rest) a w :=
  wpList_step fun _ hK => by
    rw [if_pos hgd]
    unfold Oper.wp execOp
    simp only [ho, hx, hy, Sem.run_bind, guard26, run_eq26, sameV_self, Result.andThen_ok, Sem.run_pure]
    exact hK _ _ h
end Go.Proofs.YtbhiphjifdnhmaaGreatDoor
