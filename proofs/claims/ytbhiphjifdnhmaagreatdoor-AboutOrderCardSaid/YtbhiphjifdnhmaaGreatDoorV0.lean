import Derived.Test.YtbhiphjifdnhmaaGreatDoorA11
import Derived.Test.YtbhiphjifdnhmaaGreatDoorA9
/- What verdict's walk keeps in memory. -/
namespace Go.Proofs.YtbhiphjifdnhmaaGreatDoor
open Go.RowKit

theorem keep5L {W w2 : World} {p1 p2 p3 p4 p5 : Addr} {v1 v2 v3 v4 v5 : Value} (hb : Below W.heap.size W w2) (h : W.cell? p1 = some v1 ∧ W.cell? p2 = some v2 ∧ W.cell? p3 = some v3 ∧ W.cell? p4 = some v4 ∧ W.cell? p5 = some v5) :
    w2.cell? p1 = some v1 ∧ w2.cell? p2 = some v2 ∧ w2.cell? p3 = some v3 ∧ w2.cell? p4 = some v4 ∧ w2.cell? p5 = some v5 :=
  ⟨keepL hb h.1, keepL hb h.2.1, keepL hb h.2.2.1, keepL hb h.2.2.2.1, keepL hb h.2.2.2.2⟩
theorem keep5A {W : World} {p1 p2 p3 p4 p5 : Addr} {v1 v2 v3 v4 v5 : Value} {o : Obj} (h : W.cell? p1 = some v1 ∧ W.cell? p2 = some v2 ∧ W.cell? p3 = some v3 ∧ W.cell? p4 = some v4 ∧ W.cell? p5 = some v5) :
    (W.alloc o).cell? p1 = some v1 ∧ (W.alloc o).cell? p2 = some v2 ∧ (W.alloc o).cell? p3 = some v3 ∧ (W.alloc o).cell? p4 = some v4 ∧ (W.alloc o).cell? p5 = some v5 := keep5L (below_new _ _) h
theorem keep5S {W : World} {p q r g i j i0 i1 i2 : Nat} {v1 v2 v3 v4 v5 x y : Value} (h : W.cell? ⟨p, i, none⟩ = some v1 ∧ W.cell? ⟨q, i0, none⟩ = some v2 ∧ W.cell? ⟨q, i1, none⟩ = some v3 ∧ W.cell? ⟨r, i0, none⟩ = some v4 ∧ W.cell? ⟨r, i1, none⟩ = some v5) (hp : p ≠ g) (hq : q ≠ g) (hr : r ≠ g) :
    ((W.setCell ⟨g, i2, none⟩ x).setCell ⟨g, j, none⟩ y).cell? ⟨p, i, none⟩ = some v1 ∧ ((W.setCell ⟨g, i2, none⟩ x).setCell ⟨g, j, none⟩ y).cell? ⟨q, i0, none⟩ = some v2 ∧ ((W.setCell ⟨g, i2, none⟩ x).setCell ⟨g, j, none⟩ y).cell? ⟨q, i1, none⟩ = some v3 ∧ ((W.setCell ⟨g, i2, none⟩ x).setCell ⟨g, j, none⟩ y).cell? ⟨r, i0, none⟩ = some v4 ∧ ((W.setCell ⟨g, i2, none⟩ x).setCell ⟨g, j, none⟩ y).cell? ⟨r, i1, none⟩ = some v5 := by
  have key : ∀ (W : World) (b o i : Nat) (u : Value), b ≠ g → (W.setCell ⟨g, i, none⟩ u).cell? ⟨b, o, none⟩ = W.cell? ⟨b, o, none⟩ := fun W b o i u hb => World.cell?_of_block (heap_setCell_other W ⟨g, i, none⟩ b u hb)
  rw [key _ _ _ _ _ hp, key _ _ _ _ _ hp, key _ _ _ _ _ hq, key _ _ _ _ _ hq, key _ _ _ _ _ hq, key _ _ _ _ _ hq, key _ _ _ _ _ hr, key _ _ _ _ _ hr, key _ _ _ _ _ hr, key _ _ _ _ _ hr]
  exact h
theorem cell_far {W : World} {p : Addr} {g i : Nat} {v : Value} (u : Value) (h : W.cell? p = some v) (hp : p.block ≠ g) : (W.setCell ⟨g, i, none⟩ u).cell? p = some v :=
  (World.cell?_of_block (heap_setCell_other W ⟨g, i, none⟩ p.block u hp)).trans h

/-- the five blocks of a verdict under way -/
structure VW (W : World) (h : Nat) (Q : Array Value) (a b : Nat → Int) (v : Vd) : Prop where
  q : Blk W h 118 Q
  a : Blk W (h + 1) 26 (va a)
  b : Blk W (h + 1 + 1) 26 (va b)
  z : Blk W (h + 1 + 1 + 1) 48 (vcs vd0)
  v : Blk W (h + 1 + 1 + 1 + 1) 48 (vcs v)
section
variable {W W' : World} {h : Nat} {Q : Array Value} {a b : Nat → Int} {v : Vd}
theorem VW.lt (k : VW W h Q a b v) : h + 1 + 1 + 1 + 1 < W.heap.size := k.v.lt
theorem VW.below (k : VW W h Q a b v) (hb : Below W.heap.size W W') : VW W' h Q a b v :=
  ⟨k.q.below hb k.q.lt, k.a.below hb k.a.lt, k.b.below hb k.b.lt, k.z.below hb k.z.lt, k.v.below hb k.v.lt⟩
theorem VW.alloc (k : VW W h Q a b v) (o : Obj) : VW (W.alloc o) h Q a b v := k.below (below_new _ _)
theorem VW.drew (k : VW W h Q a b v) : VW W.drew h Q a b v := ⟨k.q, k.a, k.b, k.z, k.v⟩
theorem VW.far (k : VW W h Q a b v) {p : Addr} (hp : h + 1 + 1 + 1 + 1 < p.block) (u : Value) : VW (W.setCell p u) h Q a b v :=
  ⟨k.q.far (by omega) u, k.a.far (by omega) u, k.b.far (by omega) u, k.z.far (by omega) u, k.v.far (by omega) u⟩
theorem VW.put (k : VW W h Q a b v) (W' : World) (hw : ∀ g, g ≠ h + 1 + 1 + 1 + 1 → W'.heap[g]? = W.heap[g]?) {v' : Vd} (hv : Blk W' (h + 1 + 1 + 1 + 1) 48 (vcs v')) : VW W' h Q a b v' :=
  ⟨(hw _ (by omega)).trans k.q, (hw _ (by omega)).trans k.a, (hw _ (by omega)).trans k.b, (hw _ (by omega)).trans k.z, hv⟩
theorem VW.cells (k : VW W h Q a b v) : W.cell? ⟨h + 1 + 1 + 1 + 1, 0, none⟩ = some (.int .i64 v.can) ∧ W.cell? ⟨h + 1 + 1 + 1 + 1, 1, none⟩ = some (.int .i64 v.must) ∧ W.cell? ⟨h + 1 + 1 + 1 + 1, 2, none⟩ = some (.int .i64 v.y0) ∧ W.cell? ⟨h + 1 + 1 + 1 + 1, 3, none⟩ = some (.int .i64 v.y1) ∧ W.cell? ⟨h + 1 + 1 + 1 + 1, 4, none⟩ = some (.int .i64 v.n0) ∧ W.cell? ⟨h + 1 + 1 + 1 + 1, 5, none⟩ = some (.int .i64 v.n1) :=
  ⟨k.v.cell 0, k.v.cell 1, k.v.cell 2, k.v.cell 3, k.v.cell 4, k.v.cell 5⟩
theorem VW.frozens (k : VW W h Q a b v) (i : Nat) : W.frozen? ⟨h + 1 + 1 + 1 + 1, i, none⟩ = false := k.v.frozen i
/-- Can and Yes are stored -/
theorem VW.setYes (k : VW W h Q a b v) (c x y : Int) : VW (((W.setCell ⟨h + 1 + 1 + 1 + 1, 0, none⟩ (.int .i64 c)).setCell ⟨h + 1 + 1 + 1 + 1, 2, none⟩ (.int .i64 x)).setCell ⟨h + 1 + 1 + 1 + 1, 3, none⟩ (.int .i64 y)) h Q a b ⟨c, v.must, x, y, v.n0, v.n1⟩ :=
  k.put _ (fun g hg => (heap_setCell_other _ _ g _ hg).trans ((heap_setCell_other _ _ g _ hg).trans (heap_setCell_other _ _ g _ hg))) (((k.v.store 0 _).store 2 _).store 3 _)
/-- Must and No are stored -/
theorem VW.setNo (k : VW W h Q a b v) (c x y : Int) : VW (((W.setCell ⟨h + 1 + 1 + 1 + 1, 1, none⟩ (.int .i64 c)).setCell ⟨h + 1 + 1 + 1 + 1, 4, none⟩ (.int .i64 x)).setCell ⟨h + 1 + 1 + 1 + 1, 5, none⟩ (.int .i64 y)) h Q a b ⟨v.can, c, v.y0, v.y1, x, y⟩ :=
  k.put _ (fun g hg => (heap_setCell_other _ _ g _ hg).trans ((heap_setCell_other _ _ g _ hg).trans (heap_setCell_other _ _ g _ hg))) (((k.v.store 1 _).store 4 _).store 5 _)
end

theorem Blk.sixStore {w : World} {g : Nat} {t : TypeId} {v : Vd} (h : Blk w g t (vcs v)) (a b c d e f : Int) :
    Blk ((((((w.setCell ⟨g, 0, none⟩ (.int .i64 a)).setCell ⟨g, 1, none⟩ (.int .i64 b)).setCell ⟨g, 2, none⟩ (.int .i64 c)).setCell ⟨g, 3, none⟩ (.int .i64 d)).setCell ⟨g, 4, none⟩ (.int .i64 e)).setCell ⟨g, 5, none⟩ (.int .i64 f)) g t (vcs ⟨a, b, c, d, e, f⟩) :=
  (((((h.store 0 _).store 1 _).store 2 _).store 3 _).store 4 _).store 5 _
/-- one degree more -/
theorem vdTo_step (q : Qn) (a b : Nat → Int) (k : Nat) : vdTo q a b (k + 1) = ⟨if canB q a b k = true then (k : Int) + 1 else canTo q a b k, if mustB q a b k = true then mustTo q a b k else (k : Int) + 2, (if canB q a b k = true then bestAt q a b k else yesTo q a b k).1, (if canB q a b k = true then bestAt q a b k else yesTo q a b k).2, (if mustB q a b k = true then noTo q a b k else worstAt q a b k).1, (if mustB q a b k = true then noTo q a b k else worstAt q a b k).2⟩ := rfl
theorem bestNear_lim (most : Int) {a b : Nat → Int} {k : Nat} (hp0 : -3000 ≤ a (2 * k) ∧ a (2 * k) ≤ 3000) (hp1 : -3000 ≤ a (2 * k + 1) ∧ a (2 * k + 1) ≤ 3000) (hp2 : -3000 ≤ b (2 * k) ∧ b (2 * k) ≤ 3000) (hp3 : -3000 ≤ b (2 * k + 1) ∧ b (2 * k + 1) ≤ 3000) :
    (-3000 ≤ (bestAt (qNear most) a b k).1 ∧ (bestAt (qNear most) a b k).1 ≤ 3000) ∧ (-3000 ≤ (bestAt (qNear most) a b k).2 ∧ (bestAt (qNear most) a b k).2 ≤ 3000) := by
  simp only [bestAt, qNear, near1]
  omega
theorem worstNear_lim (most : Int) {a b : Nat → Int} {k : Nat} (hp0 : -3000 ≤ a (2 * k) ∧ a (2 * k) ≤ 3000) (hp1 : -3000 ≤ a (2 * k + 1) ∧ a (2 * k + 1) ≤ 3000) (hp2 : -3000 ≤ b (2 * k) ∧ b (2 * k) ≤ 3000) (hp3 : -3000 ≤ b (2 * k + 1) ∧ b (2 * k + 1) ≤ 3000) :
    (-3000 ≤ (worstAt (qNear most) a b k).1 ∧ (worstAt (qNear most) a b k).1 ≤ 3000) ∧ (-3000 ≤ (worstAt (qNear most) a b k).2 ∧ (worstAt (qNear most) a b k).2 ≤ 3000) := by
  simp only [worstAt, qNear]
  split <;> exact ⟨by assumption, by assumption⟩
end Go.Proofs.YtbhiphjifdnhmaaGreatDoor

/- The equality of two pairs of numbers. -/
namespace Go.Proofs.YtbhiphjifdnhmaaGreatDoor
open Go.RowKit
theorem run_eql_pair (x y x' y' : Int) (w : World) : (binOp .eql 46 (.agg #[.int .i64 x, .int .i64 y]) (.agg #[.int .i64 x', .int .i64 y'])).run Tryz.prog w = .ok (.bool (x == x' && y == y')) w := by
  have h3 : (Tryz.prog.info? 3).map (·.size) = some 1 := by kernel_rfl
  have hsz : ∀ w, (sizeOf 3).run Tryz.prog w = .ok 1 w := fun w => by
    cases hq : Tryz.prog.info? 3 with
    | none => simp [hq] at h3
    | some i =>
      have hs : i.size = 1 := by simpa [hq] using h3
      simp [sizeOf, typeInfo, hq, hs]
  have e3 : ∀ (w : World) (a b : Int), (Op.equalIn 9999 3 (.int .i64 a) (.int .i64 b)).run Tryz.prog w = .ok (a == b) w := fun w a b => run_equalIn_int w 9998 3 .i64 .i64 a b Tryz.underlying3
  have p0 : ∀ (w : World) (a b : Value), (part 3 #[a, b] (0 * 1)).run Tryz.prog w = .ok a w := fun w a b => by simp [part, isAgg, run_underlying Tryz.underlying3]
  have p1 : ∀ (w : World) (a b : Value), (part 3 #[a, b] 1).run Tryz.prog w = .ok b w := fun w a b => by simp [part, isAgg, run_underlying Tryz.underlying3]
  rw [run_eql_struct, Op.equalIn]
  simp only [Sem.run_bind, run_underlying Tryz.underlying46, Result.andThen_ok, hsz, Std.Legacy.Range.forIn_eq_forIn_range', Std.Legacy.Range.size, Nat.sub_zero, Nat.add_sub_cancel, Nat.div_one]
  have e : List.range' 0 2 1 = [0, 1] := rfl
  rw [e]
  simp only [List.forIn_cons, List.forIn_nil, Sem.run_bind, p0, e3, Result.andThen_ok]
  cases hx : (x == x') <;> cases hy : (y == y') <;> simp [p1, e3, hy]

theorem run_eql_bools (w : World) (x y : Bool) : (binOp .eql 4 (.bool x) (.bool y)).run Tryz.prog w = .ok (.bool (x == y)) w := by
  simp only [binOp]
  simp [Op.equal, Op.maxDepth, run_equalIn_bool' w 9999 4 x y Tryz.underlying4]
theorem keep7L {W w2 : World} {p1 p2 p3 p4 p5 p6 p7 : Addr} {v1 v2 v3 v4 v5 v6 v7 : Value} (hb : Below W.heap.size W w2) (h : W.cell? p1 = some v1 ∧ W.cell? p2 = some v2 ∧ W.cell? p3 = some v3 ∧ W.cell? p4 = some v4 ∧ W.cell? p5 = some v5 ∧ W.cell? p6 = some v6 ∧ W.cell? p7 = some v7) :
    w2.cell? p1 = some v1 ∧ w2.cell? p2 = some v2 ∧ w2.cell? p3 = some v3 ∧ w2.cell? p4 = some v4 ∧ w2.cell? p5 = some v5 ∧ w2.cell? p6 = some v6 ∧ w2.cell? p7 = some v7 :=
  ⟨keepL hb h.1, keepL hb h.2.1, keepL hb h.2.2.1, keepL hb h.2.2.2.1, keepL hb h.2.2.2.2.1, keepL hb h.2.2.2.2.2.1, keepL hb h.2.2.2.2.2.2⟩
end Go.Proofs.YtbhiphjifdnhmaaGreatDoor

/- The cells of a question and of a verdict. -/
namespace Go.Proofs.YtbhiphjifdnhmaaGreatDoor
open Go.RowKit
theorem qcells {W : World} {g : Nat} {t : TypeId} {x y z : Value} (h : Blk W g t #[x, y, z]) : W.cell? ⟨g, 0, none⟩ = some x ∧ W.cell? ⟨g, 1, none⟩ = some y ∧ W.cell? ⟨g, 2, none⟩ = some z := ⟨h.cell 0, h.cell 1, h.cell 2⟩
theorem vcells {W : World} {g : Nat} {t : TypeId} {v : Vd} (h : Blk W g t (vcs v)) : W.cell? ⟨g, 0, none⟩ = some (.int .i64 v.can) ∧ W.cell? ⟨g, 1, none⟩ = some (.int .i64 v.must) ∧ W.cell? ⟨g, 2, none⟩ = some (.int .i64 v.y0) ∧ W.cell? ⟨g, 3, none⟩ = some (.int .i64 v.y1) ∧ W.cell? ⟨g, 4, none⟩ = some (.int .i64 v.n0) ∧ W.cell? ⟨g, 5, none⟩ = some (.int .i64 v.n1) :=
  ⟨h.cell 0, h.cell 1, h.cell 2, h.cell 3, h.cell 4, h.cell 5⟩
/-- a vague day loaded whole out of slot t, under a guard that strikes -/
theorem ldVG {ops : Array Oper} {rest : List Oper} {o : Oper} {a : Act} {w : World} {Q : Exit → Act → World → Prop} (t : Tmp) (hgd : Region.wanted o (yielded ops a.tmps) = true) (ho : o.op = .load 26 (.tmp t))
    {g : Nat} {T : TypeId} {c : Nat → Int} (hB : Blk w g T (va c)) (hx : a.eval (.tmp t) = .pointer (some ⟨g, 0, none⟩)) (h : wpList Tryz.prog ops Q rest (a.put o.dst (.agg (va c))) w) : wpList Tryz.prog ops Q (o :: rest) a w :=
  wpList_step fun _ hK => by rw [if_pos hgd]; exact wp_load_row 26 _ ho g hx T _ (0, 0) _ hB Tryz.underlying26 rfl (info26 _) (hK _ _ h)
/-- a whole struct loaded in a region that draws its order -/
theorem yieldsIf_load_row {P : Program} {ops : Array Oper} {S : World → Prop} {o : Oper} {a : Act} (hw : Region.wanted o (yielded ops a.tmps) = true) (ty : TypeId) (x : Operand) (ho : o.op = .load ty x)
    (g : Nat) (hx : a.eval x = .pointer (some ⟨g, 0, none⟩)) (t : TypeId) (cs : Array Value) (fr : Nat × Nat) (d : TypeDesc) (hg : ∀ w : World, S w → w.heap[g]? = some (.cells cs t fr))
    (hu : P.underlying ty = some d) (hd : (match d with | .struct _ | .array _ _ => true | _ => false) = true) (hi : (P.info? ty).map (·.size) = some cs.size) : YieldsIf P ops S o (.agg cs) a :=
  Or.inl ⟨hw, fun w hS => by
    unfold execOp
    simp only [ho, hx, Instr.loadAt, Instr.sureAddr, Sem.run_bind, Sem.run_pure, Result.andThen_ok, run_loadVar_row w g t ty cs fr d (hg w hS) hu hd hi]⟩
end Go.Proofs.YtbhiphjifdnhmaaGreatDoor

