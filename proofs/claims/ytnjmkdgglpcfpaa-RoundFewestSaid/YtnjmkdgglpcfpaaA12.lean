import Derived.Test.YtnjmkdgglpcfpaaA11
import Derived.Test.YtnjmkdgglpcfpaaRd
import Derived.Maps.OwnIn
import Derived.IntWalk
namespace Go.Proofs.Ytnjmkdgglpcfpaa
open Go.RowKit Go.Shelf

attribute [local go_sem] Oper.semAt_some

/-- one column more: is it reached from the last stand, or is a further stand taken? -/
def aft (C B F : Int) (p : Nat → Bool) (st : List Int) (c : Int) : List Int :=
  match st.getLast? with
  | none => [far C B F p c]
  | some s => if rch C B F s c then st else st ++ [far C B F p c]
def afters (C B F : Int) (p q : Nat → Bool) (s : Int) : List Int := (bhTo C F q s (bhK C B F)).foldl (aft C B F p) []

theorem far_mem {C B F : Int} {p : Nat → Bool} {c : Int} (h : 1 ≤ C) : 0 ≤ far C B F p c ∧ far C B F p c < C :=
  ⟨Int.emod_nonneg _ (by omega), Int.emod_lt_of_pos _ (by omega)⟩
theorem aft_nil {C B F : Int} {p : Nat → Bool} {c : Int} : aft C B F p [] c = [far C B F p c] := rfl
theorem aft_yes {C B F : Int} {p : Nat → Bool} {st : List Int} {c : Int} (hn : st ≠ []) (h : rch C B F (st.getLast hn) c = true) : aft C B F p st c = st := by
  unfold aft
  rw [List.getLast?_eq_some_getLast hn]
  simp [h]
theorem aft_no {C B F : Int} {p : Nat → Bool} {st : List Int} {c : Int} (hn : st ≠ []) (h : rch C B F (st.getLast hn) c = false) : aft C B F p st c = st ++ [far C B F p c] := by
  unfold aft
  rw [List.getLast?_eq_some_getLast hn]
  simp [h]
/-- what is taken for a part of the columns -/
def aftS (C B F : Int) (p : Nat → Bool) (pre : List (Col C)) : List Int := (pre.map Subtype.val).foldl (aft C B F p) []
theorem aftS_snoc (C B F : Int) (p : Nat → Bool) (pre : List (Col C)) (x : Col C) : aftS C B F p (pre ++ [x]) = aft C B F p (aftS C B F p pre) x.1 := by simp [aftS]
theorem aft_step {C B F : Int} {p : Nat → Bool} (h : 1 ≤ C) (st : List Int) (c : Int) (hst : ∀ x ∈ st, 0 ≤ x ∧ x < C) : (aft C B F p st c).length ≤ st.length + 1 ∧ ∀ x ∈ aft C B F p st c, 0 ≤ x ∧ x < C := by
  have hf := far_mem (B := B) (F := F) (p := p) (c := c) h
  by_cases hn : st = []
  · rw [hn, aft_nil]
    simpa using hf
  · cases hr : rch C B F (st.getLast hn) c with
    | true =>
      rw [aft_yes hn hr]
      exact ⟨by omega, hst⟩
    | false =>
      rw [aft_no hn hr]
      refine ⟨by simp, fun y hy => ?_⟩
      rcases List.mem_append.1 hy with hy | hy
      · exact hst y hy
      · obtain rfl : y = _ := by simpa using hy
        exact hf
theorem aft_fold {C B F : Int} {p : Nat → Bool} (h : 1 ≤ C) : ∀ (l : List Int) (st : List Int), (∀ x ∈ st, 0 ≤ x ∧ x < C) → (l.foldl (aft C B F p) st).length ≤ st.length + l.length ∧ ∀ x ∈ l.foldl (aft C B F p) st, 0 ≤ x ∧ x < C
  | [], st, hst => ⟨by simp, hst⟩
  | c :: l, st, hst => by
    obtain ⟨h1, h2⟩ := aft_step (B := B) (F := F) (p := p) h st c hst
    obtain ⟨h3, h4⟩ := aft_fold h l _ h2
    exact ⟨by simp only [List.foldl_cons, List.length_cons]; omega, h4⟩
theorem aftS_good {C B F : Int} {p : Nat → Bool} (h : 1 ≤ C) (pre : List (Col C)) : (aftS C B F p pre).length ≤ pre.length ∧ ∀ x ∈ aftS C B F p pre, 0 ≤ x ∧ x < C := by
  have := aft_fold (B := B) (F := F) (p := p) h (pre.map Subtype.val) [] (by simp)
  simpa [aftS] using this

/-- what a function that makes a slice of ints of its own hands back -/
def RetOwn (w : World) (l : List Int) (e : Ending) (w' : World) : Prop :=
  ∃ A c, e = .returned (.slice A l.length c) ∧ w'.ownsRow w.heap.size 3 1 (.slice A l.length c) l.length (l.map (Value.int .i64)) ∧ Below w.heap.size w w'
theorem own_less {w : World} {base base' : Nat} {e : TypeId} {size n : Nat} {v : Value} {xs : List Value} (h : w.ownsRow base e size v n xs) (hb : base' ≤ base) : w.ownsRow base' e size v n xs := by
  refine ⟨h.1, ?_⟩
  rcases h.2 with h2 | ⟨g, cap, cur, hv, hg, r⟩
  · exact .inl h2
  · exact .inr ⟨g, cap, cur, hv, Nat.le_trans hb hg, r⟩
theorem RetOwn.ints {w w' : World} {l : List Int} {e : Ending} (h : RetOwn w l e w') : RetInts w l e w' := by
  obtain ⟨A, c, rfl, h1, h2⟩ := h
  exact RetInts.of_own h1 h2

theorem blk_own {β : Type} (g : Nat) (t : TypeId) (cs : Array Value) : Own (fun (_ : β) W => Blk W g t cs) := by
  intro s X Y row h hg hrow
  refine (hg.block g h.lt fun e => ?_).trans h
  obtain ⟨o, ho, hc⟩ := hrow g e.symm
  rw [show X.heap[g]? = _ from h] at ho
  cases ho
  cases hc
theorem keeps_of_below {W W' : World} (h : Below W.heap.size W W') : KeepsOthers W W' := KeepsOthers.of_grownBy (grown_of_below h) (fun j o e => by cases e)

/-- a whole struct read out of its block, inside a fence -/
theorem wpIn_load_row {F : Fence} {n : Nat} {P : Program} {o : Oper} {a : Act} {w : World} {K : Act → World → Prop} {Q : Exit → Act → World → Prop} (ty : TypeId) (x : Operand) (ho : o.op = .load ty x)
    (g : Nat) (hx : a.eval x = .pointer (some ⟨g, 0, none⟩)) (t : TypeId) (cs : Array Value) (fr : Nat × Nat) (d : TypeDesc) (hg : w.heap[g]? = some (.cells cs t fr))
    (hu : P.underlying ty = some d) (hd : (match d with | .struct _ | .array _ _ => true | _ => false) = true) (hi : (P.info? ty).map (·.size) = some cs.size)
    (h : K (a.put o.dst (.agg cs)) w) : o.wpIn F n P a w K Q := by
  unfold Oper.wpIn
  refine ⟨by simp [Oper.about, ho], ?_⟩
  rw [Oper.semAt_plain F _ _ (by rw [ho]; intro c hc; cases hc)]
  unfold execOp
  simp only [ho, hx, Instr.loadAt, Instr.sureAddr, Sem.run_bind, Sem.run_pure, Result.andThen_ok, run_loadVar_row w g t ty cs fr d hg hu hd hi]
  exact h

/-- 'l = append(l, y)' on a slice of the call's own, at the operation -/
theorem wp_app1 {o : Oper} {a : Act} {K : Act → World → Prop} {Q : Exit → Act → World → Prop} {w : World} (s x : Operand)
    (ho : o.op = .call { callee := .builtin .append, args := #[s, x], argTypes := #[22, 22] }) (base : Nat) (l : List Int) (y : Int) (v : Value)
    (hs : a.eval s = v) (hown : w.ownsRow base 3 1 v l.length (l.map (Value.int .i64))) (hx : a.eval x = .slice (some ⟨w.heap.size, 0, none⟩) 1 1) (hl : l.length ≤ 1000000) (hbase : base ≤ w.heap.size)
    (h : ∀ v' w', w'.ownsRow base 3 1 v' (l ++ [y]).length ((l ++ [y]).map (Value.int .i64)) → Below base w w' → KeepsOthers w w' → (∀ g t u, Boxed w g t u → t ≠ 3 → Boxed w' g t u) → K (a.put o.dst v') w') :
    o.wp Try.prog a (w.alloc (.cells #[.int .i64 y] 3)) K Q := by
  obtain ⟨i0, hi, hz0, hz1, hz2⟩ := info_parts int_info
  refine wp_append_own _ s x 22 ho base 3 i0 (.int .i64 0) 1 8 Try.underlying22 hi hz0 hz1 hz2 rfl (by decide) v l.length (l.map (Value.int .i64)) hs (hown.alloc _) ⟨w.heap.size, 0, none⟩ 1 1 [.int .i64 y] hx rfl (cell_one_new _ _ _) (by simp [Value.oneCell'])
    (by simp only [maxLen]; omega) (by omega) (by simp; omega) ?_
  intro v' w' h1 h2 _
  have hb : Below base w w' := ((Below.refl _ _).alloc hbase _).grown h2 (by simp; omega) fun k hk => (hown.lt k hk).1
  have e1 : (l ++ [y]).length = l.length + 1 := by simp
  have e2 : (l ++ [y]).map (Value.int .i64) = l.map (Value.int .i64) ++ [Value.int .i64 y] := by simp
  refine h v' w' (by rw [e1, e2]; exact h1) hb ?_ fun g t u hg hne => (hg.alloc _).kept h2 (hg.not_row hne hown)
  refine (KeepsOthers.alloc w _).trans (KeepsOthers.of_grownBy h2 fun j o' ej hj => ?_)
  rcases (hown.alloc (.cells #[.int .i64 y] 3)).2 with ⟨rfl, _⟩ | ⟨g, cap, cur, rfl, _, hgb, _⟩
  · simp [Value.ownBlock] at ej
  · obtain rfl : g = j := by simpa [Value.ownBlock] using ej
    rw [hgb] at hj
    cases hj
    rfl

theorem yieldsIf_load_row {P : Program} {ops : Array Oper} {S : World → Prop} {o : Oper} {a : Act} (hw : Region.wanted o (yielded ops a.tmps) = true) (ty : TypeId) (x : Operand) (ho : o.op = .load ty x)
    (g : Nat) (hx : a.eval x = .pointer (some ⟨g, 0, none⟩)) (t : TypeId) (cs : Array Value) (fr : Nat × Nat) (d : TypeDesc) (hg : ∀ w : World, S w → w.heap[g]? = some (.cells cs t fr))
    (hu : P.underlying ty = some d) (hd : (match d with | .struct _ | .array _ _ => true | _ => false) = true) (hi : (P.info? ty).map (·.size) = some cs.size) : YieldsIf P ops S o (.agg cs) a :=
  Or.inl ⟨hw, fun w hS => by
    unfold execOp
    simp only [ho, hx, Instr.loadAt, Instr.sureAddr, Sem.run_bind, Sem.run_pure, Result.andThen_ok, run_loadVar_row w g t ty cs fr d (hg w hS) hu hd hi]⟩

set_option maxRecDepth 100000 in
set_option maxHeartbeats 2000000 in
theorem after_own (C R B F : Int) (sl : Value) (p q : Nat → Bool) (s : Int) (w : World) (h1 : 1 ≤ C) (h2 : C ≤ 120) (h3 : 0 ≤ s) (h4 : s < C) (h7 : 0 ≤ B) (h8 : 0 ≤ F) (h9 : F < C - B) :
    Calls Try.prog 97 #[.agg (sv C R B F sl p q), .int .i64 s] w (RetOwn w (afters C B F p q s)) := by
  refine (callsIn_wide (n := 9)).1 ?_
  refine callsIn_of_wp_marks Try.func97 rfl trivial ?_ rfl
  simp only [Try.ntmps97, List.size_toArray, List.length_cons, List.length_nil, Nat.reduceAdd, Nat.reduceSub, Array.replicate_succ, Array.replicate_zero, List.push_toArray, List.append_toArray, List.nil_append, List.cons_append]
  have hb0 : Blk ((w.alloc (.cells (sv C R B F sl p q) 106)).alloc (.cells #[.slice none 0 0] 22)) w.heap.size 106 (sv C R B F sl p q) := (Blk.new _ _ _).alloc _
  gi_wp2_with (first
    | (refine wpIn_load_row 106 _ (by rfl) _ (by rfl) 106 _ (0, 0) _ hb0 Try.underlying106 rfl (info106 _ _ _ _ _ _ _) ?_)
    | (refine ⟨trivial, ?_⟩; gi_at_call 113; refine (callsIn_wide.2 (behind_any _ _ _)).mono ?_; rintro e w1 ⟨rfl, rfl⟩))
  generalize hW0 : ((((w.alloc (Obj.cells (sv C R B F sl p q) 106)).alloc (Obj.cells #[Value.slice none 0 0] 22)).alloc (Obj.cells (sv C R B F sl p q) 106)).alloc (Obj.cells #[Value.int IntKind.i64 s] 3)) = W0
  have hsz : W0.heap.size = w.heap.size + 1 + 1 + 1 + 1 := by rw [← hW0]; simp only [World.size_alloc]
  have hB0 : Below w.heap.size w W0 := by rw [← hW0]; exact (((below_new _ _).alloc (by simp) _).alloc (by simp; omega) _).alloc (by simp; omega) _
  have b0 : Blk W0 w.heap.size 106 (sv C R B F sl p q) := by rw [← hW0]; exact (((Blk.new _ _ _).alloc _).alloc _).alloc _
  have b1 : Boxed W0 (w.heap.size + 1) 22 (.slice none 0 0) := by rw [← hW0]; exact ((Blk.newAt (by simp only [World.size_alloc])).alloc _).alloc _
  have b2 : Blk W0 (w.heap.size + 1 + 1) 106 (sv C R B F sl p q) := by rw [← hW0]; exact (Blk.newAt (by simp only [World.size_alloc])).alloc _
  have b3 : Blk W0 (w.heap.size + 1 + 1 + 1) 3 #[.int .i64 s] := by rw [← hW0]; exact Blk.newAt (by simp only [World.size_alloc])
  clear hW0 hb0
  refine wpIn_rangeFunc_ownG rfl (by omega) (gf := 130) (lb := #[.pointer (some ⟨w.heap.size + 1 + 1, 0, none⟩), .pointer (some ⟨w.heap.size + 1 + 1 + 1, 0, none⟩)]) rfl trivial (enters_of Try.func130 (by kernel_rfl) rfl)
    (behind_stops (9 - 1) (by omega) (w.heap.size + 1 + 1) (w.heap.size + 1 + 1 + 1) C R B F sl p q s h1 h2 h3 h4 h7 h8 h9 W0 b2 (b3.cell 0)) (fun h k => Kp2.trans h k)
    (fun W l o o' hl _ _ _ => Kp2.put (B := W0.heap.size) o' (by omega) (by omega) hl) (Below.refl _ _) (fun _ => rfl)
    (fun pre W => (∃ v, Boxed W (w.heap.size + 1) 22 v ∧ W.ownsRow W0.heap.size 3 1 v (aftS C B F p pre).length ((aftS C B F p pre).map (Value.int .i64)) ∧ True) ∧ (Blk W w.heap.size 106 (sv C R B F sl p q) ∧ Below w.heap.size w W ∧ W0.heap.size ≤ W.heap.size))
    (fun _ _ _ => False)
    (OwnFrom.and (Own.from (holdsRow_own W0.heap.size (w.heap.size + 1) 22 3 1 (fun pre => (aftS C B F p pre).length) (fun pre => (aftS C B F p pre).map (Value.int .i64)) (fun _ _ => True)) _) (OwnFrom.and (Own.from (blk_own _ _ _) _) (OwnFrom.and (ownFrom_below (Nat.le_refl _) (by omega)) (fun _ _ _ _ hs hg _ => Nat.le_trans hs hg.size))))
    (fun _ _ _ _ _ hs _ _ => hs)
    ⟨⟨_, b1, World.ownsRow_nil _ _ _ _, trivial⟩, b0, hB0, Nat.le_refl _⟩
    (fun x => { tmps := #[.agg (sv C R B F sl p q), .int .i64 s, .pointer (some ⟨w.heap.size, 0, none⟩), undef, .slice none 0 0, .pointer (some ⟨w.heap.size + 1, 0, none⟩), .int .i64 x.1, undef, .agg (sv C R B F sl p q), .int .i64 s,
      .func (.func 130) #[] #[.pointer (some ⟨w.heap.size + 1 + 1, 0, none⟩), .pointer (some ⟨w.heap.size + 1 + 1 + 1, 0, none⟩)], .int .i64 x.1, undef, undef, undef, undef, undef, undef, undef, undef, undef, undef, undef, undef, undef, undef, undef, undef, undef, undef, undef, undef, undef, undef, undef], defers := [] }) ?assign ?body ?done ?stop
  case assign =>
    intro l x W K hK
    gi_wp2
    exact hK
  case body =>
    rintro l pre x W ⟨⟨v, hv, hown, _⟩, hb0, hB, hWz⟩ hlen
    have hg := aftS_good (B := B) (F := F) (p := p) h1 pre
    have hsn := Lib.hid (aftS_snoc C B F p pre x)
    generalize aftS C B F p pre = st at hown hg hsn
    dsimp only
    obtain ⟨A, c', rfl, hc1, hc2⟩ := own_form hown
    have hmx : Try.prog.follows .mixedOrders = true := by kernel_rfl
    have hvc := hv.cell
    have hvf := hv.frozen
    by_cases hn : st = []
    · subst hn
      have hstep := Lib.hid (aft_nil (C := C) (B := B) (F := F) (p := p) (c := x.1))
      gi_wp2
      refine region_in_round (S := fun w' => w'.cell? ⟨w.heap.size + 1, 0, none⟩ = some (.slice A 0 c')) hmx (by kernel_rfl) (fun ⟨_, _, h⟩ => h) (by exact hvc) (fun hHeld => ?_)
      (refine wpAnyH_take (i := 0) (v := ?_) rfl (by kernel_rfl) (by kernel_rfl) (by kernel_rfl) (fun _ _ _ h => h) (Or.inl ⟨by rfl, ?_⟩) (by assumption) ?_; rotate_left; (· intro w5 hS5; (try dsimp only at hS5); go_simp <;> with_reducible rfl); (try simp only [List.getElem_toArray, List.getElem_cons_zero, Act.put, List.setIfInBounds_toArray, List.set_cons_zero, List.set_cons_succ]))
      (refine wpAnyH_take (i := 1) (v := ?_) rfl (by kernel_rfl) (by kernel_rfl) (by kernel_rfl) (fun _ _ _ h => h) (Or.inl ⟨by rfl, ?_⟩) (by assumption) ?_; rotate_left; (· intro w5 hS5; (try dsimp only at hS5); go_simp <;> with_reducible rfl); (try simp only [List.getElem_toArray, List.getElem_cons_zero, List.getElem_cons_succ, Act.put, List.setIfInBounds_toArray, List.set_cons_zero, List.set_cons_succ]))
      (refine wpAnyH_take (i := 2) (v := ?_) rfl (by kernel_rfl) (by kernel_rfl) (by kernel_rfl) (fun _ _ _ h => h) (Or.inl ⟨by rfl, ?_⟩) (by assumption) ?_; rotate_left; (· intro w5 hS5; (try dsimp only at hS5); go_simp <;> with_reducible rfl); (try simp only [List.getElem_toArray, List.getElem_cons_zero, List.getElem_cons_succ, Act.put, List.setIfInBounds_toArray, List.set_cons_zero, List.set_cons_succ]))
      (refine wpAnyH_take (i := 3) (v := undef) rfl (by kernel_rfl) (by kernel_rfl) (by kernel_rfl) (fun _ _ _ h => h) (Or.inr ⟨by rfl, rfl⟩) (by assumption) ?_; (try simp only [List.getElem_toArray, List.getElem_cons_zero, List.getElem_cons_succ, Act.put, List.setIfInBounds_toArray, List.set_cons_zero, List.set_cons_succ]))
      (refine wpAnyH_take (i := 4) (v := undef) rfl (by kernel_rfl) (by kernel_rfl) (by kernel_rfl) (fun _ _ _ h => h) (Or.inr ⟨by rfl, rfl⟩) (by assumption) ?_; (try simp only [List.getElem_toArray, List.getElem_cons_zero, List.getElem_cons_succ, Act.put, List.setIfInBounds_toArray, List.set_cons_zero, List.set_cons_succ]))
      (refine wpAnyH_take (i := 5) (v := undef) rfl (by kernel_rfl) (by kernel_rfl) (by kernel_rfl) (fun _ _ _ h => h) (Or.inr ⟨by rfl, rfl⟩) (by assumption) ?_; (try simp only [List.getElem_toArray, List.getElem_cons_zero, List.getElem_cons_succ, Act.put, List.setIfInBounds_toArray, List.set_cons_zero, List.set_cons_succ]))
      (refine wpAnyH_take (i := 6) (v := undef) rfl (by kernel_rfl) (by kernel_rfl) (by kernel_rfl) (fun _ _ _ h => h) (Or.inr ⟨by rfl, rfl⟩) (by assumption) ?_; (try simp only [List.getElem_toArray, List.getElem_cons_zero, List.getElem_cons_succ, Act.put, List.setIfInBounds_toArray, List.set_cons_zero, List.set_cons_succ]))
      (refine wpAnyH_take (i := 7) (v := undef) rfl (by kernel_rfl) (by kernel_rfl) (by kernel_rfl) (fun _ _ _ h => h) (Or.inr ⟨by rfl, rfl⟩) (by assumption) ?_; (try simp only [List.getElem_toArray, List.getElem_cons_zero, List.getElem_cons_succ, Act.put, List.setIfInBounds_toArray, List.set_cons_zero, List.set_cons_succ]))
      (refine wpAnyH_take (i := 8) (v := undef) rfl (by kernel_rfl) (by kernel_rfl) (by kernel_rfl) (fun _ _ _ h => h) (Or.inr ⟨by rfl, rfl⟩) (by assumption) ?_; (try simp only [List.getElem_toArray, List.getElem_cons_zero, List.getElem_cons_succ, Act.put, List.setIfInBounds_toArray, List.set_cons_zero, List.set_cons_succ]))
      (refine wpAnyH_take (i := 9) (v := undef) rfl (by kernel_rfl) (by kernel_rfl) (by kernel_rfl) (fun _ _ _ h => h) (Or.inr ⟨by rfl, rfl⟩) (by assumption) ?_; (try simp only [List.getElem_toArray, List.getElem_cons_zero, List.getElem_cons_succ, Act.put, List.setIfInBounds_toArray, List.set_cons_zero, List.set_cons_succ]))
      (refine wpAnyH_take (i := 10) (v := undef) rfl (by kernel_rfl) (by kernel_rfl) (by kernel_rfl) (fun _ _ _ h => h) (Or.inr ⟨by rfl, rfl⟩) (by assumption) ?_; (try simp only [List.getElem_toArray, List.getElem_cons_zero, List.getElem_cons_succ, Act.put, List.setIfInBounds_toArray, List.set_cons_zero, List.set_cons_succ]))
      (refine wpAnyH_take (i := 11) (v := undef) rfl (by kernel_rfl) (by kernel_rfl) (by kernel_rfl) (fun _ _ _ h => h) (Or.inr ⟨by rfl, rfl⟩) (by assumption) ?_; (try simp only [List.getElem_toArray, List.getElem_cons_zero, List.getElem_cons_succ, Act.put, List.setIfInBounds_toArray, List.set_cons_zero, List.set_cons_succ]))
      (refine wpAnyH_take (i := 12) (v := undef) rfl (by kernel_rfl) (by kernel_rfl) (by kernel_rfl) (fun _ _ _ h => h) (Or.inr ⟨by rfl, rfl⟩) (by assumption) ?_; (try simp only [List.getElem_toArray, List.getElem_cons_zero, List.getElem_cons_succ, Act.put, List.setIfInBounds_toArray, List.set_cons_zero, List.set_cons_succ]))
      (refine wpAnyH_take (i := 13) (v := ?_) rfl (by kernel_rfl) (by kernel_rfl) (by kernel_rfl) (fun _ _ _ h => h) (Or.inl ⟨by rfl, ?_⟩) (by assumption) ?_; rotate_left; (· intro w5 hS5; (try dsimp only at hS5); go_simp <;> with_reducible rfl); (try simp only [List.getElem_toArray, List.getElem_cons_zero, List.getElem_cons_succ, Act.put, List.setIfInBounds_toArray, List.set_cons_zero, List.set_cons_succ]))
      refine wpAnyH_done (by kernel_rfl) ?_ _
      clear hHeld
      gi_wp2
      have hkW : KeepsOthers W W.drew := KeepsOthers.drew W
      have hbW : Below W0.heap.size W W.drew.drew := (Below.refl _ _).drew.drew
      have hWz3 : W.heap.size ≤ W.drew.heap.size := Nat.le_refl _
      have hbx : Boxed W.drew (w.heap.size + 1) 22 (.slice A 0 c') := hv
      have hbs : Blk W.drew w.heap.size 106 (sv C R B F sl p q) := hb0
      obtain ⟨v, hve⟩ : ∃ v : Value, .slice A 0 c' = v := ⟨_, rfl⟩
      simp only [List.length_nil, hve] at hbx hown
      have HV := Lib.hid hve
      clear hve hvc hvf hv hb0
      refine region_in_round (S := fun w' => BlkN w' (w.heap.size + 1) 22 1 ∧ True ∧ Blk w' w.heap.size 106 (sv C R B F sl p q)) hmx (by kernel_rfl) (fun ⟨_, _, h⟩ => h) ⟨⟨_, hbx, rfl⟩, trivial, hbs⟩ (fun hHeld => ?_)
      (refine wpAnyH_take (i := 1) (v := .agg (sv C R B F sl p q)) rfl (by kernel_rfl) (by kernel_rfl) (by kernel_rfl) (fun _ _ _ h => h) (yieldsIf_load_row (by rfl) 106 _ rfl _ rfl 106 _ (0, 0) _ (fun w5 hS5 => hS5.2.2) Try.underlying106 rfl (info106 _ _ _ _ _ _ _)) (by assumption) ?_; (try simp only [List.getElem_toArray, List.getElem_cons_zero, List.getElem_cons_succ, Act.put, List.setIfInBounds_toArray, List.set_cons_zero, List.set_cons_succ]))
      (refine wpAnyH_take (i := 2) (v := ?_) rfl (by kernel_rfl) (by kernel_rfl) (by kernel_rfl) (fun _ _ _ h => h) (Or.inl ⟨by rfl, ?_⟩) (by assumption) ?_; rotate_left; (· intro w5 hS5; (try dsimp only at hS5); go_simp <;> with_reducible rfl); (try simp only [List.getElem_toArray, List.getElem_cons_zero, List.getElem_cons_succ, Act.put, List.setIfInBounds_toArray, List.set_cons_zero, List.set_cons_succ]))
      refine wpAnyH_ready (rs := [0, 3]) (by kernel_rfl) (by simp) ?_
      refine AllReadyH.cons rfl (fun K hK => ?_) (AllReadyH.cons rfl (fun K hK => ?_) AllReadyH.nil)
      · have hcx := hbx.cell
        go_simp
        clear hcx
        refine hK.out _ _ ⟨⟨_, hbx, rfl⟩, trivial, hbs⟩ (fun hHeld => ?_)
        clear hK K
        (try simp only [List.getElem_toArray, List.getElem_cons_zero, List.getElem_cons_succ, Act.put, List.setIfInBounds_toArray, List.set_cons_zero, List.set_cons_succ])
        (refine wpAnyH_ready (rs := [3]) (by kernel_rfl) (by simp) ?_; refine AllReadyH.cons rfl (fun K hK => ?_) AllReadyH.nil)
        go_simp
        refine (farthest_any C R B F sl p q x.1 _ h1 h2 x.2.1 x.2.2 h7 h8 h9).mono ?_
        rintro e w6 ⟨rfl, hb6⟩
        have hz6 : W.heap.size ≤ w6.heap.size := Nat.le_trans hWz3 hb6.size
        have hbx6 : Boxed w6 (w.heap.size + 1) 22 v := (hb6.block _ hbx.lt).trans hbx
        have hbs6 : Blk w6 w.heap.size 106 (sv C R B F sl p q) := (hb6.block _ hbs.lt).trans hbs
        have hown6 := own_below (w := W.drew.drew) hown hb6
        refine hK.out _ _ ⟨⟨_, hbx6, rfl⟩, trivial, hbs6⟩ (fun hHeld => ?_)
        clear hK K
        (try simp only [List.getElem_toArray, List.getElem_cons_zero, List.getElem_cons_succ, Act.put, List.setIfInBounds_toArray, List.set_cons_zero, List.set_cons_succ])
        (refine wpAnyH_ready (rs := [4]) (by kernel_rfl) (by simp) ?_; refine AllReadyH.cons rfl (fun K hK => ?_) AllReadyH.nil)
        go_simp
        refine hK.out _ _ ⟨⟨_, (hbx6.alloc _), rfl⟩, trivial, (hbs6.alloc _)⟩ (fun hHeld => ?_)
        clear hK K
        (try simp only [List.getElem_toArray, List.getElem_cons_zero, List.getElem_cons_succ, Act.put, List.setIfInBounds_toArray, List.set_cons_zero, List.set_cons_succ])
        (refine wpAnyH_ready (rs := [5]) (by kernel_rfl) (by simp) ?_; refine AllReadyH.cons rfl (fun K hK => ?_) AllReadyH.nil)
        rw [if_pos (by rfl)]
        refine wp_app1 _ _ (by rfl) W0.heap.size [] (far C B F p x.1) v (by rfl) hown6 (by rfl) (by omega) (by omega) ?_
        intro v7 w7 hown7 hb7 hk7 hx7
        obtain ⟨A7, c7, hv7, _, _⟩ := own_form hown7
        obtain ⟨m7, hm7⟩ : ∃ m : Nat, ([] ++ [far C B F p x.1]).length = m := ⟨_, rfl⟩
        rw [hm7] at hv7
        clear hm7
        subst hv7
        have hbx7 := hx7 _ _ _ hbx6 (by decide)
        have hbs7 := hbs6.below hb7 (by omega)
        refine hK.out _ _ ⟨⟨_, hbx7, rfl⟩, trivial, hbs7⟩ (fun hHeld => ?_)
        clear hK K
        (try simp only [List.getElem_toArray, List.getElem_cons_zero, List.getElem_cons_succ, Act.put, List.setIfInBounds_toArray, List.set_cons_zero, List.set_cons_succ])
        (refine wpAnyH_ready (rs := [6]) (by kernel_rfl) (by simp) ?_; refine AllReadyH.cons rfl (fun K hK => ?_) AllReadyH.nil)
        have hcx := hbx7.cell
        have hfx := hbx7.frozen
        go_simp
        clear hcx hfx
        have hfin := hbx7.set (.slice A7 m7 c7)
        have hbs8 := hbs7.far (p := ⟨w.heap.size + 1, 0, none⟩) (by simp) (.slice A7 m7 c7)
        have hown8 := hown7.kept (grownBy_setCell' w7 (w.heap.size + 1) (.slice A7 m7 c7)) (.inr (hbx7.not_row (by decide) hown7).symm)
        refine hK.out _ _ ⟨⟨_, hfin, rfl⟩, trivial, hbs8⟩ (fun hHeld => ?_)
        clear hK K
        (try simp only [List.getElem_toArray, List.getElem_cons_zero, List.getElem_cons_succ, Act.put, List.setIfInBounds_toArray, List.set_cons_zero, List.set_cons_succ])
        refine wpAnyH_done (by kernel_rfl) ?_ _
        gi_wp2
        refine ⟨((((hkW.trans (KeepsOthers.drew _)).trans (keeps_of_below hb6)).trans hk7).trans (KeepsOthers.setCell _ _ _)).from _, ?_, ⟨⟨_, hfin, by rw [hsn.out, hstep.out]; exact hown8, trivial⟩, hbs8, ?_, ?_⟩⟩
        · exact (Kp2.below (hbW.trans (hb6.mono (Nat.le_trans hWz hWz3)) : Below W0.heap.size W w6) (by omega) (by omega)).trans ((Kp2.below hb7 (by omega) (by omega)).trans ⟨Below.heap_setCell _ _ _ _ (by simp <;> omega), Below.heap_setCell _ _ _ _ (by simp <;> omega), by simp [World.setCell]⟩)
        · exact ((hB.trans ((hbW.trans (hb6.mono (Nat.le_trans hWz hWz3)) : Below W0.heap.size W w6).mono (by omega))).trans (hb7.mono (by omega))).setCell (by simp) _
        · have := hb7.size; simp [World.setCell]; omega
      · go_simp
        refine (farthest_any C R B F sl p q x.1 _ h1 h2 x.2.1 x.2.2 h7 h8 h9).mono ?_
        rintro e w6 ⟨rfl, hb6⟩
        have hz6 : W.heap.size ≤ w6.heap.size := Nat.le_trans hWz3 hb6.size
        have hbx6 : Boxed w6 (w.heap.size + 1) 22 v := (hb6.block _ hbx.lt).trans hbx
        have hbs6 : Blk w6 w.heap.size 106 (sv C R B F sl p q) := (hb6.block _ hbs.lt).trans hbs
        have hown6 := own_below (w := W.drew.drew) hown hb6
        refine hK.out _ _ ⟨⟨_, hbx6, rfl⟩, trivial, hbs6⟩ (fun hHeld => ?_)
        clear hK K
        (try simp only [List.getElem_toArray, List.getElem_cons_zero, List.getElem_cons_succ, Act.put, List.setIfInBounds_toArray, List.set_cons_zero, List.set_cons_succ])
        refine wpAnyH_ready (rs := [0, 4]) (by kernel_rfl) (by simp) ?_
        refine AllReadyH.cons rfl (fun K hK => ?_) (AllReadyH.cons rfl (fun K hK => ?_) AllReadyH.nil)
        · have hcx := hbx6.cell
          go_simp
          clear hcx
          refine hK.out _ _ ⟨⟨_, hbx6, rfl⟩, trivial, hbs6⟩ (fun hHeld => ?_)
          clear hK K
          (try simp only [List.getElem_toArray, List.getElem_cons_zero, List.getElem_cons_succ, Act.put, List.setIfInBounds_toArray, List.set_cons_zero, List.set_cons_succ])
          (refine wpAnyH_ready (rs := [4]) (by kernel_rfl) (by simp) ?_; refine AllReadyH.cons rfl (fun K hK => ?_) AllReadyH.nil)
          go_simp
          refine hK.out _ _ ⟨⟨_, (hbx6.alloc _), rfl⟩, trivial, (hbs6.alloc _)⟩ (fun hHeld => ?_)
          clear hK K
          (try simp only [List.getElem_toArray, List.getElem_cons_zero, List.getElem_cons_succ, Act.put, List.setIfInBounds_toArray, List.set_cons_zero, List.set_cons_succ])
          (refine wpAnyH_ready (rs := [5]) (by kernel_rfl) (by simp) ?_; refine AllReadyH.cons rfl (fun K hK => ?_) AllReadyH.nil)
          rw [if_pos (by rfl)]
          refine wp_app1 _ _ (by rfl) W0.heap.size [] (far C B F p x.1) v (by rfl) hown6 (by rfl) (by omega) (by omega) ?_
          intro v7 w7 hown7 hb7 hk7 hx7
          obtain ⟨A7, c7, hv7, _, _⟩ := own_form hown7
          obtain ⟨m7, hm7⟩ : ∃ m : Nat, ([] ++ [far C B F p x.1]).length = m := ⟨_, rfl⟩
          rw [hm7] at hv7
          clear hm7
          subst hv7
          have hbx7 := hx7 _ _ _ hbx6 (by decide)
          have hbs7 := hbs6.below hb7 (by omega)
          refine hK.out _ _ ⟨⟨_, hbx7, rfl⟩, trivial, hbs7⟩ (fun hHeld => ?_)
          clear hK K
          (try simp only [List.getElem_toArray, List.getElem_cons_zero, List.getElem_cons_succ, Act.put, List.setIfInBounds_toArray, List.set_cons_zero, List.set_cons_succ])
          (refine wpAnyH_ready (rs := [6]) (by kernel_rfl) (by simp) ?_; refine AllReadyH.cons rfl (fun K hK => ?_) AllReadyH.nil)
          have hcx := hbx7.cell
          have hfx := hbx7.frozen
          go_simp
          clear hcx hfx
          have hfin := hbx7.set (.slice A7 m7 c7)
          have hbs8 := hbs7.far (p := ⟨w.heap.size + 1, 0, none⟩) (by simp) (.slice A7 m7 c7)
          have hown8 := hown7.kept (grownBy_setCell' w7 (w.heap.size + 1) (.slice A7 m7 c7)) (.inr (hbx7.not_row (by decide) hown7).symm)
          refine hK.out _ _ ⟨⟨_, hfin, rfl⟩, trivial, hbs8⟩ (fun hHeld => ?_)
          clear hK K
          (try simp only [List.getElem_toArray, List.getElem_cons_zero, List.getElem_cons_succ, Act.put, List.setIfInBounds_toArray, List.set_cons_zero, List.set_cons_succ])
          refine wpAnyH_done (by kernel_rfl) ?_ _
          gi_wp2
          refine ⟨((((hkW.trans (KeepsOthers.drew _)).trans (keeps_of_below hb6)).trans hk7).trans (KeepsOthers.setCell _ _ _)).from _, ?_, ⟨⟨_, hfin, by rw [hsn.out, hstep.out]; exact hown8, trivial⟩, hbs8, ?_, ?_⟩⟩
          · exact (Kp2.below (hbW.trans (hb6.mono (Nat.le_trans hWz hWz3)) : Below W0.heap.size W w6) (by omega) (by omega)).trans ((Kp2.below hb7 (by omega) (by omega)).trans ⟨Below.heap_setCell _ _ _ _ (by simp <;> omega), Below.heap_setCell _ _ _ _ (by simp <;> omega), by simp [World.setCell]⟩)
          · exact ((hB.trans ((hbW.trans (hb6.mono (Nat.le_trans hWz hWz3)) : Below W0.heap.size W w6).mono (by omega))).trans (hb7.mono (by omega))).setCell (by simp) _
          · have := hb7.size; simp [World.setCell]; omega
        · go_simp
          refine hK.out _ _ ⟨⟨_, (hbx6.alloc _), rfl⟩, trivial, (hbs6.alloc _)⟩ (fun hHeld => ?_)
          clear hK K
          (try simp only [List.getElem_toArray, List.getElem_cons_zero, List.getElem_cons_succ, Act.put, List.setIfInBounds_toArray, List.set_cons_zero, List.set_cons_succ])
          (refine wpAnyH_ready (rs := [0]) (by kernel_rfl) (by simp) ?_; refine AllReadyH.cons rfl (fun K hK => ?_) AllReadyH.nil)
          have hcx := (hbx6.alloc (.cells #[.int .i64 (far C B F p x.1)] 3)).cell
          go_simp
          clear hcx
          refine hK.out _ _ ⟨⟨_, (hbx6.alloc (.cells #[.int .i64 (far C B F p x.1)] 3)), rfl⟩, trivial, (hbs6.alloc _)⟩ (fun hHeld => ?_)
          clear hK K
          (try simp only [List.getElem_toArray, List.getElem_cons_zero, List.getElem_cons_succ, Act.put, List.setIfInBounds_toArray, List.set_cons_zero, List.set_cons_succ])
          (refine wpAnyH_ready (rs := [5]) (by kernel_rfl) (by simp) ?_; refine AllReadyH.cons rfl (fun K hK => ?_) AllReadyH.nil)
          rw [if_pos (by rfl)]
          refine wp_app1 _ _ (by rfl) W0.heap.size [] (far C B F p x.1) v (by rfl) hown6 (by rfl) (by omega) (by omega) ?_
          intro v7 w7 hown7 hb7 hk7 hx7
          obtain ⟨A7, c7, hv7, _, _⟩ := own_form hown7
          obtain ⟨m7, hm7⟩ : ∃ m : Nat, ([] ++ [far C B F p x.1]).length = m := ⟨_, rfl⟩
          rw [hm7] at hv7
          clear hm7
          subst hv7
          have hbx7 := hx7 _ _ _ hbx6 (by decide)
          have hbs7 := hbs6.below hb7 (by omega)
          refine hK.out _ _ ⟨⟨_, hbx7, rfl⟩, trivial, hbs7⟩ (fun hHeld => ?_)
          clear hK K
          (try simp only [List.getElem_toArray, List.getElem_cons_zero, List.getElem_cons_succ, Act.put, List.setIfInBounds_toArray, List.set_cons_zero, List.set_cons_succ])
          (refine wpAnyH_ready (rs := [6]) (by kernel_rfl) (by simp) ?_; refine AllReadyH.cons rfl (fun K hK => ?_) AllReadyH.nil)
          have hcx := hbx7.cell
          have hfx := hbx7.frozen
          go_simp
          clear hcx hfx
          have hfin := hbx7.set (.slice A7 m7 c7)
          have hbs8 := hbs7.far (p := ⟨w.heap.size + 1, 0, none⟩) (by simp) (.slice A7 m7 c7)
          have hown8 := hown7.kept (grownBy_setCell' w7 (w.heap.size + 1) (.slice A7 m7 c7)) (.inr (hbx7.not_row (by decide) hown7).symm)
          refine hK.out _ _ ⟨⟨_, hfin, rfl⟩, trivial, hbs8⟩ (fun hHeld => ?_)
          clear hK K
          (try simp only [List.getElem_toArray, List.getElem_cons_zero, List.getElem_cons_succ, Act.put, List.setIfInBounds_toArray, List.set_cons_zero, List.set_cons_succ])
          refine wpAnyH_done (by kernel_rfl) ?_ _
          gi_wp2
          refine ⟨((((hkW.trans (KeepsOthers.drew _)).trans (keeps_of_below hb6)).trans hk7).trans (KeepsOthers.setCell _ _ _)).from _, ?_, ⟨⟨_, hfin, by rw [hsn.out, hstep.out]; exact hown8, trivial⟩, hbs8, ?_, ?_⟩⟩
          · exact (Kp2.below (hbW.trans (hb6.mono (Nat.le_trans hWz hWz3)) : Below W0.heap.size W w6) (by omega) (by omega)).trans ((Kp2.below hb7 (by omega) (by omega)).trans ⟨Below.heap_setCell _ _ _ _ (by simp <;> omega), Below.heap_setCell _ _ _ _ (by simp <;> omega), by simp [World.setCell]⟩)
          · exact ((hB.trans ((hbW.trans (hb6.mono (Nat.le_trans hWz hWz3)) : Below W0.heap.size W w6).mono (by omega))).trans (hb7.mono (by omega))).setCell (by simp) _
          · have := hb7.size; simp [World.setCell]; omega
    · have hpos : 0 < st.length := List.length_pos_iff.2 hn
      have hlast : st.getLast hn = st[st.length - 1]'(by omega) := List.getLast_eq_getElem hn
      obtain ⟨ad, rfl, _, hce⟩ := (Ints.of_own hown).get (k := st.length - 1) (by omega)
      rw [← hlast] at hce
      have hlm := hg.2 _ (List.getLast_mem hn)
      have hyes := @aft_yes C B F p st x.1 hn
      have hno := @aft_no C B F p st x.1 hn
      have HY := Lib.hid hyes
      have HN := Lib.hid hno
      generalize st.getLast hn = la at hce hlm HY HN
      clear hlast hyes hno
      obtain ⟨d0, d1, d2, d3, d4⟩ := hb0.svFive
      have hn0 : ((st.length : Int) == 0) = false := by simp; omega
      have hn1 : (0 : Int) ≤ (st.length : Int) - 1 := by omega
      have hn1' : (1 : Int) ≤ (st.length : Int) := by omega
      have hn2 : (st.length : Int) - 1 < (st.length : Int) := by omega
      have hn3 : ((st.length : Int) - 1).toNat = st.length - 1 := by omega
      have hn4 : IntKind.i64.wrap ((st.length : Int) - 1) = (st.length : Int) - 1 := IntWalk.i64_in _ (by omega)
      have hln : (st.length : Int) ≤ 120 := by omega
      gi_wp2
      refine region_in_round (S := fun w' => (w'.cell? ⟨w.heap.size, 0, none⟩ = some (.int .i64 C) ∧ w'.cell? ⟨w.heap.size, 1, none⟩ = some (.int .i64 R) ∧ w'.cell? ⟨w.heap.size, 2, none⟩ = some (.int .i64 B) ∧ w'.cell? ⟨w.heap.size, 3, none⟩ = some (.int .i64 F) ∧ w'.cell? ⟨w.heap.size, 4, none⟩ = some sl) ∧ w'.cell? ⟨w.heap.size + 1, 0, none⟩ = some (.slice (some ad) st.length c') ∧ w'.cell? (ad.add (st.length - 1)) = some (.int .i64 la)) hmx (by kernel_rfl) (fun ⟨_, _, h⟩ => h) (by exact ⟨⟨d0, d1, d2, d3, d4⟩, hvc, hce⟩) (fun hHeld => ?_)
      (refine wpAnyH_take (i := 0) (v := ?_) rfl (by kernel_rfl) (by kernel_rfl) (by kernel_rfl) (fun _ _ _ h => h) (Or.inl ⟨by rfl, ?_⟩) (by assumption) ?_; rotate_left; (· intro w5 hS5; (try dsimp only at hS5); go_simp <;> with_reducible rfl); (try simp only [List.getElem_toArray, List.getElem_cons_zero, Act.put, List.setIfInBounds_toArray, List.set_cons_zero, List.set_cons_succ]))
      (refine wpAnyH_take (i := 1) (v := ?_) rfl (by kernel_rfl) (by kernel_rfl) (by kernel_rfl) (fun _ _ _ h => h) (Or.inl ⟨by rfl, ?_⟩) (by assumption) ?_; rotate_left; (· intro w5 hS5; (try dsimp only at hS5); go_simp <;> with_reducible rfl); (try simp only [List.getElem_toArray, List.getElem_cons_zero, List.getElem_cons_succ, Act.put, List.setIfInBounds_toArray, List.set_cons_zero, List.set_cons_succ]))
      (refine wpAnyH_take (i := 2) (v := ?_) rfl (by kernel_rfl) (by kernel_rfl) (by kernel_rfl) (fun _ _ _ h => h) (Or.inl ⟨by rfl, ?_⟩) (by assumption) ?_; rotate_left; (· intro w5 hS5; (try dsimp only at hS5); go_simp <;> with_reducible rfl); (try simp only [List.getElem_toArray, List.getElem_cons_zero, List.getElem_cons_succ, Act.put, List.setIfInBounds_toArray, List.set_cons_zero, List.set_cons_succ]))
      (refine wpAnyH_take (i := 3) (v := ?_) rfl (by kernel_rfl) (by kernel_rfl) (by kernel_rfl) (fun _ _ _ h => h) (Or.inl ⟨by rfl, ?_⟩) (by assumption) ?_; rotate_left; (· intro w5 hS5; (try dsimp only at hS5); go_simp <;> with_reducible rfl); (try simp only [List.getElem_toArray, List.getElem_cons_zero, List.getElem_cons_succ, Act.put, List.setIfInBounds_toArray, List.set_cons_zero, List.set_cons_succ]))
      (refine wpAnyH_take (i := 4) (v := ?_) rfl (by kernel_rfl) (by kernel_rfl) (by kernel_rfl) (fun _ _ _ h => h) (Or.inl ⟨by rfl, ?_⟩) (by assumption) ?_; rotate_left; (· intro w5 hS5; (try dsimp only at hS5); go_simp <;> with_reducible rfl); (try simp only [List.getElem_toArray, List.getElem_cons_zero, List.getElem_cons_succ, Act.put, List.setIfInBounds_toArray, List.set_cons_zero, List.set_cons_succ]))
      (refine wpAnyH_take (i := 5) (v := ?_) rfl (by kernel_rfl) (by kernel_rfl) (by kernel_rfl) (fun _ _ _ h => h) (Or.inl ⟨by rfl, ?_⟩) (by assumption) ?_; rotate_left; (· intro w5 hS5; (try dsimp only at hS5); go_simp <;> with_reducible rfl); (try simp only [List.getElem_toArray, List.getElem_cons_zero, List.getElem_cons_succ, Act.put, List.setIfInBounds_toArray, List.set_cons_zero, List.set_cons_succ]))
      (refine wpAnyH_take (i := 6) (v := ?_) rfl (by kernel_rfl) (by kernel_rfl) (by kernel_rfl) (fun _ _ _ h => h) (Or.inl ⟨by rfl, ?_⟩) (by assumption) ?_; rotate_left; (· intro w5 hS5; (try dsimp only at hS5); go_simp <;> with_reducible rfl); (try simp only [List.getElem_toArray, List.getElem_cons_zero, List.getElem_cons_succ, Act.put, List.setIfInBounds_toArray, List.set_cons_zero, List.set_cons_succ]))
      (refine wpAnyH_take (i := 7) (v := ?_) rfl (by kernel_rfl) (by kernel_rfl) (by kernel_rfl) (fun _ _ _ h => h) (Or.inl ⟨by rfl, ?_⟩) (by assumption) ?_; rotate_left; (· intro w5 hS5; (try dsimp only at hS5); go_simp <;> with_reducible rfl); (try simp only [List.getElem_toArray, List.getElem_cons_zero, List.getElem_cons_succ, Act.put, List.setIfInBounds_toArray, List.set_cons_zero, List.set_cons_succ]))
      (refine wpAnyH_take (i := 8) (v := ?_) rfl (by kernel_rfl) (by kernel_rfl) (by kernel_rfl) (fun _ _ _ h => h) (Or.inl ⟨by rfl, ?_⟩) (by assumption) ?_; rotate_left; (· intro w5 hS5; (try dsimp only at hS5); go_simp <;> with_reducible rfl); (try simp only [List.getElem_toArray, List.getElem_cons_zero, List.getElem_cons_succ, Act.put, List.setIfInBounds_toArray, List.set_cons_zero, List.set_cons_succ]))
      (refine wpAnyH_take (i := 9) (v := ?_) rfl (by kernel_rfl) (by kernel_rfl) (by kernel_rfl) (fun _ _ _ h => h) (Or.inl ⟨by rfl, ?_⟩) (by assumption) ?_; rotate_left; (· intro w5 hS5; (try dsimp only at hS5); go_simp <;> with_reducible rfl); (try simp only [List.getElem_toArray, List.getElem_cons_zero, List.getElem_cons_succ, Act.put, List.setIfInBounds_toArray, List.set_cons_zero, List.set_cons_succ]))
      (refine wpAnyH_take (i := 10) (v := ?_) rfl (by kernel_rfl) (by kernel_rfl) (by kernel_rfl) (fun _ _ _ h => h) (Or.inl ⟨by rfl, ?_⟩) (by assumption) ?_; rotate_left; (· intro w5 hS5; (try dsimp only at hS5); go_simp <;> with_reducible rfl); (try simp only [List.getElem_toArray, List.getElem_cons_zero, List.getElem_cons_succ, Act.put, List.setIfInBounds_toArray, List.set_cons_zero, List.set_cons_succ]))
      (refine wpAnyH_ready (rs := [11]) (by kernel_rfl) (by simp) ?_; refine AllReadyH.cons rfl (fun K hK => ?_) AllReadyH.nil)
      go_simp
      refine (reaches_any C R B F sl la x.1 _ h1 h2 x.2.1 x.2.2 hlm.1 hlm.2 h7 h8 h9).mono ?_
      rintro e w3 ⟨rfl, hb3⟩
      have hWz3 : W.heap.size ≤ w3.heap.size := hb3.size
      have hbx : Boxed w3 (w.heap.size + 1) 22 (.slice (some ad) st.length c') := (hb3.block _ hv.lt).trans hv
      have hbs : Blk w3 w.heap.size 106 (sv C R B F sl p q) := (hb3.block _ hb0.lt).trans hb0
      have hown := own_below (w := W.drew) hown hb3
      have hce3 := (hb3.cell (p := ad.add (st.length - 1)) (World.block_lt_of_cell? W _ hce)).trans hce
      refine hK.out _ _ ⟨hbs.svFive, hbx.cell, hce3⟩ (fun hHeld => ?_)
      clear hK K
      (try simp only [List.getElem_toArray, List.getElem_cons_zero, List.getElem_cons_succ, Act.put, List.setIfInBounds_toArray, List.set_cons_zero, List.set_cons_succ])
      (refine wpAnyH_take (i := 12) (v := ?_) rfl (by kernel_rfl) (by kernel_rfl) (by kernel_rfl) (fun _ _ _ h => h) (Or.inl ⟨by rfl, ?_⟩) (by assumption) ?_; rotate_left; (· intro w5 hS5; (try dsimp only at hS5); go_simp <;> with_reducible rfl); (try simp only [List.getElem_toArray, List.getElem_cons_zero, List.getElem_cons_succ, Act.put, List.setIfInBounds_toArray, List.set_cons_zero, List.set_cons_succ]))
      (refine wpAnyH_take (i := 13) (v := ?_) rfl (by kernel_rfl) (by kernel_rfl) (by kernel_rfl) (fun _ _ _ h => h) (Or.inl ⟨by rfl, ?_⟩) (by assumption) ?_; rotate_left; (· intro w5 hS5; (try dsimp only at hS5); go_simp <;> with_reducible rfl); (try simp only [List.getElem_toArray, List.getElem_cons_zero, List.getElem_cons_succ, Act.put, List.setIfInBounds_toArray, List.set_cons_zero, List.set_cons_succ]))
      refine wpAnyH_done (by kernel_rfl) ?_ _
      clear hHeld
      have hkW : KeepsOthers W w3 := (KeepsOthers.drew W).trans (keeps_of_below hb3)
      have hbW : Below W0.heap.size W w3 := (Below.refl _ _).drew.trans (hb3.mono hWz)
      clear d0 d1 d2 d3 d4 hvc hvf hce3 hv hb0
      cases hr : rch C B F la x.1 with
      | true =>
        have hst := Lib.hid (HY.out hr)
        clear hr HY HN
        gi_wp2
        refine ⟨hkW.from _, Kp2.below hbW (by omega) (by omega), ⟨⟨_, hbx, by rw [hsn.out, hst.out]; exact hown, trivial⟩, hbs, ?_, ?_⟩⟩
        · exact hB.trans (hbW.mono (by omega))
        · omega
      | false =>
        have hstep := Lib.hid (HN.out hr)
        clear hr HY HN
        gi_wp2
        obtain ⟨v, hve⟩ : ∃ v : Value, .slice (some ad) st.length c' = v := ⟨_, rfl⟩
        rw [hve] at hbx hown
        have HV := Lib.hid hve
        clear hve
        have hbW : Below W0.heap.size W w3.drew := hbW.drew
        refine region_in_round (S := fun w' => BlkN w' (w.heap.size + 1) 22 1 ∧ True ∧ Blk w' w.heap.size 106 (sv C R B F sl p q)) hmx (by kernel_rfl) (fun ⟨_, _, h⟩ => h) ⟨⟨_, hbx, rfl⟩, trivial, hbs⟩ (fun hHeld => ?_)
        (refine wpAnyH_take (i := 1) (v := .agg (sv C R B F sl p q)) rfl (by kernel_rfl) (by kernel_rfl) (by kernel_rfl) (fun _ _ _ h => h) (yieldsIf_load_row (by rfl) 106 _ rfl _ rfl 106 _ (0, 0) _ (fun w5 hS5 => hS5.2.2) Try.underlying106 rfl (info106 _ _ _ _ _ _ _)) (by assumption) ?_; (try simp only [List.getElem_toArray, List.getElem_cons_zero, List.getElem_cons_succ, Act.put, List.setIfInBounds_toArray, List.set_cons_zero, List.set_cons_succ]))
        (refine wpAnyH_take (i := 2) (v := ?_) rfl (by kernel_rfl) (by kernel_rfl) (by kernel_rfl) (fun _ _ _ h => h) (Or.inl ⟨by rfl, ?_⟩) (by assumption) ?_; rotate_left; (· intro w5 hS5; (try dsimp only at hS5); go_simp <;> with_reducible rfl); (try simp only [List.getElem_toArray, List.getElem_cons_zero, List.getElem_cons_succ, Act.put, List.setIfInBounds_toArray, List.set_cons_zero, List.set_cons_succ]))
        refine wpAnyH_ready (rs := [0, 3]) (by kernel_rfl) (by simp) ?_
        refine AllReadyH.cons rfl (fun K hK => ?_) (AllReadyH.cons rfl (fun K hK => ?_) AllReadyH.nil)
        · have hcx := hbx.cell
          go_simp
          clear hcx
          refine hK.out _ _ ⟨⟨_, hbx, rfl⟩, trivial, hbs⟩ (fun hHeld => ?_)
          clear hK K
          (try simp only [List.getElem_toArray, List.getElem_cons_zero, List.getElem_cons_succ, Act.put, List.setIfInBounds_toArray, List.set_cons_zero, List.set_cons_succ])
          (refine wpAnyH_ready (rs := [3]) (by kernel_rfl) (by simp) ?_; refine AllReadyH.cons rfl (fun K hK => ?_) AllReadyH.nil)
          go_simp
          refine (farthest_any C R B F sl p q x.1 _ h1 h2 x.2.1 x.2.2 h7 h8 h9).mono ?_
          rintro e w6 ⟨rfl, hb6⟩
          have hz6 : W.heap.size ≤ w6.heap.size := Nat.le_trans hWz3 hb6.size
          have hbx6 : Boxed w6 (w.heap.size + 1) 22 v := (hb6.block _ hbx.lt).trans hbx
          have hbs6 : Blk w6 w.heap.size 106 (sv C R B F sl p q) := (hb6.block _ hbs.lt).trans hbs
          have hown6 := own_below (w := w3.drew) hown hb6
          refine hK.out _ _ ⟨⟨_, hbx6, rfl⟩, trivial, hbs6⟩ (fun hHeld => ?_)
          clear hK K
          (try simp only [List.getElem_toArray, List.getElem_cons_zero, List.getElem_cons_succ, Act.put, List.setIfInBounds_toArray, List.set_cons_zero, List.set_cons_succ])
          (refine wpAnyH_ready (rs := [4]) (by kernel_rfl) (by simp) ?_; refine AllReadyH.cons rfl (fun K hK => ?_) AllReadyH.nil)
          go_simp
          refine hK.out _ _ ⟨⟨_, (hbx6.alloc _), rfl⟩, trivial, (hbs6.alloc _)⟩ (fun hHeld => ?_)
          clear hK K
          (try simp only [List.getElem_toArray, List.getElem_cons_zero, List.getElem_cons_succ, Act.put, List.setIfInBounds_toArray, List.set_cons_zero, List.set_cons_succ])
          (refine wpAnyH_ready (rs := [5]) (by kernel_rfl) (by simp) ?_; refine AllReadyH.cons rfl (fun K hK => ?_) AllReadyH.nil)
          rw [if_pos (by rfl)]
          refine wp_app1 _ _ (by rfl) W0.heap.size st (far C B F p x.1) v (by rfl) hown6 (by rfl) (by omega) (by omega) ?_
          intro v7 w7 hown7 hb7 hk7 hx7
          obtain ⟨A7, c7, hv7, _, _⟩ := own_form hown7
          obtain ⟨m7, hm7⟩ : ∃ m : Nat, (st ++ [far C B F p x.1]).length = m := ⟨_, rfl⟩
          rw [hm7] at hv7
          clear hm7
          subst hv7
          have hbx7 := hx7 _ _ _ hbx6 (by decide)
          have hbs7 := hbs6.below hb7 (by omega)
          refine hK.out _ _ ⟨⟨_, hbx7, rfl⟩, trivial, hbs7⟩ (fun hHeld => ?_)
          clear hK K
          (try simp only [List.getElem_toArray, List.getElem_cons_zero, List.getElem_cons_succ, Act.put, List.setIfInBounds_toArray, List.set_cons_zero, List.set_cons_succ])
          (refine wpAnyH_ready (rs := [6]) (by kernel_rfl) (by simp) ?_; refine AllReadyH.cons rfl (fun K hK => ?_) AllReadyH.nil)
          have hcx := hbx7.cell
          have hfx := hbx7.frozen
          go_simp
          clear hcx hfx
          have hfin := hbx7.set (.slice A7 m7 c7)
          have hbs8 := hbs7.far (p := ⟨w.heap.size + 1, 0, none⟩) (by simp) (.slice A7 m7 c7)
          have hown8 := hown7.kept (grownBy_setCell' w7 (w.heap.size + 1) (.slice A7 m7 c7)) (.inr (hbx7.not_row (by decide) hown7).symm)
          refine hK.out _ _ ⟨⟨_, hfin, rfl⟩, trivial, hbs8⟩ (fun hHeld => ?_)
          clear hK K
          (try simp only [List.getElem_toArray, List.getElem_cons_zero, List.getElem_cons_succ, Act.put, List.setIfInBounds_toArray, List.set_cons_zero, List.set_cons_succ])
          refine wpAnyH_done (by kernel_rfl) ?_ _
          gi_wp2
          refine ⟨((((hkW.trans (KeepsOthers.drew _)).trans (keeps_of_below hb6)).trans hk7).trans (KeepsOthers.setCell _ _ _)).from _, ?_, ⟨⟨_, hfin, by rw [hsn.out, hstep.out]; exact hown8, trivial⟩, hbs8, ?_, ?_⟩⟩
          · exact (Kp2.below (hbW.trans (hb6.mono (Nat.le_trans hWz hWz3)) : Below W0.heap.size W w6) (by omega) (by omega)).trans ((Kp2.below hb7 (by omega) (by omega)).trans ⟨Below.heap_setCell _ _ _ _ (by simp <;> omega), Below.heap_setCell _ _ _ _ (by simp <;> omega), by simp [World.setCell]⟩)
          · exact ((hB.trans ((hbW.trans (hb6.mono (Nat.le_trans hWz hWz3)) : Below W0.heap.size W w6).mono (by omega))).trans (hb7.mono (by omega))).setCell (by simp) _
          · have := hb7.size; simp [World.setCell]; omega
        · go_simp
          refine (farthest_any C R B F sl p q x.1 _ h1 h2 x.2.1 x.2.2 h7 h8 h9).mono ?_
          rintro e w6 ⟨rfl, hb6⟩
          have hz6 : W.heap.size ≤ w6.heap.size := Nat.le_trans hWz3 hb6.size
          have hbx6 : Boxed w6 (w.heap.size + 1) 22 v := (hb6.block _ hbx.lt).trans hbx
          have hbs6 : Blk w6 w.heap.size 106 (sv C R B F sl p q) := (hb6.block _ hbs.lt).trans hbs
          have hown6 := own_below (w := w3.drew) hown hb6
          refine hK.out _ _ ⟨⟨_, hbx6, rfl⟩, trivial, hbs6⟩ (fun hHeld => ?_)
          clear hK K
          (try simp only [List.getElem_toArray, List.getElem_cons_zero, List.getElem_cons_succ, Act.put, List.setIfInBounds_toArray, List.set_cons_zero, List.set_cons_succ])
          refine wpAnyH_ready (rs := [0, 4]) (by kernel_rfl) (by simp) ?_
          refine AllReadyH.cons rfl (fun K hK => ?_) (AllReadyH.cons rfl (fun K hK => ?_) AllReadyH.nil)
          · have hcx := hbx6.cell
            go_simp
            clear hcx
            refine hK.out _ _ ⟨⟨_, hbx6, rfl⟩, trivial, hbs6⟩ (fun hHeld => ?_)
            clear hK K
            (try simp only [List.getElem_toArray, List.getElem_cons_zero, List.getElem_cons_succ, Act.put, List.setIfInBounds_toArray, List.set_cons_zero, List.set_cons_succ])
            (refine wpAnyH_ready (rs := [4]) (by kernel_rfl) (by simp) ?_; refine AllReadyH.cons rfl (fun K hK => ?_) AllReadyH.nil)
            go_simp
            refine hK.out _ _ ⟨⟨_, (hbx6.alloc _), rfl⟩, trivial, (hbs6.alloc _)⟩ (fun hHeld => ?_)
            clear hK K
            (try simp only [List.getElem_toArray, List.getElem_cons_zero, List.getElem_cons_succ, Act.put, List.setIfInBounds_toArray, List.set_cons_zero, List.set_cons_succ])
            (refine wpAnyH_ready (rs := [5]) (by kernel_rfl) (by simp) ?_; refine AllReadyH.cons rfl (fun K hK => ?_) AllReadyH.nil)
            rw [if_pos (by rfl)]
            refine wp_app1 _ _ (by rfl) W0.heap.size st (far C B F p x.1) v (by rfl) hown6 (by rfl) (by omega) (by omega) ?_
            intro v7 w7 hown7 hb7 hk7 hx7
            obtain ⟨A7, c7, hv7, _, _⟩ := own_form hown7
            obtain ⟨m7, hm7⟩ : ∃ m : Nat, (st ++ [far C B F p x.1]).length = m := ⟨_, rfl⟩
            rw [hm7] at hv7
            clear hm7
            subst hv7
            have hbx7 := hx7 _ _ _ hbx6 (by decide)
            have hbs7 := hbs6.below hb7 (by omega)
            refine hK.out _ _ ⟨⟨_, hbx7, rfl⟩, trivial, hbs7⟩ (fun hHeld => ?_)
            clear hK K
            (try simp only [List.getElem_toArray, List.getElem_cons_zero, List.getElem_cons_succ, Act.put, List.setIfInBounds_toArray, List.set_cons_zero, List.set_cons_succ])
            (refine wpAnyH_ready (rs := [6]) (by kernel_rfl) (by simp) ?_; refine AllReadyH.cons rfl (fun K hK => ?_) AllReadyH.nil)
            have hcx := hbx7.cell
            have hfx := hbx7.frozen
            go_simp
            clear hcx hfx
            have hfin := hbx7.set (.slice A7 m7 c7)
            have hbs8 := hbs7.far (p := ⟨w.heap.size + 1, 0, none⟩) (by simp) (.slice A7 m7 c7)
            have hown8 := hown7.kept (grownBy_setCell' w7 (w.heap.size + 1) (.slice A7 m7 c7)) (.inr (hbx7.not_row (by decide) hown7).symm)
            refine hK.out _ _ ⟨⟨_, hfin, rfl⟩, trivial, hbs8⟩ (fun hHeld => ?_)
            clear hK K
            (try simp only [List.getElem_toArray, List.getElem_cons_zero, List.getElem_cons_succ, Act.put, List.setIfInBounds_toArray, List.set_cons_zero, List.set_cons_succ])
            refine wpAnyH_done (by kernel_rfl) ?_ _
            gi_wp2
            refine ⟨((((hkW.trans (KeepsOthers.drew _)).trans (keeps_of_below hb6)).trans hk7).trans (KeepsOthers.setCell _ _ _)).from _, ?_, ⟨⟨_, hfin, by rw [hsn.out, hstep.out]; exact hown8, trivial⟩, hbs8, ?_, ?_⟩⟩
            · exact (Kp2.below (hbW.trans (hb6.mono (Nat.le_trans hWz hWz3)) : Below W0.heap.size W w6) (by omega) (by omega)).trans ((Kp2.below hb7 (by omega) (by omega)).trans ⟨Below.heap_setCell _ _ _ _ (by simp <;> omega), Below.heap_setCell _ _ _ _ (by simp <;> omega), by simp [World.setCell]⟩)
            · exact ((hB.trans ((hbW.trans (hb6.mono (Nat.le_trans hWz hWz3)) : Below W0.heap.size W w6).mono (by omega))).trans (hb7.mono (by omega))).setCell (by simp) _
            · have := hb7.size; simp [World.setCell]; omega
          · go_simp
            refine hK.out _ _ ⟨⟨_, (hbx6.alloc _), rfl⟩, trivial, (hbs6.alloc _)⟩ (fun hHeld => ?_)
            clear hK K
            (try simp only [List.getElem_toArray, List.getElem_cons_zero, List.getElem_cons_succ, Act.put, List.setIfInBounds_toArray, List.set_cons_zero, List.set_cons_succ])
            (refine wpAnyH_ready (rs := [0]) (by kernel_rfl) (by simp) ?_; refine AllReadyH.cons rfl (fun K hK => ?_) AllReadyH.nil)
            have hcx := (hbx6.alloc (.cells #[.int .i64 (far C B F p x.1)] 3)).cell
            go_simp
            clear hcx
            refine hK.out _ _ ⟨⟨_, (hbx6.alloc (.cells #[.int .i64 (far C B F p x.1)] 3)), rfl⟩, trivial, (hbs6.alloc _)⟩ (fun hHeld => ?_)
            clear hK K
            (try simp only [List.getElem_toArray, List.getElem_cons_zero, List.getElem_cons_succ, Act.put, List.setIfInBounds_toArray, List.set_cons_zero, List.set_cons_succ])
            (refine wpAnyH_ready (rs := [5]) (by kernel_rfl) (by simp) ?_; refine AllReadyH.cons rfl (fun K hK => ?_) AllReadyH.nil)
            rw [if_pos (by rfl)]
            refine wp_app1 _ _ (by rfl) W0.heap.size st (far C B F p x.1) v (by rfl) hown6 (by rfl) (by omega) (by omega) ?_
            intro v7 w7 hown7 hb7 hk7 hx7
            obtain ⟨A7, c7, hv7, _, _⟩ := own_form hown7
            obtain ⟨m7, hm7⟩ : ∃ m : Nat, (st ++ [far C B F p x.1]).length = m := ⟨_, rfl⟩
            rw [hm7] at hv7
            clear hm7
            subst hv7
            have hbx7 := hx7 _ _ _ hbx6 (by decide)
            have hbs7 := hbs6.below hb7 (by omega)
            refine hK.out _ _ ⟨⟨_, hbx7, rfl⟩, trivial, hbs7⟩ (fun hHeld => ?_)
            clear hK K
            (try simp only [List.getElem_toArray, List.getElem_cons_zero, List.getElem_cons_succ, Act.put, List.setIfInBounds_toArray, List.set_cons_zero, List.set_cons_succ])
            (refine wpAnyH_ready (rs := [6]) (by kernel_rfl) (by simp) ?_; refine AllReadyH.cons rfl (fun K hK => ?_) AllReadyH.nil)
            have hcx := hbx7.cell
            have hfx := hbx7.frozen
            go_simp
            clear hcx hfx
            have hfin := hbx7.set (.slice A7 m7 c7)
            have hbs8 := hbs7.far (p := ⟨w.heap.size + 1, 0, none⟩) (by simp) (.slice A7 m7 c7)
            have hown8 := hown7.kept (grownBy_setCell' w7 (w.heap.size + 1) (.slice A7 m7 c7)) (.inr (hbx7.not_row (by decide) hown7).symm)
            refine hK.out _ _ ⟨⟨_, hfin, rfl⟩, trivial, hbs8⟩ (fun hHeld => ?_)
            clear hK K
            (try simp only [List.getElem_toArray, List.getElem_cons_zero, List.getElem_cons_succ, Act.put, List.setIfInBounds_toArray, List.set_cons_zero, List.set_cons_succ])
            refine wpAnyH_done (by kernel_rfl) ?_ _
            gi_wp2
            refine ⟨((((hkW.trans (KeepsOthers.drew _)).trans (keeps_of_below hb6)).trans hk7).trans (KeepsOthers.setCell _ _ _)).from _, ?_, ⟨⟨_, hfin, by rw [hsn.out, hstep.out]; exact hown8, trivial⟩, hbs8, ?_, ?_⟩⟩
            · exact (Kp2.below (hbW.trans (hb6.mono (Nat.le_trans hWz hWz3)) : Below W0.heap.size W w6) (by omega) (by omega)).trans ((Kp2.below hb7 (by omega) (by omega)).trans ⟨Below.heap_setCell _ _ _ _ (by simp <;> omega), Below.heap_setCell _ _ _ _ (by simp <;> omega), by simp [World.setCell]⟩)
            · exact ((hB.trans ((hbW.trans (hb6.mono (Nat.le_trans hWz hWz3)) : Below W0.heap.size W w6).mono (by omega))).trans (hb7.mono (by omega))).setCell (by simp) _
            · have := hb7.size; simp [World.setCell]; omega
  case done =>
    rintro D ys W hD hys ⟨⟨v, hv, hown, _⟩, hb0, hB, hWz⟩ hK
    have hc := hv.cell
    have hres : aftS C B F p ys = afters C B F p q s := by unfold aftS afters; rw [hys]
    rw [hres] at hown
    gi_wp2
    refine ⟨by simp, .inl ⟨_, _, rfl, run_takeDeferred hK, ?_⟩⟩
    refine ⟨_, results_tmp rfl _ _ _, ?_⟩
    obtain ⟨A7, c7, hv7, _, _⟩ := own_form hown
    subst hv7
    exact ⟨_, _, rfl, own_less (ownsRow_putObj hown _ hK rfl) (by omega), hB.trans (belowK_b (w := w) (Nat.le_refl _) W D _ _ (by omega) hK rfl rfl)⟩
  case stop =>
    rintro D c pre W _ _ h _
    exact h.elim

theorem after_any (C R B F : Int) (sl : Value) (p q : Nat → Bool) (s : Int) (w : World) (h1 : 1 ≤ C) (h2 : C ≤ 120) (h3 : 0 ≤ s) (h4 : s < C) (h7 : 0 ≤ B) (h8 : 0 ≤ F) (h9 : F < C - B) :
    Calls Try.prog 97 #[.agg (sv C R B F sl p q), .int .i64 s] w (RetInts w (afters C B F p q s)) :=
  (after_own C R B F sl p q s w h1 h2 h3 h4 h7 h8 h9).mono fun _ _ h => h.ints

end Go.Proofs.Ytnjmkdgglpcfpaa
