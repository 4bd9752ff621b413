import Derived.Test.YtbhiphjifdnhmaaGreatDoorK22
import Derived.Test.YtbhiphjifdnhmaaGreatDoorM8
import Derived.Test.YtbhiphjifdnhmaaGreatDoorOBefore
import Derived.Test.YtbhiphjifdnhmaaGreatDoorONear
import Derived.Test.YtbhiphjifdnhmaaGreatDoorOIn
set_option linter.unusedSimpArgs false
set_option linter.unusedVariables false
/- What is told of the chapter's calendar. -/
namespace Go.Proofs.YtbhiphjifdnhmaaGreatDoor
open Go.RowKit Go.Maps

theorem maxD_mem (m : Df) (l : List Df) : maxD m l ∈ m :: l := by
  induction l generalizing m with
  | nil => simp [maxD]
  | cons x t ih =>
    have : maxD m (x :: t) = maxD (if m.known < x.known then x else m) t := rfl
    rw [this]
    have h := ih (if m.known < x.known then x else m)
    rcases List.mem_cons.1 h with h | h
    · rw [h]
      split <;> simp
    · exact List.mem_cons_of_mem _ (List.mem_cons_of_mem _ h)
theorem bookF_mem {l : List Df} {known : Int} {s : List UInt8} {d : Df} (h : bookF l known s = some d) : d ∈ l := by
  unfold bookF at h
  have hf : ∀ x, x ∈ grpL l known s → x ∈ l := fun x hx => (List.mem_filter.1 hx).1
  cases hg : grpL l known s with
  | nil => rw [hg] at h; cases h
  | cons x t =>
    rw [hg] at h
    injection h with h
    rw [hg] at hf
    exact hf d (h ▸ maxD_mem x t)
theorem book_sizes {l : List Df} (hl : ∀ d ∈ l, d.of.size ≤ maxLen ∧ d.wth.size ≤ maxLen) (known : Int) (s : List UInt8) : ((bookF l known s).getD df0).of.size ≤ maxLen ∧ ((bookF l known s).getD df0).wth.size ≤ maxLen := by
  cases h : bookF l known s with
  | none => exact ⟨Nat.zero_le _, Nat.zero_le _⟩
  | some d => exact hl d (bookF_mem h)
theorem nmL_size : nmL.size ≤ maxLen := by decide
theorem nmH_size : nmH.size ≤ maxLen := by decide
theorem vok_A : vok dayA = true := around_vok (by kernel_rfl)
theorem vok_7 : vok (aroundR 7 9 0) = true := around_vok (by kernel_rfl)
theorem vok_214 : vok (sharpR 214) = true := around_vok (by kernel_rfl)
theorem year_sizes : ∀ d ∈ yearL, d.of.size ≤ maxLen ∧ d.wth.size ≤ maxLen := by
  intro d hd
  simp only [yearL, List.mem_cons, List.not_mem_nil, or_false] at hd
  rcases hd with rfl | rfl | rfl <;> exact ⟨by decide, by decide⟩
theorem year_cal (A : Option Addr) : CalOk A 3 yearL where
  len := by decide
  lenCap := by decide
  capMax := by decide
  form := by
    intro d hd w
    simp only [yearL, List.mem_cons, List.not_mem_nil, or_false] at hd
    rcases hd with rfl | rfl | rfl
    · exact formed_is y0 w nmL_size (by kernel_rfl) (by kernel_rfl) rfl rfl rfl vok_A
    · exact formed_after y1 w nmH_size nmL_size (by kernel_rfl) (by kernel_rfl) rfl (by kernel_rfl) rfl vok_7
    · exact formed_is y2 w nmL_size (by kernel_rfl) (by kernel_rfl) rfl rfl rfl vok_214
  twice := by
    intro i j x y hji hx hy
    match i, j, hji with
    | 1, 0, _ =>
      obtain rfl : y1 = x := by simpa [yearL] using hx
      obtain rfl : y0 = y := by simpa [yearL] using hy
      decide
    | 2, 0, _ =>
      obtain rfl : y2 = x := by simpa [yearL] using hx
      obtain rfl : y0 = y := by simpa [yearL] using hy
      decide
    | 2, 1, _ =>
      obtain rfl : y2 = x := by simpa [yearL] using hx
      obtain rfl : y1 = y := by simpa [yearL] using hy
      decide
    | i + 3, _, _ => simp [yearL] at hx
  names := by
    intro d hd
    simp only [yearL, List.mem_cons, List.not_mem_nil, or_false] at hd
    rcases hd with rfl | rfl | rfl
    · exact nmL_size
    · exact nmH_size
    · exact nmL_size
theorem parts_H2 : partsL (bookF yearL 2) nmH.data.toList = [nmL] := by kernel_rfl
theorem parts_L2 : partsL (bookF yearL 2) nmL.data.toList = [] := by kernel_rfl
theorem parts_H5 : partsL (bookF yearL 5) nmH.data.toList = [nmL] := by kernel_rfl
theorem parts_L5 : partsL (bookF yearL 5) nmL.data.toList = [] := by kernel_rfl
theorem parts_H1 : partsL (bookF yearL 1) nmH.data.toList = [] := by kernel_rfl
theorem parts_H0 : partsL (bookF yearL 0) nmH.data.toList = [] := by kernel_rfl
def v2 : Nat → Int := meanR (bookF yearL 2) true [nmL, nmH] nmH
def v5 : Nat → Int := meanR (bookF yearL 5) true [nmL, nmH] nmH
theorem mean_flat1 (known : Int) (hp : partsL (bookF yearL known) nmH.data.toList = [nmL]) (hq : partsL (bookF yearL known) nmL.data.toList = []) (hw : wholeB (bookF yearL known) ([nmL] ++ [nmH]) = true) :
    MeanIs yearL nmH known (meanR (bookF yearL known) true [nmL, nmH] nmH) (meanE (bookF yearL known) true [nmL, nmH]) := fun m k w hk hm => by
  refine meaning_any (bookF yearL known) m k nmH true [nmL, nmH] w hm nmH_size ?_ (by decide) (book_sizes year_sizes known) (fun W hW => ?_) (fun _ W hW => ?_)
  · intro x hx
    simp only [List.mem_cons, List.not_mem_nil, or_false] at hx
    rcases hx with rfl | rfl
    · exact nmL_size
    · exact nmH_size
  · have h1 : ∀ x ∈ [nmL], x.size ≤ maxLen := fun x hx => by
      obtain rfl : x = nmL := by simpa using hx
      exact nmL_size
    have := whole_any (bookF yearL known) m k nmH [nmL] W hW nmH_size h1 (by decide) (needs_flat1 _ m k nmH nmL W hW nmH_size nmL_size hp hq)
    rwa [hw] at this
  · exact order_any (bookF yearL known) m k nmH [nmL, nmH] W hW (visits_one _ nmH nmL nmH_size hp nmL_size hq (by decide))
theorem mean_flat0 (known : Int) (hp : partsL (bookF yearL known) nmH.data.toList = []) (hw : wholeB (bookF yearL known) ([] ++ [nmH]) = false) : MeanIs yearL nmH known zeroV 5 := fun m k w hk hm => by
  refine meaning_any (bookF yearL known) m k nmH false [] w hm nmH_size (by simp) (by decide) (book_sizes year_sizes known) (fun W hW => ?_) (fun e => by cases e)
  have := whole_any (bookF yearL known) m k nmH [] W hW nmH_size (by simp) (by decide) (needs_flat0 _ m k nmH W hW nmH_size hp)
  rwa [hw] at this
theorem mean_2 : MeanIs yearL nmH 2 v2 0 := by
  have h := mean_flat1 2 parts_H2 parts_L2 (by kernel_rfl)
  rwa [show meanE (bookF yearL 2) true [nmL, nmH] = 0 by kernel_rfl] at h
theorem mean_5 : MeanIs yearL nmH 5 v5 0 := by
  have h := mean_flat1 5 parts_H5 parts_L5 (by kernel_rfl)
  rwa [show meanE (bookF yearL 5) true [nmL, nmH] = 0 by kernel_rfl] at h
theorem mean_1 : MeanIs yearL nmH 1 zeroV 5 := mean_flat0 1 parts_H1 (by kernel_rfl)
theorem mean_0 : MeanIs yearL nmH 0 zeroV 5 := mean_flat0 0 parts_H0 (by kernel_rfl)
theorem needs_2 : NeedsIs yearL nmH 2 [nmL] := fun m k w _ hm => needs_flat1 _ m k nmH nmL w hm nmH_size nmL_size parts_H2 parts_L2
theorem v2_span : v2 22 = 220 ∧ v2 23 = 222 := ⟨by kernel_rfl, by kernel_rfl⟩
theorem v5_span : v5 0 = 221 ∧ v5 1 = 223 := ⟨by kernel_rfl, by kernel_rfl⟩
def yearM : Int → (Nat → Int) × Int := fun d => if d = 2 then (v2, 0) else if d = 5 then (v5, 0) else (zeroV, 5)
theorem year_days : ([0, 2, 5] : List Int) = cmpt (srt (yearL.map (·.known))) := by
  have h : srt (yearL.map (·.known)) = [0, 2, 5] := by
    unfold srt
    exact List.mergeSort_of_pairwise (by decide)
  rw [h]
  rfl
theorem year_M : ∀ d ∈ ([0, 2, 5] : List Int), MeanIs yearL nmH d (yearM d).1 (yearM d).2 := by
  intro d hd
  simp only [List.mem_cons, List.not_mem_nil, or_false] at hd
  rcases hd with rfl | rfl | rfl
  · exact mean_0
  · exact mean_2
  · exact mean_5
theorem year_chg : chgL yearM [0, 2, 5] (zeroV, 5) = [2, 5] := by kernel_rfl
end Go.Proofs.YtbhiphjifdnhmaaGreatDoor

/- The facts of the chapter's examples, and blocks by a list. -/
namespace Go.Proofs.YtbhiphjifdnhmaaGreatDoor
open Go.RowKit Go.Maps

/-- what the blocks of a list hold -/
def AllB (w : World) (L : List (Nat × TypeId × Array Value)) : Prop := ∀ q ∈ L, Blk w q.1 q.2.1 q.2.2
theorem AllB.nil (w : World) : AllB w [] := fun _ h => by simp at h
theorem AllB.below {w w' : World} {L : List (Nat × TypeId × Array Value)} (h : AllB w L) (hb : Below w.heap.size w w') : AllB w' L := fun q hq => (h q hq).below hb (h q hq).lt
theorem AllB.get {w : World} {L : List (Nat × TypeId × Array Value)} (h : AllB w L) (i : Nat) {q : Nat × TypeId × Array Value} (e : L[i]? = some q) : Blk w q.1 q.2.1 q.2.2 := h q (List.mem_of_getElem? e)
theorem AllB.drew {w : World} {L : List (Nat × TypeId × Array Value)} (h : AllB w L) : AllB w.drew L := h
theorem AllB.push {w w' : World} {L : List (Nat × TypeId × Array Value)} (h : AllB w L) (hb : Below w.heap.size w w') {g : Nat} {t : TypeId} {cs : Array Value} (k : Blk w' g t cs) : AllB w' (L ++ [(g, t, cs)]) := fun q hq => by
  rcases List.mem_append.1 hq with h1 | h1
  · exact h.below hb q h1
  · obtain rfl : q = (g, t, cs) := by simpa using h1
    exact k
theorem AllB.ne {w : World} {L : List (Nat × TypeId × Array Value)} (h : AllB w L) : ∀ q ∈ L, q.1 ≠ w.heap.size := fun q hq => Nat.ne_of_lt (h q hq).lt
theorem AllB.setRow {w : World} {L : List (Nat × TypeId × Array Value)} (h : AllB w L) {g : Nat} (hg : ∀ q ∈ L, q.1 ≠ g) (cs : Array Value) : AllB (w.setRow g cs) L := fun q hq => (h q hq).farRow (hg q hq) cs
theorem AllB.snoc {w : World} {L : List (Nat × TypeId × Array Value)} (h : AllB w L) {g : Nat} {t : TypeId} {cs : Array Value} (k : Blk w g t cs) : AllB w (L ++ [(g, t, cs)]) := fun q hq => by
  rcases List.mem_append.1 hq with h1 | h1
  · exact h q h1
  · obtain rfl : q = (g, t, cs) := by simpa using h1
    exact k
theorem info48 (v : Vd) : (Tryz.prog.info? 48).map (·.size) = some (vcs v).size := by
  show _ = some 6; kernel_rfl
theorem vcs_one (v : Vd) : (vcs v).all (·.oneCell') = true := by simp [vcs, Value.oneCell']
theorem new26 (w : World) (c : Nat → Int) : Blk ((w.alloc (.cells #[.int .i64 0, .int .i64 0, .int .i64 0, .int .i64 0, .int .i64 0, .int .i64 0, .int .i64 0, .int .i64 0, .int .i64 0, .int .i64 0, .int .i64 0, .int .i64 0, .int .i64 0, .int .i64 0, .int .i64 0, .int .i64 0, .int .i64 0, .int .i64 0, .int .i64 0, .int .i64 0, .int .i64 0, .int .i64 0, .int .i64 0, .int .i64 0] 26)).setRow w.heap.size (va c)) w.heap.size 26 (va c) := by
  have k : Blk (w.alloc (.cells #[.int .i64 0, .int .i64 0, .int .i64 0, .int .i64 0, .int .i64 0, .int .i64 0, .int .i64 0, .int .i64 0, .int .i64 0, .int .i64 0, .int .i64 0, .int .i64 0, .int .i64 0, .int .i64 0, .int .i64 0, .int .i64 0, .int .i64 0, .int .i64 0, .int .i64 0, .int .i64 0, .int .i64 0, .int .i64 0, .int .i64 0, .int .i64 0] 26)) w.heap.size 26 (va zeroV) := by rw [z24]; exact Blk.new _ _ _
  exact k.setRow _
theorem new26z (w : World) : Blk (w.alloc (.cells #[.int .i64 0, .int .i64 0, .int .i64 0, .int .i64 0, .int .i64 0, .int .i64 0, .int .i64 0, .int .i64 0, .int .i64 0, .int .i64 0, .int .i64 0, .int .i64 0, .int .i64 0, .int .i64 0, .int .i64 0, .int .i64 0, .int .i64 0, .int .i64 0, .int .i64 0, .int .i64 0, .int .i64 0, .int .i64 0, .int .i64 0, .int .i64 0] 26)) w.heap.size 26 (va zeroV) := by rw [z24]; exact Blk.new _ _ _
theorem below26 (w : World) (c : Nat → Int) : Below w.heap.size w ((w.alloc (.cells #[.int .i64 0, .int .i64 0, .int .i64 0, .int .i64 0, .int .i64 0, .int .i64 0, .int .i64 0, .int .i64 0, .int .i64 0, .int .i64 0, .int .i64 0, .int .i64 0, .int .i64 0, .int .i64 0, .int .i64 0, .int .i64 0, .int .i64 0, .int .i64 0, .int .i64 0, .int .i64 0, .int .i64 0, .int .i64 0, .int .i64 0, .int .i64 0] 26)).setRow w.heap.size (va c)) := below_setRow (below_new _ _) (Nat.le_refl _) _
/-- all that the chapter's examples say of vague days -/
structure Ex (X Y U V : Nat → Int) : Prop where
  a : aroundR 213 213 1 = X ∧ aroundE 213 213 1 = 0
  b : aroundR 220 222 2 = Y ∧ aroundE 220 222 2 = 0
  c : cutAt X 1 = (202, 224) ∧ cutE X 1 = 0
  d : degR X 210 = 9 ∧ chkV X = 0
  v : (if chk2 X Y = 0 then vdict qBefore X Y else vd0) = ⟨12, 10, 213, 222, 216, 214⟩ ∧ chk2 X Y = 0
  n : (if nearE X Y 5 = 0 then vdict (qNear 5) X Y else vd0) = ⟨11, 13, 214, 218, 213, 222⟩ ∧ nearE X Y 5 = 0
  i : (if inE X 205 214 = 0 then vdict (qIn 205 214) X zeroV else vd0) = ⟨12, 11, 213, 0, 215, 0⟩ ∧ inE X 205 214 = 0
  j : bothR X Y = U ∧ bothK X Y = 9 ∧ bothE X Y = 0
  l : joinR lessM Y X = V ∧ joinE lessM Y X = 0
  u : (U 16 = 214 ∧ U 17 = 216) ∧ (U 22 = 214 ∧ U 23 = 216) ∧ (U 14 = 212 ∧ U 15 = 217)
  w : (V 22 = 7 ∧ V 23 = 9) ∧ (V 20 = 4 ∧ V 21 = 12)
  la : ∀ W, Calls Tryz.prog 66 #[] W fun e w' => e = .returned (.agg (va X)) ∧ Below W.heap.size W w'
  lb : ∀ W, Calls Tryz.prog 67 #[] W fun e w' => e = .returned (.agg (va Y)) ∧ Below W.heap.size W w'
theorem ex_is : Ex dayA dayB' (bothR dayA dayB') (joinR lessM dayB' dayA) where
  a := ⟨rfl, by kernel_rfl⟩
  b := ⟨rfl, by kernel_rfl⟩
  c := ⟨by kernel_rfl, by kernel_rfl⟩
  d := ⟨by kernel_rfl, by kernel_rfl⟩
  v := ⟨by kernel_rfl, by kernel_rfl⟩
  n := ⟨by kernel_rfl, by kernel_rfl⟩
  i := ⟨by kernel_rfl, by kernel_rfl⟩
  j := ⟨rfl, by kernel_rfl, by kernel_rfl⟩
  l := ⟨rfl, by kernel_rfl⟩
  u := ⟨⟨by kernel_rfl, by kernel_rfl⟩, ⟨by kernel_rfl, by kernel_rfl⟩, ⟨by kernel_rfl, by kernel_rfl⟩⟩
  w := ⟨⟨by kernel_rfl, by kernel_rfl⟩, ⟨by kernel_rfl, by kernel_rfl⟩⟩
  la := lawA_any
  lb := lawB_any
theorem run_eq23 (x0 x1 y0 y1 : Int) (w : World) : (binOp .eql 23 (.agg #[.int .i64 x0, .int .i64 x1]) (.agg #[.int .i64 y0, .int .i64 y1])).run Tryz.prog w = .ok (.bool (x0 == y0 && x1 == y1)) w := by
  have h : (Op.equalIn 10000 23 (.agg #[.int .i64 x0, .int .i64 x1]) (.agg #[.int .i64 y0, .int .i64 y1])).run Tryz.prog w = .ok (x0 == y0 && x1 == y1) w := eq_span 9998 w x0 x1 y0 y1
  rw [run_eql_struct, h]; rfl
theorem run_ne26 (a b : Nat → Int) (w : World) : (binOp .neq 26 (.agg (va a)) (.agg (va b))).run Tryz.prog w = .ok (.bool (!sameV a b)) w := by
  have h : (Op.equalIn 10000 26 (.agg (va a)) (.agg (va b))).run Tryz.prog w = .ok (sameV a b) w := eq_vague 9996 w a b
  rw [run_neq_struct, h]; rfl
theorem run_eq26 (a b : Nat → Int) (w : World) : (binOp .eql 26 (.agg (va a)) (.agg (va b))).run Tryz.prog w = .ok (.bool (sameV a b)) w := by
  have h : (Op.equalIn 10000 26 (.agg (va a)) (.agg (va b))).run Tryz.prog w = .ok (sameV a b) w := eq_vague 9996 w a b
  rw [run_eql_struct, h]; rfl
theorem guard26 (op : BinOp) (x y : Operand) (xs ys : Array Value) (w : World) : (eqGuard op 26 x y (.agg xs) (.agg ys)).run Tryz.prog w = .ok () w := by
  have hT : Tryz.prog.eqGuardType Tryz.prog.depth 26 = false := by kernel_rfl
  cases op <;> simp [eqGuard, hT]
theorem guard23 (op : BinOp) (x y : Operand) (xs ys : Array Value) (w : World) : (eqGuard op 23 x y (.agg xs) (.agg ys)).run Tryz.prog w = .ok () w := by
  have hT : Tryz.prog.eqGuardType Tryz.prog.depth 23 = false := by kernel_rfl
  cases op <;> simp [eqGuard, hT]
theorem sameV_self (a : Nat → Int) : sameV a a = true := sameV_iff.2 fun _ _ => rfl
/-- a vague day is the same as itself, in a region that draws its order -/
theorem yields_ne26 {ops : Array Oper} {S : World → Prop} {o : Oper} {a : Act} (hw : Region.wanted o (yielded ops a.tmps) = true) (x y : Operand) (t : TypeId) (ho : o.op = .binOp .neq 26 x y t) (b : Nat → Int) (hx : a.eval x = .agg (va b)) (hy : a.eval y = .agg (va b)) : YieldsIf Tryz.prog ops S o (.bool false) a :=
  Or.inl ⟨hw, fun w _ => by
    unfold execOp
    simp only [ho, hx, hy, Sem.run_bind, guard26, run_ne26, sameV_self, Result.andThen_ok, Sem.run_pure, Bool.not_true]⟩
/-- two spans that are the same -/
theorem yields_eq23 {ops : Array Oper} {S : World → Prop} {o : Oper} {a : Act} (hw : Region.wanted o (yielded ops a.tmps) = true) (x y : Operand) (t : TypeId) (ho : o.op = .binOp .eql 23 x y t) (p q : Int) (hx : a.eval x = .agg #[.int .i64 p, .int .i64 q]) (hy : a.eval y = .agg #[.int .i64 p, .int .i64 q]) : YieldsIf Tryz.prog ops S o (.bool true) a :=
  Or.inl ⟨hw, fun w _ => by
    unfold execOp
    simp only [ho, hx, hy, Sem.run_bind, guard23, run_eq23, beq_self_eq_true, Bool.and_self, Result.andThen_ok, Sem.run_pure]⟩
theorem means_year (known : Int) (hk : known = 1 ∨ known = 2 ∨ known = 5) (ad : Addr) (W : World) (hD : Defs W W.heap.size (some ad) yearL) : Calls Tryz.prog 34 #[.slice (some ad) 3 3, .string nmH, .int .i64 known] W (RetV W (yearM known).1 (yearM known).2) := by
  rcases hk with rfl | rfl | rfl
  · exact means_ok (year_cal _) nmH nmH_size 1 W hD (by kernel_rfl) (by kernel_rfl) zeroV 5 mean_1
  · exact means_ok (year_cal _) nmH nmH_size 2 W hD (by kernel_rfl) (by kernel_rfl) v2 0 mean_2
  · exact means_ok (year_cal _) nmH nmH_size 5 W hD (by kernel_rfl) (by kernel_rfl) v5 0 mean_5
theorem needs_year (ad : Addr) (W : World) (hD : Defs W W.heap.size (some ad) yearL) : Calls Tryz.prog 35 #[.slice (some ad) 3 3, .string nmH, .int .i64 2] W (RetStrsE W [nmL]) :=
  needs_ok (year_cal _) nmH nmH_size 2 W hD (by kernel_rfl) (by kernel_rfl) [nmL] needs_2 (by kernel_rfl)
theorem changes_year (ad : Addr) (W : World) (hD : Defs W W.heap.size (some ad) yearL) : Calls Tryz.prog 37 #[.slice (some ad) 3 3, .string nmH] W (RetIntsE W [2, 5]) := by
  have h := changes_ok (year_cal (some ad)) nmH nmH_size W hD (by kernel_rfl) yearM [0, 2, 5] year_days year_M
  rwa [year_chg] at h
/-- the chapter's examples hold -/
def SanityIs : Prop := ∀ W, Calls Tryz.prog 15 #[] W fun e w' => e = .returned (.bool true) ∧ Below W.heap.size W w'
/-- a span loaded whole out of slot t -/
theorem ldSp {ops : Array Oper} {rest : List Oper} {o : Oper} {a : Act} {w : World} {Q : Exit → Act → World → Prop} (t : Tmp) (hgd : o.guard = none) (ho : o.op = .load 23 (.tmp t))
    {g : Nat} {T : TypeId} {x y : Int} (hB : Blk w g T #[.int .i64 x, .int .i64 y]) (hx : a.eval (.tmp t) = .pointer (some ⟨g, 0, none⟩)) (h : wpList Tryz.prog ops Q rest (a.put o.dst (.agg #[.int .i64 x, .int .i64 y])) w) : wpList Tryz.prog ops Q (o :: rest) a w :=
  wpList_load_row hgd 23 _ ho g hx T _ (0, 0) _ hB Tryz.underlying23 rfl (by show _ = some 2; kernel_rfl) h
end Go.Proofs.YtbhiphjifdnhmaaGreatDoor

