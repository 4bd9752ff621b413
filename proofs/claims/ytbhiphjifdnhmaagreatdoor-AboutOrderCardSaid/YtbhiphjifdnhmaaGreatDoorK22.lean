import Derived.Test.YtbhiphjifdnhmaaGreatDoorR2
import Derived.Test.YtbhiphjifdnhmaaGreatDoorK19
set_option linter.unusedSimpArgs false
set_option linter.unusedVariables false
/- The laws' own days and calendar. -/
namespace Go.Proofs.YtbhiphjifdnhmaaGreatDoor
open Go.RowKit Go.Maps

set_option maxRecDepth 100000 in
set_option maxHeartbeats 1000000 in
theorem refSharp_any (n : Int) (w : World) : Calls Tryz.prog 39 #[.int .i64 n] w (RetMd w (sharpR n) (sharpE n)) := by
  have k0 : Blk (w.alloc (.cells #[.int .i64 0, .int .i64 0, .int .i64 0, .int .i64 0, .int .i64 0, .int .i64 0, .int .i64 0, .int .i64 0, .int .i64 0, .int .i64 0, .int .i64 0, .int .i64 0, .int .i64 0, .int .i64 0, .int .i64 0, .int .i64 0, .int .i64 0, .int .i64 0, .int .i64 0, .int .i64 0, .int .i64 0, .int .i64 0, .int .i64 0, .int .i64 0, .int .i64 0] 75)) w.heap.size 75 (mnA zeroV 0) := by rw [zmn]; exact Blk.new _ _ _
  have hb0 := below_new w (.cells #[.int .i64 0, .int .i64 0, .int .i64 0, .int .i64 0, .int .i64 0, .int .i64 0, .int .i64 0, .int .i64 0, .int .i64 0, .int .i64 0, .int .i64 0, .int .i64 0, .int .i64 0, .int .i64 0, .int .i64 0, .int .i64 0, .int .i64 0, .int .i64 0, .int .i64 0, .int .i64 0, .int .i64 0, .int .i64 0, .int .i64 0, .int .i64 0, .int .i64 0] 75)
  cases hn : numB n
  · have hE : sharpE n = 1 := by simp [sharpE, aroundE, aroundB, hn]
    have hR : sharpR n = zeroV := by unfold sharpR aroundR; rw [show aroundE n n 0 = 1 from hE]; exact orZero_no _ (by omega)
    rw [hE, hR]
    have HN := Lib.hid hn
    clear hn hE hR
    go_enter Tryz.func39, Tryz.ntmps39
    go_wp2_with (first
      | (go_at_call 91; refine (refNumber_any _ _).mono ?_; rw [HN.out]; rintro e w1 ⟨rfl, rfl⟩)
      | (refine stMd 2 8 rfl rfl k0 rfl (v := zeroV) (e := 1) (by kernel_rfl) ?_))
    exact bodyPost_ret (resMd rfl _ _ (k0.setRow _) rfl) rfl ⟨rfl, below_setRow hb0 (Nat.le_refl _) _⟩
  · have HN := Lib.hid hn
    clear hn
    obtain ⟨V, hV⟩ : ∃ V, V = sharpR n := ⟨_, rfl⟩
    obtain ⟨E, hE⟩ : ∃ E, E = sharpE n := ⟨_, rfl⟩
    rw [← hV, ← hE]
    have HA : Hid (∀ W, Calls Tryz.prog 40 #[.agg #[.int .i64 n, .int .i64 n], .int .i64 0] W (RetMd W V E)) := fun W => by rw [hV, hE]; exact refAround_any n n 0 W
    clear hV hE
    go_enter Tryz.func39, Tryz.ntmps39
    go_wp2_with (first
      | (go_at_call 91; refine (refNumber_any _ _).mono ?_; rw [HN.out]; rintro e w1 ⟨rfl, rfl⟩)
      | (go_at_call 40; refine (HA.out _).mono ?_; rintro e w2 ⟨rfl, hb2⟩; have k2 := k0.below hb2 (by simp))
      | (refine stMd 2 12 rfl rfl k2 rfl (v := V) (e := E) rfl ?_))
    exact bodyPost_ret (resMd rfl _ _ (k2.setRow _) rfl) rfl ⟨rfl, below_setRow (below_next hb0 (by simp) hb2) (Nat.le_refl _) _⟩
theorem run_field75 (v : Nat → Int) (e : Int) (w : World) : (Instr.field 75 (.agg (mnA v e)) 0).run Tryz.prog w = .ok (.agg (va v)) w := by
  have h := mn_extract v e
  simp only [Nat.zero_add] at h
  simp [Instr.field, run_underlying Tryz.underlying75, part, isAgg, run_underlying Tryz.underlying26, sz26, h, asAgg]
theorem wpl_field75 {ops : Array Oper} {rest : List Oper} {o : Oper} {a : Act} {w : World} {Q : Exit → Act → World → Prop} (hgd : o.guard = none) (x : Operand) (ho : o.op = .field 75 x 0) (v : Nat → Int) (e : Int) (hx : a.eval x = .agg (mnA v e))
    (h : wpList Tryz.prog ops Q rest (a.put o.dst (.agg (va v))) w) : wpList Tryz.prog ops Q (o :: rest) a w :=
  wpList_plain hgd fun _ hK => by
    unfold Oper.wp
    simp [execOp, ho, hx, run_field75, Result.andThen]
    exact hK _ _ h
/-- A and B of the chapter's examples -/
def dayA : Nat → Int := aroundR 213 213 1
def dayB' : Nat → Int := aroundR 220 222 2
set_option maxRecDepth 100000 in
set_option maxHeartbeats 1000000 in
theorem lawA_any (w : World) : Calls Tryz.prog 66 #[] w fun e w' => e = .returned (.agg (va dayA)) ∧ Below w.heap.size w w' := by
  have k0 : Blk (w.alloc (.cells #[.int .i64 0, .int .i64 0, .int .i64 0, .int .i64 0, .int .i64 0, .int .i64 0, .int .i64 0, .int .i64 0, .int .i64 0, .int .i64 0, .int .i64 0, .int .i64 0, .int .i64 0, .int .i64 0, .int .i64 0, .int .i64 0, .int .i64 0, .int .i64 0, .int .i64 0, .int .i64 0, .int .i64 0, .int .i64 0, .int .i64 0, .int .i64 0] 26)) w.heap.size 26 (va zeroV) := by rw [z24]; exact Blk.new _ _ _
  have hb0 := below_new w (.cells #[.int .i64 0, .int .i64 0, .int .i64 0, .int .i64 0, .int .i64 0, .int .i64 0, .int .i64 0, .int .i64 0, .int .i64 0, .int .i64 0, .int .i64 0, .int .i64 0, .int .i64 0, .int .i64 0, .int .i64 0, .int .i64 0, .int .i64 0, .int .i64 0, .int .i64 0, .int .i64 0, .int .i64 0, .int .i64 0, .int .i64 0, .int .i64 0] 26)
  have HA : Hid (∀ W, Calls Tryz.prog 40 #[.agg #[.int .i64 213, .int .i64 213], .int .i64 1] W (RetMd W dayA (aroundE 213 213 1))) := fun W => refAround_any 213 213 1 W
  obtain ⟨E, hE⟩ : ∃ E, E = aroundE 213 213 1 := ⟨_, rfl⟩
  rw [← hE] at HA
  clear hE
  go_enter Tryz.func66, Tryz.ntmps66
  go_wp2_with (first
    | (go_at_call 40; refine (HA.out _).mono ?_; rintro e w2 ⟨rfl, hb2⟩; have k2 := k0.below hb2 (by simp))
    | (refine wpl_field75 rfl (.tmp 2) rfl dayA E rfl ?_)
    | (refine stV 0 3 rfl rfl k2 rfl rfl ?_))
  exact bodyPost_ret (resV1 rfl _ _ (k2.setRow _) rfl) rfl ⟨rfl, below_setRow (below_next hb0 (by simp) hb2) (Nat.le_refl _) _⟩
set_option maxRecDepth 100000 in
set_option maxHeartbeats 1000000 in
theorem lawB_any (w : World) : Calls Tryz.prog 67 #[] w fun e w' => e = .returned (.agg (va dayB')) ∧ Below w.heap.size w w' := by
  have k0 : Blk (w.alloc (.cells #[.int .i64 0, .int .i64 0, .int .i64 0, .int .i64 0, .int .i64 0, .int .i64 0, .int .i64 0, .int .i64 0, .int .i64 0, .int .i64 0, .int .i64 0, .int .i64 0, .int .i64 0, .int .i64 0, .int .i64 0, .int .i64 0, .int .i64 0, .int .i64 0, .int .i64 0, .int .i64 0, .int .i64 0, .int .i64 0, .int .i64 0, .int .i64 0] 26)) w.heap.size 26 (va zeroV) := by rw [z24]; exact Blk.new _ _ _
  have hb0 := below_new w (.cells #[.int .i64 0, .int .i64 0, .int .i64 0, .int .i64 0, .int .i64 0, .int .i64 0, .int .i64 0, .int .i64 0, .int .i64 0, .int .i64 0, .int .i64 0, .int .i64 0, .int .i64 0, .int .i64 0, .int .i64 0, .int .i64 0, .int .i64 0, .int .i64 0, .int .i64 0, .int .i64 0, .int .i64 0, .int .i64 0, .int .i64 0, .int .i64 0] 26)
  have HA : Hid (∀ W, Calls Tryz.prog 40 #[.agg #[.int .i64 220, .int .i64 222], .int .i64 2] W (RetMd W dayB' (aroundE 220 222 2))) := fun W => refAround_any 220 222 2 W
  obtain ⟨E, hE⟩ : ∃ E, E = aroundE 220 222 2 := ⟨_, rfl⟩
  rw [← hE] at HA
  clear hE
  go_enter Tryz.func67, Tryz.ntmps67
  go_wp2_with (first
    | (go_at_call 40; refine (HA.out _).mono ?_; rintro e w2 ⟨rfl, hb2⟩; have k2 := k0.below hb2 (by simp))
    | (refine wpl_field75 rfl (.tmp 2) rfl dayB' E rfl ?_)
    | (refine stV 0 3 rfl rfl k2 rfl rfl ?_))
  exact bodyPost_ret (resV1 rfl _ _ (k2.setRow _) rfl) rfl ⟨rfl, below_setRow (below_next hb0 (by simp) hb2) (Nat.le_refl _) _⟩
set_option maxHeartbeats 400000 in
theorem spot_any (x y : Int) (w : World) : Calls Tryz.prog 65 #[.int .i64 x, .int .i64 y] w fun e w' => e = .returned (.agg #[.int .i64 x, .int .i64 y]) ∧ Below w.heap.size w w' := by
  have k0 : Blk (w.alloc (.cells #[.int .i64 0, .int .i64 0] 23)) w.heap.size 23 #[.int .i64 0, .int .i64 0] := Blk.new _ _ _
  have hb0 := below_new w (.cells #[.int .i64 0, .int .i64 0] 23)
  go_enter Tryz.func65, Tryz.ntmps65
  go_wp2_with fail
  exact bodyPost_ret (results_cell_row rfl _ _ w.heap.size 23 #[.int .i64 x, .int .i64 y] (0, 0) _ rfl (Blk.new _ _ _) Tryz.underlying23 rfl (by kernel_rfl)) rfl ⟨rfl, below_new _ _⟩
/-- the names of the chapter's calendar -/
def nmL : ByteArray := ⟨#[108, 97, 109, 109, 97, 115]⟩
def nmH : ByteArray := ⟨#[104, 97, 114, 118, 101, 115, 116]⟩
/-- the chapter's calendar -/
def y0 : Df := ⟨nmL, 0, 1, ⟨#[]⟩, ⟨#[]⟩, dayA⟩
def y1 : Df := ⟨nmH, 2, 2, nmL, ⟨#[]⟩, aroundR 7 9 0⟩
def y2 : Df := ⟨nmL, 5, 1, ⟨#[]⟩, ⟨#[]⟩, sharpR 214⟩
def yearL : List Df := [y0, y1, y2]
theorem build_is (s : ByteArray) (v : Nat → Int) (w : World) : (Instr.build 60 #[(0, .string s), (2, .int .i64 1), (5, .agg (va v))]).run Tryz.prog w = .ok (.agg (dfA ⟨s, 0, 1, ⟨#[]⟩, ⟨#[]⟩, v⟩)) w := by kernel_rfl
theorem build_is5 (s : ByteArray) (n : Int) (v : Nat → Int) (w : World) : (Instr.build 60 #[(0, .string s), (1, .int .i64 n), (2, .int .i64 1), (5, .agg (va v))]).run Tryz.prog w = .ok (.agg (dfA ⟨s, n, 1, ⟨#[]⟩, ⟨#[]⟩, v⟩)) w := by kernel_rfl
theorem build_after (s t : ByteArray) (n : Int) (v : Nat → Int) (w : World) : (Instr.build 60 #[(0, .string s), (1, .int .i64 n), (2, .int .i64 2), (3, .string t), (5, .agg (va v))]).run Tryz.prog w = .ok (.agg (dfA ⟨s, n, 2, t, ⟨#[]⟩, v⟩)) w := by kernel_rfl
theorem run_build3 (a b c : Df) (w : World) : (Instr.buildSlice 58 3 #[(0, .agg (dfA a)), (1, .agg (dfA b)), (2, .agg (dfA c))]).run Tryz.prog w = .ok (.slice (some ⟨w.heap.size, 0, none⟩) 3 3) (w.alloc (.cells (dfCells [a, b, c]).toArray 60)) := by kernel_rfl
end Go.Proofs.YtbhiphjifdnhmaaGreatDoor

/- The chapter's calendar in memory. -/
namespace Go.Proofs.YtbhiphjifdnhmaaGreatDoor
open Go.RowKit Go.Maps

set_option maxRecDepth 100000 in
theorem wpl_bld0 {ops : Array Oper} {rest : List Oper} {o : Oper} {a : Act} {w : World} {Q : Exit → Act → World → Prop} (hgd : o.guard = none) (s : ByteArray) (x : Operand) (ho : o.op = .build 60 #[(0, .const (.string s)), (2, .const (.int .i64 1)), (5, x)]) (v : Nat → Int) (hx : a.eval x = .agg (va v))
    (h : wpList Tryz.prog ops Q rest (a.put o.dst (.agg (dfA ⟨s, 0, 1, ⟨#[]⟩, ⟨#[]⟩, v⟩))) w) : wpList Tryz.prog ops Q (o :: rest) a w :=
  wpList_plain hgd fun _ hK => by
    have hc : ∀ v, a.eval (.const v) = v := fun _ => rfl
    unfold Oper.wp
    simp [execOp, ho, hx, hc, build_is, Result.andThen]
    exact hK _ _ h
set_option maxRecDepth 100000 in
theorem wpl_bld1 {ops : Array Oper} {rest : List Oper} {o : Oper} {a : Act} {w : World} {Q : Exit → Act → World → Prop} (hgd : o.guard = none) (s t : ByteArray) (n : Int) (x : Operand) (ho : o.op = .build 60 #[(0, .const (.string s)), (1, .const (.int .i64 n)), (2, .const (.int .i64 2)), (3, .const (.string t)), (5, x)]) (v : Nat → Int) (hx : a.eval x = .agg (va v))
    (h : wpList Tryz.prog ops Q rest (a.put o.dst (.agg (dfA ⟨s, n, 2, t, ⟨#[]⟩, v⟩))) w) : wpList Tryz.prog ops Q (o :: rest) a w :=
  wpList_plain hgd fun _ hK => by
    have hc : ∀ v, a.eval (.const v) = v := fun _ => rfl
    unfold Oper.wp
    simp [execOp, ho, hx, hc, build_after, Result.andThen]
    exact hK _ _ h
set_option maxRecDepth 100000 in
theorem wpl_bld2 {ops : Array Oper} {rest : List Oper} {o : Oper} {a : Act} {w : World} {Q : Exit → Act → World → Prop} (hgd : o.guard = none) (s : ByteArray) (n : Int) (x : Operand) (ho : o.op = .build 60 #[(0, .const (.string s)), (1, .const (.int .i64 n)), (2, .const (.int .i64 1)), (5, x)]) (v : Nat → Int) (hx : a.eval x = .agg (va v))
    (h : wpList Tryz.prog ops Q rest (a.put o.dst (.agg (dfA ⟨s, n, 1, ⟨#[]⟩, ⟨#[]⟩, v⟩))) w) : wpList Tryz.prog ops Q (o :: rest) a w :=
  wpList_plain hgd fun _ hK => by
    have hc : ∀ v, a.eval (.const v) = v := fun _ => rfl
    unfold Oper.wp
    simp [execOp, ho, hx, hc, build_is5, Result.andThen]
    exact hK _ _ h
theorem wpl_bld3 {ops : Array Oper} {rest : List Oper} {o : Oper} {a : Act} {w : World} {Q : Exit → Act → World → Prop} (hgd : o.guard = none) (x y z : Operand) (ho : o.op = .buildSlice 58 3 #[(0, x), (1, y), (2, z)]) (b c d : Df) (hx : a.eval x = .agg (dfA b)) (hy : a.eval y = .agg (dfA c)) (hz : a.eval z = .agg (dfA d))
    (h : wpList Tryz.prog ops Q rest (a.put o.dst (.slice (some ⟨w.heap.size, 0, none⟩) 3 3)) (w.alloc (.cells (dfCells [b, c, d]).toArray 60))) : wpList Tryz.prog ops Q (o :: rest) a w :=
  wpList_plain hgd fun _ hK => by
    unfold Oper.wp
    simp [execOp, ho, hx, hy, hz, run_build3, Result.andThen]
    exact hK _ _ h
theorem defs_new (w : World) (l : List Df) : Defs (w.alloc (.cells (dfCells l).toArray 60)) (w.heap.size + 1) (some ⟨w.heap.size, 0, none⟩) l := fun k d hd => by
  refine ⟨_, 0, rfl, by omega, fun j v hv => ?_⟩
  have := (Blk.new w 60 (dfCells l).toArray).cell (0 + k * 29 + j)
  rw [this, List.getElem?_toArray, Nat.zero_add]
  exact dfCells_get l k j d v hd hv
/-- the chapter's calendar is returned -/
def RetYear (w : World) (e : Ending) (w' : World) : Prop := ∃ ad, e = .returned (.slice (some ad) 3 3) ∧ Defs w' w'.heap.size (some ad) yearL ∧ Below w.heap.size w w'
set_option maxRecDepth 100000 in
set_option maxHeartbeats 1000000 in
theorem year_any (w : World) : Calls Tryz.prog 68 #[] w (RetYear w) := by
  have HA : Hid (∀ W, Calls Tryz.prog 40 #[.agg #[.int .i64 7, .int .i64 9], .int .i64 0] W (RetMd W (aroundR 7 9 0) (aroundE 7 9 0))) := fun W => refAround_any 7 9 0 W
  have HS : Hid (∀ W, Calls Tryz.prog 39 #[.int .i64 214] W (RetMd W (sharpR 214) (sharpE 214))) := fun W => refSharp_any 214 W
  obtain ⟨E, hE⟩ : ∃ E, E = aroundE 7 9 0 := ⟨_, rfl⟩
  obtain ⟨F, hF⟩ : ∃ F, F = sharpE 214 := ⟨_, rfl⟩
  rw [← hE] at HA
  rw [← hF] at HS
  obtain ⟨U, hU⟩ : ∃ U, U = aroundR 7 9 0 := ⟨_, rfl⟩
  obtain ⟨V, hV⟩ : ∃ V, V = sharpR 214 := ⟨_, rfl⟩
  obtain ⟨X, hX⟩ : ∃ X, X = dayA := ⟨_, rfl⟩
  rw [← hU] at HA
  rw [← hV] at HS
  have HX : Hid (∀ W, Calls Tryz.prog 66 #[] W fun e w' => e = .returned (.agg (va X)) ∧ Below W.heap.size W w') := fun W => by rw [hX]; exact lawA_any W
  have HY : Hid (yearL = [⟨nmL, 0, 1, ⟨#[]⟩, ⟨#[]⟩, X⟩, ⟨nmH, 2, 2, nmL, ⟨#[]⟩, U⟩, ⟨nmL, 5, 1, ⟨#[]⟩, ⟨#[]⟩, V⟩]) := by rw [hX, hU, hV]; rfl
  clear hE hF hU hV hX
  go_enter Tryz.func68, Tryz.ntmps68
  go_wp2_with (first
    | (go_at_call 66; refine (HX.out _).mono ?_; rintro e w1 ⟨rfl, hb1⟩)
    | (go_at_call 40; refine (HA.out _).mono ?_; rintro e w2 ⟨rfl, hb2⟩)
    | (go_at_call 39; refine (HS.out _).mono ?_; rintro e w3 ⟨rfl, hb3⟩)
    | (refine wpl_field75 rfl (.tmp 4) rfl U E rfl ?_)
    | (refine wpl_field75 rfl (.tmp 7) rfl V F rfl ?_)
    | (refine wpl_bld0 rfl nmL (.tmp 1) rfl X rfl ?_)
    | (refine wpl_bld1 rfl nmH nmL 2 (.tmp 5) rfl U rfl ?_)
    | (refine wpl_bld2 rfl nmL 5 (.tmp 8) rfl V rfl ?_)
    | (refine wpl_bld3 rfl (.tmp 2) (.tmp 6) (.tmp 9) rfl _ _ _ rfl rfl rfl ?_))
  go_ret
  refine ⟨_, rfl, ?_, (below_next (below_next hb1 hb1.size hb2) (by have := hb1.size; have := hb2.size; omega) hb3).alloc (by have := hb1.size; have := hb2.size; have := hb3.size; omega) _⟩
  rw [HY.out]
  exact (defs_new w3 _).more (by simp)
end Go.Proofs.YtbhiphjifdnhmaaGreatDoor

/- The reference's comparisons of lists. -/
namespace Go.Proofs.YtbhiphjifdnhmaaGreatDoor
open Go.RowKit Go.Maps

set_option maxRecDepth 100000 in
set_option maxHeartbeats 1000000 in
theorem sameInts_any (A C : Option Addr) (c d B D : Nat) (l m : List Int) (w : World) (hl : l.length ≤ 1000000) (hm : m.length ≤ 1000000) (hA : Ints w B A l) (hC : Ints w D C m) :
    Calls Tryz.prog 61 #[.slice A l.length c, .slice C m.length d] w fun e w' => e = .returned (.bool (decide (l = m))) ∧ ∃ n, w' = w.drewN n := by
  by_cases hlen : l.length = m.length
  · have hne : ((l.length : Int) != (m.length : Int)) = false := by simp [hlen]
    have hne2 : (l.length : Int) = (m.length : Int) := by omega
    obtain ⟨R, hR⟩ : ∃ R, R = decide (l = m) := ⟨_, rfl⟩
    rw [← hR]
    have hr0 : Hid (R = decide (l.drop 0 = m.drop 0)) := hR
    have HL := Lib.hid hlen
    clear hR hlen hne2
    go_enter Tryz.func61, Tryz.ntmps61
    go_wp2_with fail
    go_loopw [5] (fun t5 wq => ∃ (k n : Nat), k ≤ l.length ∧ t5 = .int .i64 k ∧ Hid (R = decide (l.drop k = m.drop k)) ∧ wq = w.drewN n) (fun t5 _ => l.length - (intOf t5).toNat)
    case atStart => exact ⟨0, 0, by omega, rfl, hr0, (World.drewN_zero w).symm⟩
    case round =>
      obtain ⟨k, n, hk, rfl, hRk, rfl⟩ := hrel
      clear hr0
      by_cases hlt : k < l.length
      · have hlt2 : k < m.length := by rw [← HL.out]; exact hlt
        obtain ⟨ad, rfl, _, h1⟩ := hA.get hlt
        obtain ⟨ae, rfl, _, h2⟩ := hC.get hlt2
        obtain ⟨x, hx⟩ : ∃ x, x = l[k] := ⟨_, rfl⟩
        obtain ⟨y, hy⟩ : ∃ y, y = m[k] := ⟨_, rfl⟩
        rw [← hx] at h1
        rw [← hy] at h2
        have h1' : (w.drewN n).cell? (ad.add k) = some (Value.int .i64 x) := h1
        have h2' : (w.drewN n).cell? (ae.add k) = some (Value.int .i64 y) := h2
        have hdr : (l.drop k = m.drop k) ↔ (x = y ∧ l.drop (k + 1) = m.drop (k + 1)) := by
          rw [List.drop_eq_getElem_cons hlt, List.drop_eq_getElem_cons hlt2, ← hx, ← hy]
          exact ⟨fun e => by injection e with e1 e2; exact ⟨e1, e2⟩, fun e => by rw [e.1, e.2]⟩
        have HD := Lib.hid hdr
        have hi2 : (k : Int) < (m.length : Int) := by omega
        clear hdr hx hy
        by_cases hxy : x = y
        · subst hxy
          skip
          go_wp2_with fail
          go_quiet (fail)
          go_wp2
          go_roundw
          case rel => exact ⟨k + 1, _, by omega, by go_num, Lib.hid (by rw [hRk.out]; exact decide_eq_decide.2 (HD.out.trans ⟨fun h => h.2, fun h => ⟨(by trivial), h⟩⟩)), by first | exact World.drewN_drewN _ _ _ | rfl⟩
          case measure => simp [intOf]; omega
        · have hxz : (x == y) = false := by simp [hxy]
          have hf : R = false := by rw [hRk.out]; exact decide_eq_false fun h => hxy (HD.out.1 h).1
          have HF := Lib.hid hf
          clear hf
          go_wp2_with fail
          go_quiet (fail)
          go_wp2
          go_ret
          exact ⟨ret_bool HF.out.symm, _, by first | exact World.drewN_drewN _ _ _ | rfl⟩
      · obtain rfl : k = l.length := by omega
        have HE := Lib.hid (show R = true by rw [hRk.out, List.drop_length, HL.out, List.drop_length]; rfl)
        go_wp2
        go_ret
        exact ⟨ret_bool HE.out.symm, n, rfl⟩
  · have hne : ((l.length : Int) != (m.length : Int)) = true := by simp; omega
    have hne2 : ¬ (l.length : Int) = (m.length : Int) := by omega
    have HF := Lib.hid (show decide (l = m) = false from decide_eq_false fun h => hlen (by rw [h]))
    rw [HF.out]
    go_enter Tryz.func61, Tryz.ntmps61
    go_wp2
    go_ret
    exact ⟨rfl, 0, (World.drewN_zero w).symm⟩
set_option maxRecDepth 100000 in
set_option maxHeartbeats 1000000 in
theorem sameTexts_any (A C : Option Addr) (c d B D : Nat) (l m : List ByteArray) (w : World) (hl : l.length ≤ 1000000) (hm : m.length ≤ 1000000) (hA : Strs w B A l) (hC : Strs w D C m) :
    Calls Tryz.prog 60 #[.slice A l.length c, .slice C m.length d] w fun e w' => e = .returned (.bool (decide (l = m))) ∧ ∃ n, w' = w.drewN n := by
  by_cases hlen : l.length = m.length
  · have hne : ((l.length : Int) != (m.length : Int)) = false := by simp [hlen]
    have hne2 : (l.length : Int) = (m.length : Int) := by omega
    obtain ⟨R, hR⟩ : ∃ R, R = decide (l = m) := ⟨_, rfl⟩
    rw [← hR]
    have hr0 : Hid (R = decide (l.drop 0 = m.drop 0)) := hR
    have HL := Lib.hid hlen
    clear hR hlen hne2
    go_enter Tryz.func60, Tryz.ntmps60
    go_wp2_with fail
    go_loopw [5] (fun t5 wq => ∃ (k n : Nat), k ≤ l.length ∧ t5 = .int .i64 k ∧ Hid (R = decide (l.drop k = m.drop k)) ∧ wq = w.drewN n) (fun t5 _ => l.length - (intOf t5).toNat)
    case atStart => exact ⟨0, 0, by omega, rfl, hr0, (World.drewN_zero w).symm⟩
    case round =>
      obtain ⟨k, n, hk, rfl, hRk, rfl⟩ := hrel
      clear hr0
      by_cases hlt : k < l.length
      · have hlt2 : k < m.length := by rw [← HL.out]; exact hlt
        obtain ⟨ad, rfl, _, h1⟩ := hA.get hlt
        obtain ⟨ae, rfl, _, h2⟩ := hC.get hlt2
        obtain ⟨x, hx⟩ : ∃ x, x = l[k] := ⟨_, rfl⟩
        obtain ⟨y, hy⟩ : ∃ y, y = m[k] := ⟨_, rfl⟩
        rw [← hx] at h1
        rw [← hy] at h2
        have h1' : (w.drewN n).cell? (ad.add k) = some (Value.string x) := h1
        have h2' : (w.drewN n).cell? (ae.add k) = some (Value.string y) := h2
        have hdr : (l.drop k = m.drop k) ↔ (x = y ∧ l.drop (k + 1) = m.drop (k + 1)) := by
          rw [List.drop_eq_getElem_cons hlt, List.drop_eq_getElem_cons hlt2, ← hx, ← hy]
          exact ⟨fun e => by injection e with e1 e2; exact ⟨e1, e2⟩, fun e => by rw [e.1, e.2]⟩
        have HD := Lib.hid hdr
        have hi2 : (k : Int) < (m.length : Int) := by omega
        clear hdr hx hy
        by_cases hxy : x = y
        · subst hxy
          skip
          go_wp2_with fail
          go_quiet (fail)
          go_wp2
          go_roundw
          case rel => exact ⟨k + 1, _, by omega, by go_num, Lib.hid (by rw [hRk.out]; exact decide_eq_decide.2 (HD.out.trans ⟨fun h => h.2, fun h => ⟨(by trivial), h⟩⟩)), by first | exact World.drewN_drewN _ _ _ | rfl⟩
          case measure => simp [intOf]; omega
        · have hnl : ¬ x.toList = y.toList := fun e => hxy (bytes_eq (by rwa [ByteArray.toList_eq, ByteArray.toList_eq] at e))
          have hnb : (x.toList == y.toList) = false := beq_eq_false_iff_ne.2 hnl
          have hf : R = false := by rw [hRk.out]; exact decide_eq_false fun h => hxy (HD.out.1 h).1
          have HF := Lib.hid hf
          clear hf
          go_wp2_with fail
          go_quiet (fail)
          go_wp2
          go_ret
          exact ⟨ret_bool HF.out.symm, _, by first | exact World.drewN_drewN _ _ _ | rfl⟩
      · obtain rfl : k = l.length := by omega
        have HE := Lib.hid (show R = true by rw [hRk.out, List.drop_length, HL.out, List.drop_length]; rfl)
        go_wp2
        go_ret
        exact ⟨ret_bool HE.out.symm, n, rfl⟩
  · have hne : ((l.length : Int) != (m.length : Int)) = true := by simp; omega
    have hne2 : ¬ (l.length : Int) = (m.length : Int) := by omega
    have HF := Lib.hid (show decide (l = m) = false from decide_eq_false fun h => hlen (by rw [h]))
    rw [HF.out]
    go_enter Tryz.func60, Tryz.ntmps60
    go_wp2
    go_ret
    exact ⟨rfl, 0, (World.drewN_zero w).symm⟩
end Go.Proofs.YtbhiphjifdnhmaaGreatDoor

