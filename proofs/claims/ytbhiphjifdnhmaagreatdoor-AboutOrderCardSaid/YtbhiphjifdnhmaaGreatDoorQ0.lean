import Derived.Test.YtbhiphjifdnhmaaGreatDoorV0
import Derived.Laws.EntriesVeiled
/- The questions; what Near and In check first. -/
namespace Go.Proofs.YtbhiphjifdnhmaaGreatDoor
open Go.RowKit

/-- a verdict in a cell and an error are returned -/
theorem resD2 {fn : Func} {p t : Tmp} (h : fn.results = #[.cell p 48, .tmp t]) (tmps : Array Value) (w : World) {g : Nat} {T : TypeId} {v : Vd} (hB : Blk w g T (vcs v))
    (hp : tmps.getD p undef = .pointer (some ⟨g, 0, none⟩)) {u : Value} (hv : tmps.getD t undef = u) : (results fn tmps).run Tryz.prog w = .ok (.tuple #[.agg (vcs v), u]) w := by
  have hp' : tmps[p]?.getD undef = .pointer (some ⟨g, 0, none⟩) := by simpa using hp
  have hv' : tmps[t]?.getD undef = u := by simpa using hv
  simp [results, h, hp', hv', asAddr, run_loadVar_row w g T 48 (vcs v) (0, 0) _ hB Tryz.underlying48 rfl (by kernel_rfl)]
def qcB : Array Value := #[.func (.func 109) #[] #[], .func (.func 110) #[] #[], .func (.func 111) #[] #[]]
theorem res118 {fn : Func} {p : Tmp} (h : fn.results = #[.cell p 118]) (tmps : Array Value) (w : World) {g : Nat} {T : TypeId} {x y z : Value} (hB : Blk w g T #[x, y, z])
    (hp : tmps.getD p undef = .pointer (some ⟨g, 0, none⟩)) : (results fn tmps).run Tryz.prog w = .ok (.agg #[x, y, z]) w :=
  results_cell_row h tmps w g T _ (0, 0) _ hp hB Tryz.underlying118 rfl (by kernel_rfl)
set_option maxHeartbeats 400000 in
theorem isBefore_any (w : World) : Calls Tryz.prog 77 #[] w fun e w' => e = .returned (.agg #[.func (.func 109) #[] #[], .func (.func 110) #[] #[], .func (.func 111) #[] #[]]) ∧ Below w.heap.size w w' := by
  go_enter Tryz.func77, Tryz.ntmps77
  go_wp2
  exact bodyPost_ret (res118 rfl _ _ (Blk.new _ _ _) rfl) rfl ⟨rfl, below_new _ _⟩
theorem hmf (fn : Fn) (first cap : Array Value) (w : World) : (Instr.makeFunc fn first cap).run Tryz.prog w = .ok (.func fn first cap) w := rfl
set_option maxHeartbeats 400000 in
theorem isNear_any (most : Int) (w : World) : Calls Tryz.prog 81 #[.int .i64 most] w fun e w' => e = .returned (.agg #[.func (.func 113) #[] #[.pointer (some ⟨w.heap.size, 0, none⟩)], .func (.func 115) #[] #[], .func (.func 117) #[] #[]]) ∧ w'.cell? ⟨w.heap.size, 0, none⟩ = some (.int .i64 most) ∧ Below w.heap.size w w' := by
  have hm := hmf
  go_enter Tryz.func81, Tryz.ntmps81
  go_wp2
  exact bodyPost_ret (res118 rfl _ _ (Blk.newAt (by simp)) rfl) rfl ⟨rfl, ((Blk.new _ _ _).alloc _).cell 0, (below_new _ _).alloc (by simp) _⟩
set_option maxHeartbeats 400000 in
theorem isIn_any (lo hi : Int) (w : World) : Calls Tryz.prog 83 #[.agg #[.int .i64 lo, .int .i64 hi]] w fun e w' => e = .returned (.agg #[.func (.func 118) #[] #[.pointer (some ⟨w.heap.size, 0, none⟩)], .func (.func 119) #[] #[.pointer (some ⟨w.heap.size, 0, none⟩)], .func (.func 120) #[] #[.pointer (some ⟨w.heap.size, 0, none⟩)]]) ∧ w'.cell? ⟨w.heap.size, 0, none⟩ = some (.int .i64 lo) ∧ w'.cell? ⟨w.heap.size, 1, none⟩ = some (.int .i64 hi) ∧ Below w.heap.size w w' := by
  have hm := hmf
  go_enter Tryz.func83, Tryz.ntmps83
  go_wp2
  exact bodyPost_ret (res118 rfl _ _ (Blk.newAt (by simp)) rfl) rfl ⟨rfl, ((Blk.new _ _ _).alloc _).cell 0, ((Blk.new _ _ _).alloc _).cell 1, (below_new _ _).alloc (by simp) _⟩

def nearE (a b : Nat → Int) (most : Int) : Int := if vok a && vok b then (if decide (0 ≤ most) && decide (most ≤ 6000) then 0 else 1) else 1
def inE (a : Nat → Int) (lo hi : Int) : Int := if vok a then (if lo ≤ hi then 0 else 1) else 1
set_option maxRecDepth 100000 in
set_option maxHeartbeats 800000 in
theorem checkNearE_any (a b : Nat → Int) (most : Int) (w : World) : Calls Tryz.prog 80 #[.agg (va a), .agg (va b), .int .i64 most] w fun e w' => e = .returned (.int .i64 (nearE a b most)) ∧ Below w.heap.size w w' := by
  have hA := (Blk.new w 26 (va a)).alloc (.cells (va b) 26)
  have hB : Blk ((w.alloc (.cells (va a) 26)).alloc (.cells (va b) 26)) (w.heap.size + 1) 26 (va b) := Blk.newAt (by simp)
  have hb0 : Below w.heap.size w ((w.alloc (.cells (va a) 26)).alloc (.cells (va b) 26)) := (below_new _ _).alloc (by simp) _
  cases h0 : (vok a && vok b)
  · have H0 := Lib.hid (chk2_no h0)
    have HR := Lib.hid (show nearE a b most = 1 by simp only [nearE, h0]; rfl)
    clear h0
    go_enter Tryz.func80, Tryz.ntmps80
    go_wp2_with (first
      | (refine ldV 3 rfl rfl hA rfl ?_)
      | (refine ldV 4 rfl rfl hB rfl ?_)
      | (go_at_call 72; refine (checkTwo_any _ _ _).mono ?_; rw [H0.out]; rintro e w1 ⟨rfl, hb1⟩))
    go_ret
    exact ⟨ret_int HR.out.symm, below_next hb0 (by simp; omega) hb1⟩
  · have H0 := Lib.hid (chk2_ok h0)
    have HR := Lib.hid (show nearE a b most = if decide (0 ≤ most) && decide (most ≤ 6000) then 0 else 1 by simp only [nearE, h0]; rfl)
    clear h0
    go_enter Tryz.func80, Tryz.ntmps80
    go_wp2_with (first
      | (refine ldV 3 rfl rfl hA rfl ?_)
      | (refine ldV 4 rfl rfl hB rfl ?_)
      | (go_at_call 72; refine (checkTwo_any _ _ _).mono ?_; rw [H0.out]; rintro e w1 ⟨rfl, hb1⟩))
    all_goals
      go_ret
      exact ⟨ret_int (by rw [HR.out]; simp [*]; try omega), below_next hb0 (by simp; omega) hb1⟩
set_option maxRecDepth 100000 in
set_option maxHeartbeats 800000 in
theorem checkInE_any (a : Nat → Int) (lo hi : Int) (w : World) : Calls Tryz.prog 82 #[.agg (va a), .agg #[.int .i64 lo, .int .i64 hi]] w fun e w' => e = .returned (.int .i64 (inE a lo hi)) ∧ Below w.heap.size w w' := by
  have hA := (Blk.new w 26 (va a)).alloc (.cells #[.int .i64 lo, .int .i64 hi] 23)
  have hB : Blk ((w.alloc (.cells (va a) 26)).alloc (.cells #[.int .i64 lo, .int .i64 hi] 23)) (w.heap.size + 1) 23 #[.int .i64 lo, .int .i64 hi] := Blk.newAt (by simp)
  have hb0 : Below w.heap.size w ((w.alloc (.cells (va a) 26)).alloc (.cells #[.int .i64 lo, .int .i64 hi] 23)) := (below_new _ _).alloc (by simp) _
  cases h0 : vok a
  · have H0 := Lib.hid (chkV_no h0)
    have HR := Lib.hid (show inE a lo hi = 1 by simp only [inE, h0]; rfl)
    clear h0
    go_enter Tryz.func82, Tryz.ntmps82
    go_wp2_with (first
      | (refine ldV 2 rfl rfl hA rfl ?_)
      | (go_at_call 14; refine (check_any _ _).mono ?_; rw [H0.out]; rintro e w1 ⟨rfl, hb1⟩))
    go_ret
    exact ⟨ret_int HR.out.symm, below_next hb0 (by simp; omega) hb1⟩
  · have H0 := Lib.hid (chkV_ok h0)
    have HR := Lib.hid (show inE a lo hi = if lo ≤ hi then 0 else 1 by simp only [inE, h0]; rfl)
    clear h0
    cases hd : decide (lo ≤ hi)
    all_goals
      have HD := Lib.hid hd
      clear hd
      go_enter Tryz.func82, Tryz.ntmps82
      go_wp2_with (first
        | (refine ldV 2 rfl rfl hA rfl ?_)
        | (go_at_call 14; refine (check_any _ _).mono ?_; rw [H0.out]; rintro e w1 ⟨rfl, hb1⟩; obtain ⟨d0, d1⟩ := (hB.below hb1 (by simp)).two)
        | (go_at_call 62; refine (isSpan_any _ _ _).mono ?_; rw [HD.out]; rintro e w2 ⟨rfl, hb2⟩))
      go_ret
      exact ⟨ret_int (by rw [HR.out]; have := HD.out; simp at this; first | rw [if_pos (by omega)] | rw [if_neg (by omega)]), below_next (below_next hb0 (by simp; omega) hb1) (by have := hb1.size; simp at this; omega) hb2⟩
end Go.Proofs.YtbhiphjifdnhmaaGreatDoor
