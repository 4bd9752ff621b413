import Derived.Test.YtieclenlldjfjaaGreatC1
import Derived.Test.YtieclenlldjfjaaGreatP6
set_option linter.unusedSimpArgs false
set_option linter.unusedVariables false
/- Without 21 of what is not right. -/
namespace Go.Proofs.YtieclenlldjfjaaGreat
open Go.RowKit

theorem info24 {a b c d e f g : Value} : (Tryz.prog.info? 24).map (·.size) = some #[a, b, c, d, e, f, g].size := by
  show _ = some 7
  kernel_rfl
/-- the results: a block as a whole, and a number -/
theorem results_row_tmp {fn : Func} {p u : Tmp} (h : fn.results = #[.cell p 24, .tmp u]) (tmps : Array Value) (w : World) (g : Nat) {a b c d e f k : Value}
    (hp : tmps.getD p undef = .pointer (some ⟨g, 0, none⟩)) (hg : Blk w g 24 #[a, b, c, d, e, f, k]) (v : Value) (hv : tmps.getD u undef = v) :
    (results fn tmps).run Tryz.prog w = .ok (.tuple #[.agg #[a, b, c, d, e, f, k], v]) w := by
  subst hv
  have hp' : tmps[p]?.getD undef = .pointer (some ⟨g, 0, none⟩) := by simpa using hp
  simp [results, h, hp', asAddr, run_loadVar_row w g 24 24 _ (0, 0) _ hg Tryz.underlying24 rfl info24]

section
variable (Sy St Ot Mi Ad Sm : Int) (A : Option Addr) (gcap : Nat) (ms : List Mkg) (w : World)
set_option maxRecDepth 100000 in
set_option maxHeartbeats 1000000 in
theorem without21_bad (i : Int) (hG : Gr w w.heap.size A ms) (h : ¬ chkG Sy St Ot Mi Ad Sm ms = 0) :
    Calls Tryz.prog 21 #[gv Sy St (.slice A ms.length gcap) Ot Mi Ad Sm, .int .i64 i] w fun e w' => e = .returned (.tuple #[gv 0 0 (.slice none 0 0) 0 0 0 0, .int .i64 (chkG Sy St Ot Mi Ad Sm ms)]) ∧ Below w.heap.size w w' := by
  have hC := Lib.hid fun W (h : Gr W W.heap.size A ms) => check_any Sy St Ot Mi Ad Sm A gcap ms W h
  obtain ⟨E, hE⟩ : ∃ E, E = chkG Sy St Ot Mi Ad Sm ms := ⟨_, rfl⟩
  rw [← hE] at h hC ⊢
  have hne : (E != 0) = true := by simpa using h
  clear hE h
  have hb0 : Below w.heap.size w ((w.alloc (.cells #[.int .i64 Sy, .int .i64 St, .slice A ms.length gcap, .int .i64 Ot, .int .i64 Mi, .int .i64 Ad, .int .i64 Sm] 24)).alloc (.cells #[.int .i64 0, .int .i64 0, .slice none 0 0, .int .i64 0, .int .i64 0, .int .i64 0, .int .i64 0] 24)) := (below_new _ _).alloc (by simp) _
  have kG : Blk ((w.alloc (.cells #[.int .i64 Sy, .int .i64 St, .slice A ms.length gcap, .int .i64 Ot, .int .i64 Mi, .int .i64 Ad, .int .i64 Sm] 24)).alloc (.cells #[.int .i64 0, .int .i64 0, .slice none 0 0, .int .i64 0, .int .i64 0, .int .i64 0, .int .i64 0] 24)) w.heap.size 24 #[.int .i64 Sy, .int .i64 St, .slice A ms.length gcap, .int .i64 Ot, .int .i64 Mi, .int .i64 Ad, .int .i64 Sm] := (Blk.new _ _ _).alloc _
  have kR : Blk ((w.alloc (.cells #[.int .i64 Sy, .int .i64 St, .slice A ms.length gcap, .int .i64 Ot, .int .i64 Mi, .int .i64 Ad, .int .i64 Sm] 24)).alloc (.cells #[.int .i64 0, .int .i64 0, .slice none 0 0, .int .i64 0, .int .i64 0, .int .i64 0, .int .i64 0] 24)) (w.heap.size + 1) 24 #[.int .i64 0, .int .i64 0, .slice none 0 0, .int .i64 0, .int .i64 0, .int .i64 0, .int .i64 0] := Blk.newAt (by simp)
  have hG1 := hG.behind hb0
  go_enter Tryz.func21, Tryz.ntmps21
  go_wp2_with (first
    | (go_at_call 25; refine (hC.out _ hG1).mono ?_; rintro e w1 ⟨rfl, hb1⟩; have kR1 := kR.below hb1 kR.lt; obtain ⟨r0, r1, r2, r3, r4, r5, r6⟩ : w1.cell? ⟨w.heap.size + 1, 0, none⟩ = some (.int .i64 0) ∧ w1.cell? ⟨w.heap.size + 1, 1, none⟩ = some (.int .i64 0) ∧ w1.cell? ⟨w.heap.size + 1, 2, none⟩ = some (.slice none 0 0) ∧ w1.cell? ⟨w.heap.size + 1, 3, none⟩ = some (.int .i64 0) ∧ w1.cell? ⟨w.heap.size + 1, 4, none⟩ = some (.int .i64 0) ∧ w1.cell? ⟨w.heap.size + 1, 5, none⟩ = some (.int .i64 0) ∧ w1.cell? ⟨w.heap.size + 1, 6, none⟩ = some (.int .i64 0) := ⟨kR1.cell 0, kR1.cell 1, kR1.cell 2, kR1.cell 3, kR1.cell 4, kR1.cell 5, kR1.cell 6⟩; obtain ⟨f0, f1, f2, f3, f4, f5, f6⟩ : w1.frozen? ⟨w.heap.size + 1, 0, none⟩ = false ∧ w1.frozen? ⟨w.heap.size + 1, 1, none⟩ = false ∧ w1.frozen? ⟨w.heap.size + 1, 2, none⟩ = false ∧ w1.frozen? ⟨w.heap.size + 1, 3, none⟩ = false ∧ w1.frozen? ⟨w.heap.size + 1, 4, none⟩ = false ∧ w1.frozen? ⟨w.heap.size + 1, 5, none⟩ = false ∧ w1.frozen? ⟨w.heap.size + 1, 6, none⟩ = false := ⟨kR1.frozen 0, kR1.frozen 1, kR1.frozen 2, kR1.frozen 3, kR1.frozen 4, kR1.frozen 5, kR1.frozen 6⟩))
  have hbw := below_next hb0 hb0.size hb1
  refine bodyPost_ret (v := .tuple #[.agg #[.int .i64 0, .int .i64 0, .slice none 0 0, .int .i64 0, .int .i64 0, .int .i64 0, .int .i64 0], .int .i64 E]) (results_row_tmp rfl _ _ (w.heap.size + 1) rfl (((((((kR1.store 0 (.int .i64 0)).store 1 (.int .i64 0)).store 2 (.slice none 0 0)).store 3 (.int .i64 0)).store 4 (.int .i64 0)).store 5 (.int .i64 0)).store 6 (.int .i64 0)) _ rfl) rfl ?_
  exact ⟨rfl, (((((((hbw.setCell (p := ⟨w.heap.size + 1, 0, none⟩) (by simp) _).setCell (p := ⟨w.heap.size + 1, 1, none⟩) (by simp) _).setCell (p := ⟨w.heap.size + 1, 2, none⟩) (by simp) _).setCell (p := ⟨w.heap.size + 1, 3, none⟩) (by simp) _).setCell (p := ⟨w.heap.size + 1, 4, none⟩) (by simp) _).setCell (p := ⟨w.heap.size + 1, 5, none⟩) (by simp) _).setCell (p := ⟨w.heap.size + 1, 6, none⟩) (by simp) _)⟩
set_option maxRecDepth 100000 in
set_option maxHeartbeats 1000000 in
theorem without21_neg (i : Int) (hi : i < 0) (hG : Gr w w.heap.size A ms) (h : chkG Sy St Ot Mi Ad Sm ms = 0) :
    Calls Tryz.prog 21 #[gv Sy St (.slice A ms.length gcap) Ot Mi Ad Sm, .int .i64 i] w fun e w' => e = .returned (.tuple #[gv 0 0 (.slice none 0 0) 0 0 0 0, .int .i64 1]) ∧ Below w.heap.size w w' := by
  have hC := Lib.hid fun W (h : Gr W W.heap.size A ms) => check_any Sy St Ot Mi Ad Sm A gcap ms W h
  rw [h] at hC
  have q1 : decide (i < 0) = true := decide_eq_true hi
  clear h
  have hb0 : Below w.heap.size w ((w.alloc (.cells #[.int .i64 Sy, .int .i64 St, .slice A ms.length gcap, .int .i64 Ot, .int .i64 Mi, .int .i64 Ad, .int .i64 Sm] 24)).alloc (.cells #[.int .i64 0, .int .i64 0, .slice none 0 0, .int .i64 0, .int .i64 0, .int .i64 0, .int .i64 0] 24)) := (below_new _ _).alloc (by simp) _
  have kG : Blk ((w.alloc (.cells #[.int .i64 Sy, .int .i64 St, .slice A ms.length gcap, .int .i64 Ot, .int .i64 Mi, .int .i64 Ad, .int .i64 Sm] 24)).alloc (.cells #[.int .i64 0, .int .i64 0, .slice none 0 0, .int .i64 0, .int .i64 0, .int .i64 0, .int .i64 0] 24)) w.heap.size 24 #[.int .i64 Sy, .int .i64 St, .slice A ms.length gcap, .int .i64 Ot, .int .i64 Mi, .int .i64 Ad, .int .i64 Sm] := (Blk.new _ _ _).alloc _
  have kR : Blk ((w.alloc (.cells #[.int .i64 Sy, .int .i64 St, .slice A ms.length gcap, .int .i64 Ot, .int .i64 Mi, .int .i64 Ad, .int .i64 Sm] 24)).alloc (.cells #[.int .i64 0, .int .i64 0, .slice none 0 0, .int .i64 0, .int .i64 0, .int .i64 0, .int .i64 0] 24)) (w.heap.size + 1) 24 #[.int .i64 0, .int .i64 0, .slice none 0 0, .int .i64 0, .int .i64 0, .int .i64 0, .int .i64 0] := Blk.newAt (by simp)
  have hG1 := hG.behind hb0
  go_enter Tryz.func21, Tryz.ntmps21
  go_wp2_with (first
    | go_skip
    | (go_at_call 25; refine (hC.out _ hG1).mono ?_; rintro e w1 ⟨rfl, hb1⟩; have kR1 := kR.below hb1 kR.lt; obtain ⟨r0, r1, r2, r3, r4, r5, r6⟩ : w1.cell? ⟨w.heap.size + 1, 0, none⟩ = some (.int .i64 0) ∧ w1.cell? ⟨w.heap.size + 1, 1, none⟩ = some (.int .i64 0) ∧ w1.cell? ⟨w.heap.size + 1, 2, none⟩ = some (.slice none 0 0) ∧ w1.cell? ⟨w.heap.size + 1, 3, none⟩ = some (.int .i64 0) ∧ w1.cell? ⟨w.heap.size + 1, 4, none⟩ = some (.int .i64 0) ∧ w1.cell? ⟨w.heap.size + 1, 5, none⟩ = some (.int .i64 0) ∧ w1.cell? ⟨w.heap.size + 1, 6, none⟩ = some (.int .i64 0) := ⟨kR1.cell 0, kR1.cell 1, kR1.cell 2, kR1.cell 3, kR1.cell 4, kR1.cell 5, kR1.cell 6⟩; obtain ⟨f0, f1, f2, f3, f4, f5, f6⟩ : w1.frozen? ⟨w.heap.size + 1, 0, none⟩ = false ∧ w1.frozen? ⟨w.heap.size + 1, 1, none⟩ = false ∧ w1.frozen? ⟨w.heap.size + 1, 2, none⟩ = false ∧ w1.frozen? ⟨w.heap.size + 1, 3, none⟩ = false ∧ w1.frozen? ⟨w.heap.size + 1, 4, none⟩ = false ∧ w1.frozen? ⟨w.heap.size + 1, 5, none⟩ = false ∧ w1.frozen? ⟨w.heap.size + 1, 6, none⟩ = false := ⟨kR1.frozen 0, kR1.frozen 1, kR1.frozen 2, kR1.frozen 3, kR1.frozen 4, kR1.frozen 5, kR1.frozen 6⟩))
  have hbw := below_next hb0 hb0.size hb1
  refine bodyPost_ret (v := .tuple #[.agg #[.int .i64 0, .int .i64 0, .slice none 0 0, .int .i64 0, .int .i64 0, .int .i64 0, .int .i64 0], .int .i64 1]) (results_row_tmp rfl _ _ (w.heap.size + 1) rfl (((((((kR1.store 0 (.int .i64 0)).store 1 (.int .i64 0)).store 2 (.slice none 0 0)).store 3 (.int .i64 0)).store 4 (.int .i64 0)).store 5 (.int .i64 0)).store 6 (.int .i64 0)) _ rfl) rfl ?_
  exact ⟨rfl, (((((((hbw.setCell (p := ⟨w.heap.size + 1, 0, none⟩) (by simp) _).setCell (p := ⟨w.heap.size + 1, 1, none⟩) (by simp) _).setCell (p := ⟨w.heap.size + 1, 2, none⟩) (by simp) _).setCell (p := ⟨w.heap.size + 1, 3, none⟩) (by simp) _).setCell (p := ⟨w.heap.size + 1, 4, none⟩) (by simp) _).setCell (p := ⟨w.heap.size + 1, 5, none⟩) (by simp) _).setCell (p := ⟨w.heap.size + 1, 6, none⟩) (by simp) _)⟩

set_option maxRecDepth 100000 in
set_option maxHeartbeats 1000000 in
theorem without21_far (i : Int) (hi0 : 0 ≤ i) (hi : (ms.length : Int) ≤ i) (hG : Gr w w.heap.size A ms) (h : chkG Sy St Ot Mi Ad Sm ms = 0) :
    Calls Tryz.prog 21 #[gv Sy St (.slice A ms.length gcap) Ot Mi Ad Sm, .int .i64 i] w fun e w' => e = .returned (.tuple #[gv 0 0 (.slice none 0 0) 0 0 0 0, .int .i64 1]) ∧ Below w.heap.size w w' := by
  have hC := Lib.hid fun W (h : Gr W W.heap.size A ms) => check_any Sy St Ot Mi Ad Sm A gcap ms W h
  rw [h] at hC
  have q1 : decide (i < 0) = false := decide_eq_false (by omega)
  have q2 : decide ((ms.length : Int) ≤ i) = true := decide_eq_true hi
  clear h
  have hb0 : Below w.heap.size w ((w.alloc (.cells #[.int .i64 Sy, .int .i64 St, .slice A ms.length gcap, .int .i64 Ot, .int .i64 Mi, .int .i64 Ad, .int .i64 Sm] 24)).alloc (.cells #[.int .i64 0, .int .i64 0, .slice none 0 0, .int .i64 0, .int .i64 0, .int .i64 0, .int .i64 0] 24)) := (below_new _ _).alloc (by simp) _
  have kG : Blk ((w.alloc (.cells #[.int .i64 Sy, .int .i64 St, .slice A ms.length gcap, .int .i64 Ot, .int .i64 Mi, .int .i64 Ad, .int .i64 Sm] 24)).alloc (.cells #[.int .i64 0, .int .i64 0, .slice none 0 0, .int .i64 0, .int .i64 0, .int .i64 0, .int .i64 0] 24)) w.heap.size 24 #[.int .i64 Sy, .int .i64 St, .slice A ms.length gcap, .int .i64 Ot, .int .i64 Mi, .int .i64 Ad, .int .i64 Sm] := (Blk.new _ _ _).alloc _
  have kR : Blk ((w.alloc (.cells #[.int .i64 Sy, .int .i64 St, .slice A ms.length gcap, .int .i64 Ot, .int .i64 Mi, .int .i64 Ad, .int .i64 Sm] 24)).alloc (.cells #[.int .i64 0, .int .i64 0, .slice none 0 0, .int .i64 0, .int .i64 0, .int .i64 0, .int .i64 0] 24)) (w.heap.size + 1) 24 #[.int .i64 0, .int .i64 0, .slice none 0 0, .int .i64 0, .int .i64 0, .int .i64 0, .int .i64 0] := Blk.newAt (by simp)
  have hG1 := hG.behind hb0
  go_enter Tryz.func21, Tryz.ntmps21
  go_wp2_with (first
    | go_skip
    | (go_at_call 25; refine (hC.out _ hG1).mono ?_; rintro e w1 ⟨rfl, hb1⟩; have kG1 := kG.below hb1 kG.lt; obtain a2 : w1.cell? ⟨w.heap.size, 2, none⟩ = some (.slice A ms.length gcap) := kG1.cell 2; have kR1 := kR.below hb1 kR.lt; obtain ⟨r0, r1, r2, r3, r4, r5, r6⟩ : w1.cell? ⟨w.heap.size + 1, 0, none⟩ = some (.int .i64 0) ∧ w1.cell? ⟨w.heap.size + 1, 1, none⟩ = some (.int .i64 0) ∧ w1.cell? ⟨w.heap.size + 1, 2, none⟩ = some (.slice none 0 0) ∧ w1.cell? ⟨w.heap.size + 1, 3, none⟩ = some (.int .i64 0) ∧ w1.cell? ⟨w.heap.size + 1, 4, none⟩ = some (.int .i64 0) ∧ w1.cell? ⟨w.heap.size + 1, 5, none⟩ = some (.int .i64 0) ∧ w1.cell? ⟨w.heap.size + 1, 6, none⟩ = some (.int .i64 0) := ⟨kR1.cell 0, kR1.cell 1, kR1.cell 2, kR1.cell 3, kR1.cell 4, kR1.cell 5, kR1.cell 6⟩; obtain ⟨f0, f1, f2, f3, f4, f5, f6⟩ : w1.frozen? ⟨w.heap.size + 1, 0, none⟩ = false ∧ w1.frozen? ⟨w.heap.size + 1, 1, none⟩ = false ∧ w1.frozen? ⟨w.heap.size + 1, 2, none⟩ = false ∧ w1.frozen? ⟨w.heap.size + 1, 3, none⟩ = false ∧ w1.frozen? ⟨w.heap.size + 1, 4, none⟩ = false ∧ w1.frozen? ⟨w.heap.size + 1, 5, none⟩ = false ∧ w1.frozen? ⟨w.heap.size + 1, 6, none⟩ = false := ⟨kR1.frozen 0, kR1.frozen 1, kR1.frozen 2, kR1.frozen 3, kR1.frozen 4, kR1.frozen 5, kR1.frozen 6⟩))
  have hbw := below_next hb0 hb0.size hb1
  refine bodyPost_ret (v := .tuple #[.agg #[.int .i64 0, .int .i64 0, .slice none 0 0, .int .i64 0, .int .i64 0, .int .i64 0, .int .i64 0], .int .i64 1]) (results_row_tmp rfl _ _ (w.heap.size + 1) rfl (((((((kR1.store 0 (.int .i64 0)).store 1 (.int .i64 0)).store 2 (.slice none 0 0)).store 3 (.int .i64 0)).store 4 (.int .i64 0)).store 5 (.int .i64 0)).store 6 (.int .i64 0)) _ rfl) rfl ?_
  exact ⟨rfl, (((((((hbw.setCell (p := ⟨w.heap.size + 1, 0, none⟩) (by simp) _).setCell (p := ⟨w.heap.size + 1, 1, none⟩) (by simp) _).setCell (p := ⟨w.heap.size + 1, 2, none⟩) (by simp) _).setCell (p := ⟨w.heap.size + 1, 3, none⟩) (by simp) _).setCell (p := ⟨w.heap.size + 1, 4, none⟩) (by simp) _).setCell (p := ⟨w.heap.size + 1, 5, none⟩) (by simp) _).setCell (p := ⟨w.heap.size + 1, 6, none⟩) (by simp) _)⟩
end
end Go.Proofs.YtieclenlldjfjaaGreat
