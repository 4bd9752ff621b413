import Derived.Test.YtieclenlldjfjaaGreatC6
set_option linter.unusedSimpArgs false
set_option linter.unusedVariables false
/- The reference's Without 22. -/
namespace Go.Proofs.YtieclenlldjfjaaGreat
open Go.RowKit

theorem info37 {a b c d e f g h : Value} : (Tryz.prog.info? 37).map (·.size) = some #[a, b, c, d, e, f, g, h].size := by
  show _ = some 8
  kernel_rfl

section
variable (Sy St Ot Mi Ad Sm : Int) (A : Option Addr) (gcap : Nat) (ms : List Mkg) (w : World)
set_option maxRecDepth 100000 in
set_option maxHeartbeats 1000000 in
theorem refWithout22_bad (i : Int) (hG : Gr w w.heap.size A ms) (h : ¬ chkG Sy St Ot Mi Ad Sm ms = 0) :
    Calls Tryz.prog 22 #[gv Sy St (.slice A ms.length gcap) Ot Mi Ad Sm, .int .i64 i] w fun e w' => e = .returned (.agg #[.int .i64 0, .int .i64 0, .slice none 0 0, .int .i64 0, .int .i64 0, .int .i64 0, .int .i64 0, .int .i64 (chkG Sy St Ot Mi Ad Sm ms)]) ∧ Below w.heap.size w w' := by
  have hC := Lib.hid fun W (h : Gr W W.heap.size A ms) => refCheck_any Sy St Ot Mi Ad Sm A gcap ms W h
  obtain ⟨E, hE⟩ : ∃ E, E = chkG Sy St Ot Mi Ad Sm ms := ⟨_, rfl⟩
  rw [← hE] at h hC ⊢
  have hne : (E != 0) = true := by simpa using h
  have hne2 : (E == 0) = false := by simpa using h
  clear hE h
  have hb0 : Below w.heap.size w ((w.alloc (.cells #[.int .i64 Sy, .int .i64 St, .slice A ms.length gcap, .int .i64 Ot, .int .i64 Mi, .int .i64 Ad, .int .i64 Sm] 24)).alloc (.cells #[.int .i64 0, .int .i64 0, .slice none 0 0, .int .i64 0, .int .i64 0, .int .i64 0, .int .i64 0, .int .i64 0] 37)) := (below_new _ _).alloc (by simp) _
  have kG : Blk ((w.alloc (.cells #[.int .i64 Sy, .int .i64 St, .slice A ms.length gcap, .int .i64 Ot, .int .i64 Mi, .int .i64 Ad, .int .i64 Sm] 24)).alloc (.cells #[.int .i64 0, .int .i64 0, .slice none 0 0, .int .i64 0, .int .i64 0, .int .i64 0, .int .i64 0, .int .i64 0] 37)) w.heap.size 24 #[.int .i64 Sy, .int .i64 St, .slice A ms.length gcap, .int .i64 Ot, .int .i64 Mi, .int .i64 Ad, .int .i64 Sm] := (Blk.new _ _ _).alloc _
  have kR : Blk ((w.alloc (.cells #[.int .i64 Sy, .int .i64 St, .slice A ms.length gcap, .int .i64 Ot, .int .i64 Mi, .int .i64 Ad, .int .i64 Sm] 24)).alloc (.cells #[.int .i64 0, .int .i64 0, .slice none 0 0, .int .i64 0, .int .i64 0, .int .i64 0, .int .i64 0, .int .i64 0] 37)) (w.heap.size + 1) 37 #[.int .i64 0, .int .i64 0, .slice none 0 0, .int .i64 0, .int .i64 0, .int .i64 0, .int .i64 0, .int .i64 0] := Blk.newAt (by simp)
  have hG1 := hG.behind hb0
  go_enter Tryz.func22, Tryz.ntmps22
  go_wp2_with (first
    | go_skip
    | (go_at_call 26; refine (hC.out _ hG1).mono ?_; rintro e w1 ⟨rfl, hb1⟩; have kR1 := kR.below hb1 kR.lt; obtain ⟨r0, r1, r2, r3, r4, r5, r6, r7⟩ : w1.cell? ⟨w.heap.size + 1, 0, none⟩ = some (.int .i64 0) ∧ w1.cell? ⟨w.heap.size + 1, 1, none⟩ = some (.int .i64 0) ∧ w1.cell? ⟨w.heap.size + 1, 2, none⟩ = some (.slice none 0 0) ∧ w1.cell? ⟨w.heap.size + 1, 3, none⟩ = some (.int .i64 0) ∧ w1.cell? ⟨w.heap.size + 1, 4, none⟩ = some (.int .i64 0) ∧ w1.cell? ⟨w.heap.size + 1, 5, none⟩ = some (.int .i64 0) ∧ w1.cell? ⟨w.heap.size + 1, 6, none⟩ = some (.int .i64 0) ∧ w1.cell? ⟨w.heap.size + 1, 7, none⟩ = some (.int .i64 0) := ⟨kR1.cell 0, kR1.cell 1, kR1.cell 2, kR1.cell 3, kR1.cell 4, kR1.cell 5, kR1.cell 6, kR1.cell 7⟩; obtain ⟨f0, f1, f2, f3, f4, f5, f6, f7⟩ : w1.frozen? ⟨w.heap.size + 1, 0, none⟩ = false ∧ w1.frozen? ⟨w.heap.size + 1, 1, none⟩ = false ∧ w1.frozen? ⟨w.heap.size + 1, 2, none⟩ = false ∧ w1.frozen? ⟨w.heap.size + 1, 3, none⟩ = false ∧ w1.frozen? ⟨w.heap.size + 1, 4, none⟩ = false ∧ w1.frozen? ⟨w.heap.size + 1, 5, none⟩ = false ∧ w1.frozen? ⟨w.heap.size + 1, 6, none⟩ = false ∧ w1.frozen? ⟨w.heap.size + 1, 7, none⟩ = false := ⟨kR1.frozen 0, kR1.frozen 1, kR1.frozen 2, kR1.frozen 3, kR1.frozen 4, kR1.frozen 5, kR1.frozen 6, kR1.frozen 7⟩))
  have hbw := below_next hb0 hb0.size hb1
  refine bodyPost_ret (v := .agg #[.int .i64 0, .int .i64 0, .slice none 0 0, .int .i64 0, .int .i64 0, .int .i64 0, .int .i64 0, .int .i64 E]) (results_cell_row (g := w.heap.size + 1) rfl _ _ 37 _ (0, 0) _ rfl ((((((((kR1.store 0 (.int .i64 0)).store 1 (.int .i64 0)).store 2 (.slice none 0 0)).store 3 (.int .i64 0)).store 4 (.int .i64 0)).store 5 (.int .i64 0)).store 6 (.int .i64 0)).store 7 (.int .i64 E)) Tryz.underlying37 rfl info37) rfl ?_
  exact ⟨rfl, ((((((((hbw.setCell (p := ⟨w.heap.size + 1, 0, none⟩) (by simp) (.int .i64 0)).setCell (p := ⟨w.heap.size + 1, 1, none⟩) (by simp) (.int .i64 0)).setCell (p := ⟨w.heap.size + 1, 2, none⟩) (by simp) (.slice none 0 0)).setCell (p := ⟨w.heap.size + 1, 3, none⟩) (by simp) (.int .i64 0)).setCell (p := ⟨w.heap.size + 1, 4, none⟩) (by simp) (.int .i64 0)).setCell (p := ⟨w.heap.size + 1, 5, none⟩) (by simp) (.int .i64 0)).setCell (p := ⟨w.heap.size + 1, 6, none⟩) (by simp) (.int .i64 0)).setCell (p := ⟨w.heap.size + 1, 7, none⟩) (by simp) (.int .i64 E))⟩

set_option maxRecDepth 100000 in
set_option maxHeartbeats 1000000 in
theorem refWithout22_out (i : Int) (hi : ¬ (0 ≤ i ∧ i ≤ (ms.length : Int) - 1)) (hml : ms.length ≤ 30) (hG : Gr w w.heap.size A ms) (h : chkG Sy St Ot Mi Ad Sm ms = 0) :
    Calls Tryz.prog 22 #[gv Sy St (.slice A ms.length gcap) Ot Mi Ad Sm, .int .i64 i] w fun e w' => e = .returned (.agg #[.int .i64 0, .int .i64 0, .slice none 0 0, .int .i64 0, .int .i64 0, .int .i64 0, .int .i64 0, .int .i64 1]) ∧ Below w.heap.size w w' := by
  have hC := Lib.hid fun W (h : Gr W W.heap.size A ms) => refCheck_any Sy St Ot Mi Ad Sm A gcap ms W h
  rw [h] at hC
  clear h
  have hin : Hid (decide (0 ≤ i ∧ i ≤ (ms.length : Int) - 1) = false) := decide_eq_false hi
  have hwr : IntKind.i64.wrap ((ms.length : Int) - 1) = (ms.length : Int) - 1 := by
    have h1 : (ms.length : Int) ≤ 30 := by omega
    have h2 : (0 : Int) ≤ (ms.length : Int) := by omega
    simp [IntKind.wrap, IntKind.signed, IntKind.bits, Int.bmod]; omega
  clear hi
  have hb0 : Below w.heap.size w ((w.alloc (.cells #[.int .i64 Sy, .int .i64 St, .slice A ms.length gcap, .int .i64 Ot, .int .i64 Mi, .int .i64 Ad, .int .i64 Sm] 24)).alloc (.cells #[.int .i64 0, .int .i64 0, .slice none 0 0, .int .i64 0, .int .i64 0, .int .i64 0, .int .i64 0, .int .i64 0] 37)) := (below_new _ _).alloc (by simp) _
  have kG : Blk ((w.alloc (.cells #[.int .i64 Sy, .int .i64 St, .slice A ms.length gcap, .int .i64 Ot, .int .i64 Mi, .int .i64 Ad, .int .i64 Sm] 24)).alloc (.cells #[.int .i64 0, .int .i64 0, .slice none 0 0, .int .i64 0, .int .i64 0, .int .i64 0, .int .i64 0, .int .i64 0] 37)) w.heap.size 24 #[.int .i64 Sy, .int .i64 St, .slice A ms.length gcap, .int .i64 Ot, .int .i64 Mi, .int .i64 Ad, .int .i64 Sm] := (Blk.new _ _ _).alloc _
  have kR : Blk ((w.alloc (.cells #[.int .i64 Sy, .int .i64 St, .slice A ms.length gcap, .int .i64 Ot, .int .i64 Mi, .int .i64 Ad, .int .i64 Sm] 24)).alloc (.cells #[.int .i64 0, .int .i64 0, .slice none 0 0, .int .i64 0, .int .i64 0, .int .i64 0, .int .i64 0, .int .i64 0] 37)) (w.heap.size + 1) 37 #[.int .i64 0, .int .i64 0, .slice none 0 0, .int .i64 0, .int .i64 0, .int .i64 0, .int .i64 0, .int .i64 0] := Blk.newAt (by simp)
  have hG1 := hG.behind hb0
  go_enter Tryz.func22, Tryz.ntmps22
  go_wp2_with (first
    | go_skip
    | (go_at_call 26; refine (hC.out _ hG1).mono ?_; rintro e w1 ⟨rfl, hb1⟩; have kG1 := kG.below hb1 kG.lt; obtain a2 : w1.cell? ⟨w.heap.size, 2, none⟩ = some (.slice A ms.length gcap) := kG1.cell 2; have kR1 := kR.below hb1 kR.lt; obtain ⟨r0, r1, r2, r3, r4, r5, r6, r7⟩ : w1.cell? ⟨w.heap.size + 1, 0, none⟩ = some (.int .i64 0) ∧ w1.cell? ⟨w.heap.size + 1, 1, none⟩ = some (.int .i64 0) ∧ w1.cell? ⟨w.heap.size + 1, 2, none⟩ = some (.slice none 0 0) ∧ w1.cell? ⟨w.heap.size + 1, 3, none⟩ = some (.int .i64 0) ∧ w1.cell? ⟨w.heap.size + 1, 4, none⟩ = some (.int .i64 0) ∧ w1.cell? ⟨w.heap.size + 1, 5, none⟩ = some (.int .i64 0) ∧ w1.cell? ⟨w.heap.size + 1, 6, none⟩ = some (.int .i64 0) ∧ w1.cell? ⟨w.heap.size + 1, 7, none⟩ = some (.int .i64 0) := ⟨kR1.cell 0, kR1.cell 1, kR1.cell 2, kR1.cell 3, kR1.cell 4, kR1.cell 5, kR1.cell 6, kR1.cell 7⟩; obtain ⟨f0, f1, f2, f3, f4, f5, f6, f7⟩ : w1.frozen? ⟨w.heap.size + 1, 0, none⟩ = false ∧ w1.frozen? ⟨w.heap.size + 1, 1, none⟩ = false ∧ w1.frozen? ⟨w.heap.size + 1, 2, none⟩ = false ∧ w1.frozen? ⟨w.heap.size + 1, 3, none⟩ = false ∧ w1.frozen? ⟨w.heap.size + 1, 4, none⟩ = false ∧ w1.frozen? ⟨w.heap.size + 1, 5, none⟩ = false ∧ w1.frozen? ⟨w.heap.size + 1, 6, none⟩ = false ∧ w1.frozen? ⟨w.heap.size + 1, 7, none⟩ = false := ⟨kR1.frozen 0, kR1.frozen 1, kR1.frozen 2, kR1.frozen 3, kR1.frozen 4, kR1.frozen 5, kR1.frozen 6, kR1.frozen 7⟩)
    | (go_at_call 71; refine (in_any _ _ _ _).mono ?_; rw [hin.out]; rintro e w2 ⟨rfl, rfl⟩))
  have hbw := below_next hb0 hb0.size hb1
  refine bodyPost_ret (v := .agg #[.int .i64 0, .int .i64 0, .slice none 0 0, .int .i64 0, .int .i64 0, .int .i64 0, .int .i64 0, .int .i64 1]) (results_cell_row (g := w.heap.size + 1) rfl _ _ 37 _ (0, 0) _ rfl ((((((((kR1.store 0 (.int .i64 0)).store 1 (.int .i64 0)).store 2 (.slice none 0 0)).store 3 (.int .i64 0)).store 4 (.int .i64 0)).store 5 (.int .i64 0)).store 6 (.int .i64 0)).store 7 (.int .i64 1)) Tryz.underlying37 rfl info37) rfl ?_
  exact ⟨rfl, ((((((((hbw.setCell (p := ⟨w.heap.size + 1, 0, none⟩) (by simp) (.int .i64 0)).setCell (p := ⟨w.heap.size + 1, 1, none⟩) (by simp) (.int .i64 0)).setCell (p := ⟨w.heap.size + 1, 2, none⟩) (by simp) (.slice none 0 0)).setCell (p := ⟨w.heap.size + 1, 3, none⟩) (by simp) (.int .i64 0)).setCell (p := ⟨w.heap.size + 1, 4, none⟩) (by simp) (.int .i64 0)).setCell (p := ⟨w.heap.size + 1, 5, none⟩) (by simp) (.int .i64 0)).setCell (p := ⟨w.heap.size + 1, 6, none⟩) (by simp) (.int .i64 0)).setCell (p := ⟨w.heap.size + 1, 7, none⟩) (by simp) (.int .i64 1))⟩
end
end Go.Proofs.YtieclenlldjfjaaGreat
