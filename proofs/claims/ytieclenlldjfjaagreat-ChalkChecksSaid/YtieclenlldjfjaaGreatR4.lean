import Derived.Test.YtieclenlldjfjaaGreatR3
set_option linter.unusedSimpArgs false
set_option linter.unusedVariables false
/- The reference's Useless 18 of a grammar that is not right. -/
namespace Go.Proofs.YtieclenlldjfjaaGreat
open Go.RowKit
section
variable (Sy St Ot Mi Ad Sm : Int) (A : Option Addr) (gcap : Nat) (ms : List Mkg) (w : World)
set_option maxRecDepth 100000 in
set_option maxHeartbeats 1000000 in
theorem refUseless18_bad (hG : Gr w w.heap.size A ms) (h : ¬ chkG Sy St Ot Mi Ad Sm ms = 0) :
    Calls Tryz.prog 18 #[gv Sy St (.slice A ms.length gcap) Ot Mi Ad Sm] w fun e w' => e = .returned (.agg #[.slice none 0 0, .int .i64 (chkG Sy St Ot Mi Ad Sm ms)]) ∧ Below w.heap.size w w' := by
  have hC := Lib.hid fun W (h : Gr W W.heap.size A ms) => refCheck_any Sy St Ot Mi Ad Sm A gcap ms W h
  obtain ⟨E, hE⟩ : ∃ E, E = chkG Sy St Ot Mi Ad Sm ms := ⟨_, rfl⟩
  rw [← hE] at h hC ⊢
  have hne : (E != 0) = true := by simpa using h
  clear hE h
  have hb0 : Below w.heap.size w ((w.alloc (.cells #[.int .i64 Sy, .int .i64 St, .slice A ms.length gcap, .int .i64 Ot, .int .i64 Mi, .int .i64 Ad, .int .i64 Sm] 24)).alloc (.cells #[.slice none 0 0, .int .i64 0] 32)) := (below_new _ _).alloc (by simp) _
  have kR : Blk ((w.alloc (.cells #[.int .i64 Sy, .int .i64 St, .slice A ms.length gcap, .int .i64 Ot, .int .i64 Mi, .int .i64 Ad, .int .i64 Sm] 24)).alloc (.cells #[.slice none 0 0, .int .i64 0] 32)) (w.heap.size + 1) 32 #[.slice none 0 0, .int .i64 0] := Blk.newAt (by simp)
  have hG1 := hG.behind hb0
  go_enter Tryz.func18, Tryz.ntmps18
  go_wp2_with (go_at_call 26; refine (hC.out _ hG1).mono ?_; rintro e w1 ⟨rfl, hb1⟩; have kR1 := kR.below hb1 (by first | (simp; done) | (simp; omega) | omega); obtain ⟨c0, c1, f0, f1⟩ : w1.cell? ⟨w.heap.size + 1, 0, none⟩ = some (.slice none 0 0) ∧ w1.cell? ⟨w.heap.size + 1, 1, none⟩ = some (.int .i64 0) ∧ w1.frozen? ⟨w.heap.size + 1, 0, none⟩ = false ∧ w1.frozen? ⟨w.heap.size + 1, 1, none⟩ = false := ⟨kR1.cell 0, kR1.cell 1, kR1.frozen 0, kR1.frozen 1⟩)
  have hbw := below_next hb0 hb0.size hb1
  refine bodyPost_ret (v := .agg #[.slice none 0 0, .int .i64 E]) (results_cell_row (g := w.heap.size + 1) rfl _ _ 32 _ (0, 0) _ rfl ((kR1.store 0 (.slice none 0 0)).store 1 (.int .i64 E)) Tryz.underlying32 rfl info32) rfl ?_
  exact ⟨rfl, (hbw.setCell (p := ⟨w.heap.size + 1, 0, none⟩) (by simp) _).setCell (p := ⟨w.heap.size + 1, 1, none⟩) (by simp) _⟩

end
end Go.Proofs.YtieclenlldjfjaaGreat
