import Derived.Test.YtieclenlldjfjaaGreatR1
import Derived.Test.YtieclenlldjfjaaGreatG5
set_option linter.unusedSimpArgs false
set_option linter.unusedVariables false
/- The reference's Shortest 20. -/
namespace Go.Proofs.YtieclenlldjfjaaGreat
open Go.RowKit

/-- a right grammar -/
structure GOk (Sy St Ot Mi Ad Sm : Int) (ms : List Mkg) (N : Nat) : Prop where
  sy : Sy = (N : Int)
  n1 : 1 ≤ N
  n12 : N ≤ 12
  st1 : 1 ≤ St
  st2 : St ≤ (N : Int)
  len : ms.length ≤ 30
  all : ∀ m ∈ ms, mkgB Sy m = true

theorem chkG_zero {Sy St Ot Mi Ad Sm : Int} {ms : List Mkg} (h : chkG Sy St Ot Mi Ad Sm ms = 0) : GOk Sy St Ot Mi Ad Sm ms Sy.toNat := by
  unfold chkG at h
  split at h
  · cases h
  · rename_i h1
    split at h
    · cases h
    · split at h
      · cases h
      · split at h
        · rename_i h2 h3 h4
          have h1 := Decidable.not_not.1 h1
          exact ⟨by omega, by omega, by omega, by omega, by omega, by omega, fun m hm => List.all_eq_true.1 h4 m hm⟩
        · cases h
theorem GOk.fit {Sy St Ot Mi Ad Sm : Int} {ms : List Mkg} {N : Nat} (h : GOk Sy St Ot Mi Ad Sm ms N) : ∀ m ∈ ms, Fit N m := fun m hm => by
  have := mkgB_fit (h.all m hm) (by have := h.sy; omega)
  have e : Sy.toNat = N := by have := h.sy; omega
  rwa [e] at this

theorem info32 {a b : Value} : (Tryz.prog.info? 32).map (·.size) = some #[a, b].size := by
  show _ = some 2
  kernel_rfl

section
variable (Sy St Ot Mi Ad Sm : Int) (A : Option Addr) (gcap : Nat) (ms : List Mkg) (w : World)
set_option maxRecDepth 100000 in
set_option maxHeartbeats 1000000 in
theorem refShortest20_bad (hG : Gr w w.heap.size A ms) (h : ¬ chkG Sy St Ot Mi Ad Sm ms = 0) :
    Calls Tryz.prog 20 #[gv Sy St (.slice A ms.length gcap) Ot Mi Ad Sm] w fun e w' => e = .returned (.agg #[.slice none 0 0, .int .i64 (chkG Sy St Ot Mi Ad Sm ms)]) ∧ Below w.heap.size w w' := by
  have hC := Lib.hid fun W (h : Gr W W.heap.size A ms) => refCheck_any Sy St Ot Mi Ad Sm A gcap ms W h
  obtain ⟨E, hE⟩ : ∃ E, E = chkG Sy St Ot Mi Ad Sm ms := ⟨_, rfl⟩
  rw [← hE] at h hC ⊢
  have hne : (E != 0) = true := by simpa using h
  clear hE h
  have hb0 : Below w.heap.size w ((w.alloc (.cells #[.int .i64 Sy, .int .i64 St, .slice A ms.length gcap, .int .i64 Ot, .int .i64 Mi, .int .i64 Ad, .int .i64 Sm] 24)).alloc (.cells #[.slice none 0 0, .int .i64 0] 32)) := (below_new _ _).alloc (by simp) _
  have kR : Blk ((w.alloc (.cells #[.int .i64 Sy, .int .i64 St, .slice A ms.length gcap, .int .i64 Ot, .int .i64 Mi, .int .i64 Ad, .int .i64 Sm] 24)).alloc (.cells #[.slice none 0 0, .int .i64 0] 32)) (w.heap.size + 1) 32 #[.slice none 0 0, .int .i64 0] := Blk.newAt (by simp)
  have hG1 := hG.behind hb0
  go_enter Tryz.func20, Tryz.ntmps20
  go_wp2_with (go_at_call 26; refine (hC.out _ hG1).mono ?_; rintro e w1 ⟨rfl, hb1⟩; have kR1 := kR.below hb1 (by first | (simp; done) | (simp; omega) | omega); obtain ⟨c0, c1, f0, f1⟩ : w1.cell? ⟨w.heap.size + 1, 0, none⟩ = some (.slice none 0 0) ∧ w1.cell? ⟨w.heap.size + 1, 1, none⟩ = some (.int .i64 0) ∧ w1.frozen? ⟨w.heap.size + 1, 0, none⟩ = false ∧ w1.frozen? ⟨w.heap.size + 1, 1, none⟩ = false := ⟨kR1.cell 0, kR1.cell 1, kR1.frozen 0, kR1.frozen 1⟩)
  have hbw := below_next hb0 hb0.size hb1
  refine bodyPost_ret (v := .agg #[.slice none 0 0, .int .i64 E]) (results_cell_row (g := w.heap.size + 1) rfl _ _ 32 _ (0, 0) _ rfl ((kR1.store 0 (.slice none 0 0)).store 1 (.int .i64 E)) Tryz.underlying32 rfl info32) rfl ?_
  exact ⟨rfl, (hbw.setCell (p := ⟨w.heap.size + 1, 0, none⟩) (by simp) _).setCell (p := ⟨w.heap.size + 1, 1, none⟩) (by simp) _⟩

/-- what the reference's Shortest hands back for a right grammar -/
def RetShort20 (N : Nat) (ms : List Mkg) (w : World) (e : Ending) (w' : World) : Prop :=
  ∃ j g, e = .returned (.agg #[.slice (some ⟨g, 0, none⟩) N N, .int .i64 0]) ∧ rnd ms (iter ms (List.replicate N (-1)) j) = iter ms (List.replicate N (-1)) j ∧ w.heap.size ≤ g ∧ Blk w' g 3 (nums (iter ms (List.replicate N (-1)) j)) ∧ Below w.heap.size w w'

set_option maxRecDepth 100000 in
set_option maxHeartbeats 1000000 in
theorem refShortest20_ok (N : Nat) (hN : GOk (N : Int) St Ot Mi Ad Sm ms N) (hG : Gr w w.heap.size A ms) (h : chkG (N : Int) St Ot Mi Ad Sm ms = 0) :
    Calls Tryz.prog 20 #[gv (N : Int) St (.slice A ms.length gcap) Ot Mi Ad Sm] w (RetShort20 N ms w) := by
  have hC := Lib.hid fun W (hG : Gr W W.heap.size A ms) => refCheck_any (N : Int) St Ot Mi Ad Sm A gcap ms W hG
  have hS := Lib.hid fun W (hG : Gr W W.heap.size A ms) => refShortest_any N hN.n1 hN.n12 St Ot Mi Ad Sm A gcap ms W hN.len hN.fit hG
  rw [h] at hC
  clear hN h
  have hb0 : Below w.heap.size w ((w.alloc (.cells #[.int .i64 (N : Int), .int .i64 St, .slice A ms.length gcap, .int .i64 Ot, .int .i64 Mi, .int .i64 Ad, .int .i64 Sm] 24)).alloc (.cells #[.slice none 0 0, .int .i64 0] 32)) := (below_new _ _).alloc (by simp) _
  have kR : Blk ((w.alloc (.cells #[.int .i64 (N : Int), .int .i64 St, .slice A ms.length gcap, .int .i64 Ot, .int .i64 Mi, .int .i64 Ad, .int .i64 Sm] 24)).alloc (.cells #[.slice none 0 0, .int .i64 0] 32)) (w.heap.size + 1) 32 #[.slice none 0 0, .int .i64 0] := Blk.newAt (by simp)
  have kG : Blk ((w.alloc (.cells #[.int .i64 (N : Int), .int .i64 St, .slice A ms.length gcap, .int .i64 Ot, .int .i64 Mi, .int .i64 Ad, .int .i64 Sm] 24)).alloc (.cells #[.slice none 0 0, .int .i64 0] 32)) w.heap.size 24 #[.int .i64 (N : Int), .int .i64 St, .slice A ms.length gcap, .int .i64 Ot, .int .i64 Mi, .int .i64 Ad, .int .i64 Sm] := (Blk.new _ _ _).alloc _
  have hG1 := hG.behind hb0
  go_enter Tryz.func20, Tryz.ntmps20
  go_wp2_with (first
    | (go_at_call 26; refine (hC.out _ hG1).mono ?_; rintro e w1 ⟨rfl, hb1⟩; have hG2 := hG1.behind hb1; have kG1 := kG.below hb1 (by first | (simp; done) | (simp; omega) | omega); obtain ⟨a0, a1, a2, a3, a4, a5, a6⟩ : w1.cell? ⟨w.heap.size, 0, none⟩ = some (.int .i64 (N : Int)) ∧ w1.cell? ⟨w.heap.size, 1, none⟩ = some (.int .i64 St) ∧ w1.cell? ⟨w.heap.size, 2, none⟩ = some (.slice A ms.length gcap) ∧ w1.cell? ⟨w.heap.size, 3, none⟩ = some (.int .i64 Ot) ∧ w1.cell? ⟨w.heap.size, 4, none⟩ = some (.int .i64 Mi) ∧ w1.cell? ⟨w.heap.size, 5, none⟩ = some (.int .i64 Ad) ∧ w1.cell? ⟨w.heap.size, 6, none⟩ = some (.int .i64 Sm) := ⟨kG1.cell 0, kG1.cell 1, kG1.cell 2, kG1.cell 3, kG1.cell 4, kG1.cell 5, kG1.cell 6⟩)
    | (go_at_call 66; refine (hS.out _ hG2).mono ?_; rintro e w2 ⟨j, g, rfl, hst, hg, kX, hb2⟩; have hbx := hb1.trans (hb2.mono hb1.size); have kR1 := kR.below hbx (by first | (simp; done) | (simp; omega) | omega); obtain ⟨c0, c1, f0, f1⟩ : w2.cell? ⟨w.heap.size + 1, 0, none⟩ = some (.slice none 0 0) ∧ w2.cell? ⟨w.heap.size + 1, 1, none⟩ = some (.int .i64 0) ∧ w2.frozen? ⟨w.heap.size + 1, 0, none⟩ = false ∧ w2.frozen? ⟨w.heap.size + 1, 1, none⟩ = false := ⟨kR1.cell 0, kR1.cell 1, kR1.frozen 0, kR1.frozen 1⟩))
  have hbw := below_next (below_next hb0 hb0.size hb1) (below_next hb0 hb0.size hb1).size hb2
  have hgne : g ≠ w.heap.size + 1 := by have := hb1.size; simp at this; omega
  refine bodyPost_ret (v := .agg #[.slice (some ⟨g, 0, none⟩) N N, .int .i64 0]) (results_cell_row (g := w.heap.size + 1) rfl _ _ 32 _ (0, 0) _ rfl ((kR1.store 0 (.slice (some ⟨g, 0, none⟩) N N)).store 1 (.int .i64 0)) Tryz.underlying32 rfl info32) rfl ?_
  exact ⟨j, g, rfl, hst, by have := (below_next hb0 hb0.size hb1).size; omega, (kX.far (p := ⟨w.heap.size + 1, 0, none⟩) hgne _).far (p := ⟨w.heap.size + 1, 1, none⟩) hgne _, (hbw.setCell (p := ⟨w.heap.size + 1, 0, none⟩) (by simp) _).setCell (p := ⟨w.heap.size + 1, 1, none⟩) (by simp) _⟩
end
end Go.Proofs.YtieclenlldjfjaaGreat
