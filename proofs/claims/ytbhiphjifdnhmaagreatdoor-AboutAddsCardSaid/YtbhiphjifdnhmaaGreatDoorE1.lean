import Derived.Test.YtbhiphjifdnhmaaGreatDoorK24
set_option linter.unusedSimpArgs false
set_option linter.unusedVariables false
/- reaches and fair. -/
namespace Go.Proofs.YtbhiphjifdnhmaaGreatDoor
open Go.RowKit Go.Maps

set_option maxRecDepth 100000 in
set_option maxHeartbeats 1000000 in
theorem reaches_any (a : Nat → Int) (n d : Int) (w : World) : Calls Tryz.prog 23 #[.agg (va a), .int .i64 n, .int .i64 d] w fun e w' => e = .returned (.bool (decide (chkV a = 0) && decide (d ≤ degR a n))) ∧ Below w.heap.size w w' := by
  have k0 := Blk.new w 26 (va a)
  have hb0 := below_new w (.cells (va a) 26)
  obtain ⟨D, hD⟩ : ∃ D, D = degR a n := ⟨_, rfl⟩
  obtain ⟨C, hC⟩ : ∃ C, C = chkV a := ⟨_, rfl⟩
  have HG : Hid (∀ W, Calls Tryz.prog 22 #[.agg (va a), .int .i64 n] W fun e w' => e = .returned (.tuple #[.int .i64 D, .int .i64 C]) ∧ Below W.heap.size W w') := fun W => by rw [hD, hC]; exact degree_any a n W
  rw [← hD, ← hC]
  clear hD hC
  by_cases h1 : C = 0
  · subst h1
    go_enter Tryz.func23, Tryz.ntmps23
    go_wp2_with (first
      | (refine ldV 3 rfl rfl k0 rfl ?_)
      | (go_at_call 22; refine (HG.out _).mono ?_; rintro e w1 ⟨rfl, hb1⟩))
    go_ret
    exact ⟨ret_bool (by simp), below_next hb0 (by simp) hb1⟩
  · have h2 : (C == 0) = false := by simp [h1]
    go_enter Tryz.func23, Tryz.ntmps23
    go_wp2_with (first
      | (refine ldV 3 rfl rfl k0 rfl ?_)
      | (go_at_call 22; refine (HG.out _).mono ?_; rintro e w1 ⟨rfl, hb1⟩))
    go_ret
    exact ⟨ret_bool (by simp [h1]), below_next hb0 (by simp) hb1⟩
end Go.Proofs.YtbhiphjifdnhmaaGreatDoor
