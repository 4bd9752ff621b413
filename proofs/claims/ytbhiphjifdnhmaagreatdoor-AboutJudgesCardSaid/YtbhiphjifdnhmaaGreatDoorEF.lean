import Derived.Test.YtbhiphjifdnhmaaGreatDoorK24
set_option linter.unusedSimpArgs false
set_option linter.unusedVariables false
/- fair, where it is so. -/
namespace Go.Proofs.YtbhiphjifdnhmaaGreatDoor
open Go.RowKit Go.Maps
/-- what fair asks -/
def FairP (v : Vd) (d : Int) (so : Bool) : Prop := (v.must ≤ d → so = true) ∧ (v.can < d → so = false) ∧ (v.can = 12 ∨ v.must = 13)
set_option maxRecDepth 100000 in
set_option maxHeartbeats 4000000 in
theorem fair_any (v : Vd) (d : Int) (so : Bool) (hf : FairP v d so) (w : World) : Calls Tryz.prog 27 #[.agg (vcs v), .int .i64 d, .bool so] w fun e w' => e = .returned (.bool true) ∧ Below w.heap.size w w' := by
  have k0 := Blk.new w 48 (vcs v)
  have hb0 := below_new w (.cells (vcs v) 48)
  obtain ⟨v0, v1, v2, v3, v4, v5⟩ := vcells k0
  obtain ⟨f1, f2, f3⟩ := hf
  have HF := Lib.hid f3
  clear f3
  cases so
  · have h1 : ¬ v.must ≤ d := fun h => by cases f1 h
    clear f1 f2
    by_cases h2 : v.can < d
    all_goals
      by_cases h3 : v.can = 12
      · have g3 : (v.can == 12) = true := by simp [h3]
        go_enter Tryz.func27, Tryz.ntmps27
        go_wp2_with go_skip
        go_ret
        exact ⟨rfl, hb0⟩
      · have g3 : (v.can == 12) = false := by simp [h3]
        have g4 : (v.must == 13) = true := by rcases HF.out with h | h <;> simp_all
        go_enter Tryz.func27, Tryz.ntmps27
        go_wp2_with go_skip
        go_ret
        exact ⟨rfl, hb0⟩
  · have h1 : ¬ v.can < d := fun h => by cases f2 h
    clear f1 f2
    by_cases h2 : v.must ≤ d
    all_goals
      by_cases h3 : v.can = 12
      · have g3 : (v.can == 12) = true := by simp [h3]
        go_enter Tryz.func27, Tryz.ntmps27
        go_wp2_with go_skip
        go_ret
        exact ⟨rfl, hb0⟩
      · have g3 : (v.can == 12) = false := by simp [h3]
        have g4 : (v.must == 13) = true := by rcases HF.out with h | h <;> simp_all
        go_enter Tryz.func27, Tryz.ntmps27
        go_wp2_with go_skip
        go_ret
        exact ⟨rfl, hb0⟩
end Go.Proofs.YtbhiphjifdnhmaaGreatDoor
