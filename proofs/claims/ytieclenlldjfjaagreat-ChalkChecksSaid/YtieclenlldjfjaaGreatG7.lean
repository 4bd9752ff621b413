import Derived.Test.YtieclenlldjfjaaGreatG2
import Derived.Deep.RegionLaw
set_option linter.unusedSimpArgs false
set_option linter.unusedVariables false
/- itemOf 119, makingsOf 68. -/
namespace Go.Proofs.YtieclenlldjfjaaGreat
open Go.RowKit

/-- an item as a value: a stroke or a symbol -/
def itv (n : Int) : Value := if n < 0 then .iface 213 (.int .i64 (-n)) else .iface 195 (.int .i64 n)

set_option maxHeartbeats 400000 in
theorem itemOf_any (n : Int) (w : World) (h1 : -20 ≤ n) (h2 : n ≤ 20) :
    Calls Tryz.prog 119 #[.int .i64 n] w fun e w' => e = .returned (itv n) ∧ w = w' := by
  by_cases h : n < 0
  · have hq : decide (n < 0) = true := decide_eq_true h
    have hR : Hid (itv n = .iface 213 (.int .i64 (-n))) := if_pos h
    go_enter Tryz.func119, Tryz.ntmps119
    go_wp2
    all_goals
      go_ret
      exact ⟨by rw [hR.out]; first | rfl | simp, rfl⟩
  · have hq : decide (n < 0) = false := decide_eq_false h
    have hR : Hid (itv n = .iface 195 (.int .i64 n)) := if_neg h
    go_enter Tryz.func119, Tryz.ntmps119
    go_wp2
    all_goals
      go_ret
      exact ⟨by rw [hR.out]; rfl, rfl⟩
theorem itv_one (n : Int) : (itv n).oneCell' = true := by unfold itv; split <;> rfl
theorem info200 : (Tryz.prog.info? 200).map (fun i => (i.zero, i.size, i.bytes)) = some (some .nilIface, 1, 16) := by kernel_rfl
theorem info198 : (Tryz.prog.info? 198).map (fun i => (i.size, i.bytes)) = some (3, 40) := by kernel_rfl
end Go.Proofs.YtieclenlldjfjaaGreat
