import Derived.Test.YtieclenlldjfjaaGreatS4
set_option linter.unusedSimpArgs false
set_option linter.unusedVariables false
/- Grammars: isSymbol 73, isCost 74, isItem 120. -/
namespace Go.Proofs.YtieclenlldjfjaaGreat
open Go.RowKit

/-- a grammar's value -/
abbrev gv (Sy St : Int) (ms : Value) (Ot Mi Ad Sm : Int) : Value := .agg #[.int .i64 Sy, .int .i64 St, ms, .int .i64 Ot, .int .i64 Mi, .int .i64 Ad, .int .i64 Sm]

set_option maxHeartbeats 400000 in
theorem isSymbol_any (Sy St Ot Mi Ad Sm : Int) (ms : Value) (n : Int) (w : World) (hm : ms.oneCell' = true) :
    Calls Tryz.prog 73 #[gv Sy St ms Ot Mi Ad Sm, .int .i64 n] w fun e w' => e = .returned (.bool (decide (1 ≤ n ∧ n ≤ Sy))) ∧ Below w.heap.size w w' := by
  go_enter Tryz.func73, Tryz.ntmps73
  go_wp2
  all_goals
    go_ret
    exact ⟨ret_bool (by simp [*]; try omega), below_new _ _⟩

set_option maxHeartbeats 400000 in
theorem isCost_any (n : Int) (w : World) :
    Calls Tryz.prog 74 #[.int .i64 n] w fun e w' => e = .returned (.bool (decide (1 ≤ n ∧ n ≤ 1000))) ∧ w = w' := by
  go_enter Tryz.func74, Tryz.ntmps74
  go_wp2
  all_goals
    go_ret
    exact ⟨ret_bool (by simp [*]; try omega), rfl⟩
end Go.Proofs.YtieclenlldjfjaaGreat
