import Derived.Test.YtieclenlldjfjaaGreatG2
import Derived.Test.YtieclenlldjfjaaGreatS1
set_option linter.unusedSimpArgs false
set_option linter.unusedVariables false
/- SameInts 23 of a list with itself; SameGrammar 24 of a grammar with itself. -/
namespace Go.Proofs.YtieclenlldjfjaaGreat
open Go.RowKit

set_option maxRecDepth 100000 in
set_option maxHeartbeats 1000000 in
theorem same_self (l : List Int) (A D : Option Addr) (cap dap : Nat) (w : World) (hll : l.length ≤ 1000000) (hr : Ints w w.heap.size A l) (hs : Ints w w.heap.size D l) :
    Calls Tryz.prog 23 #[.slice A l.length cap, .slice D l.length dap] w fun e w' => e = .returned (.bool true) ∧ ∃ n, w' = w.drewN n := by
  go_enter Tryz.func23, Tryz.ntmps23
  go_wp2_with fail
  go_loopw [5] (fun i wr => ∃ k n : Nat, k ≤ l.length ∧ i = .int .i64 k ∧ wr = w.drewN n)
    (fun i _ => l.length - (intOf i).toNat)
  case atStart => exact ⟨0, 0, Nat.zero_le _, rfl, rfl⟩
  case round =>
    obtain ⟨k, n, hk, rfl, rfl⟩ := hrel
    by_cases hlt : k < l.length
    · obtain ⟨ad, rfl, hB, hc⟩ := hr.get hlt
      obtain ⟨ad2, rfl, hB2, hc2⟩ := hs.get hlt
      have hll2 : (k : Int) < (l.length : Int) := by omega
      generalize l[k] = x at hc hc2
      go_wp2_with fail
      go_quiet (fail)
      go_wp2_with fail
      go_roundw
      case rel => exact ⟨k + 1, n + nq, by omega, by go_num, by simp [World.drewN_drewN]⟩
      case measure => simp [intOf]; try omega
    · go_wp2_with fail
      go_ret
      exact ⟨rfl, n, rfl⟩
end Go.Proofs.YtieclenlldjfjaaGreat
