import Derived.Test.YtieclenlldjfjaaGreatW
import Derived.Test.YtieclenlldjfjaaGreatK3
import Derived.KernelRfl
namespace Go.Proofs.YtieclenlldjfjaaGreat
open Ev Go.RowKit
theorem mixed : Tryz.prog.follows .mixedOrders = true := by kernel_rfl
/-- head() yields true, in every world, and keeps what was there -/
theorem head_any (w : World) : Calls Tryz.prog 15 #[] w fun e w' => e = .returned (.bool true) ∧ Below w.heap.size w w' := by
  have hO : OrcOk Tryz.prog (orc [kr0, kl0, kl1]) := orc_ok fun k hk => by
    simp only [List.mem_cons, List.not_mem_nil, or_false] at hk
    rcases hk with rfl | rfl | rfl
    · exact known_ok mixed noOrc_ok kr0_run
    · exact known_ok mixed noOrc_ok kl0_run
    · exact known_ok mixed noOrc_ok kl1_run
  exact (call0_true mixed hO head_true w).mono fun e w' ⟨h1, h2, h3, h4, h5, h6⟩ => ⟨h1, h5, h4, h6, h2, h3⟩
end Go.Proofs.YtieclenlldjfjaaGreat
