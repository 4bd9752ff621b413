import Derived.Test.YtieclenlldjfjaaGreatK1
import Derived.Test.YtieclenlldjfjaaGreatK2
set_option autoImplicit false
set_option maxRecDepth 1000000
namespace Go.Proofs.YtieclenlldjfjaaGreat.Ev
open Go Go.Proofs
theorem head_true : isTrue (call0 Tryz.prog (orc [kr0, kl0, kl1]) 100000 15) = true := by kernel_rfl
end Go.Proofs.YtieclenlldjfjaaGreat.Ev
