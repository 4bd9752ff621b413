import Derived.Test.YteoemmgelalcaaaGreatV39
import Derived.Test.YteoemmgelalcaaaGreatChecked
import Derived.KernelRfl
set_option autoImplicit false
namespace Go.Proofs.YteoemmgelalcaaaGreat
open Go.Proofs.YteoemmgelalcaaaGreat.Ev
/-- The functions whose calls are known: all but these. -/
noncomputable def isP (k : FuncId) : Bool := bsel (Nat.beq k 3) false true
theorem mixed : Tryz.prog.follows .mixedOrders = true := by kernel_rfl
end Go.Proofs.YteoemmgelalcaaaGreat

