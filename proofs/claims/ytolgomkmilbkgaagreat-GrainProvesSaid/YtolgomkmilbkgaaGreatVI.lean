import Derived.Test.YtolgomkmilbkgaaGreatV45
import Derived.Test.YtolgomkmilbkgaaGreatChecked
import Derived.KernelRfl
set_option autoImplicit false
namespace Go.Proofs.YtolgomkmilbkgaaGreat
open Go.Proofs.YtolgomkmilbkgaaGreat.Ev
/-- The functions whose calls are known: all but the laws, and slices.Repeat, whose list is written later. -/
noncomputable def isP (k : FuncId) : Bool := bsel (Nat.ble k 2) true (bsel (Nat.ble k 15) false (bsel (Nat.beq k 117) false (bsel (Nat.beq k 143) false true)))
theorem mixed : Tryz.prog.follows .mixedOrders = true := by kernel_rfl
end Go.Proofs.YtolgomkmilbkgaaGreat

