import Derived.Test.YtolgomkmilbkgaaGreatV47
import Derived.Test.YtolgomkmilbkgaaGreatVI
set_option autoImplicit false
set_option maxRecDepth 1000000
namespace Go.Proofs.YtolgomkmilbkgaaGreat
open Go.Proofs.YtolgomkmilbkgaaGreat.Ev
theorem head_run : Go.Proofs.YtolgomkmilbkgaaGreat.Ev.endsIn (callB Tryz.prog (evCode Tryz.prog (orcS 130 151 []) 100000) 18 [] ⟨heap0, 0⟩) (.bool true) = true := by kernel_rfl
end Go.Proofs.YtolgomkmilbkgaaGreat

