import Derived.Test.YteoemmgelalcaaaGreatV39
import Derived.Test.YteoemmgelalcaaaGreatVI
set_option autoImplicit false
set_option maxRecDepth 1000000
namespace Go.Proofs.YteoemmgelalcaaaGreat
open Go.Proofs.YteoemmgelalcaaaGreat.Ev
theorem head4 : PurOk Tryz.prog 4 [] (.bool true) := pur_eval (ks := []) mixed (fun _ h => by cases h) 100000 (by kernel_rfl)
end Go.Proofs.YteoemmgelalcaaaGreat

