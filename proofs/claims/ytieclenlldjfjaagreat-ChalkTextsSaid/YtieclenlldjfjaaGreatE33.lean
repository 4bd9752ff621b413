import Derived.Test.YtieclenlldjfjaaGreatE32
set_option autoImplicit false
namespace Go.Proofs.YtieclenlldjfjaaGreat.Ev
open Go
noncomputable section
/-- A row of cells, told by runs. -/
def rle : List (Nat × Value) → List Value := fun xs => List.rec [] (fun p _ ih => Nat.rec ih (fun _ r => p.2 :: r) p.1) xs
def rleB (d : Nat) (xs : List (Nat × Value)) : Bt := Bt.ofL d (rle xs)
end
end Go.Proofs.YtieclenlldjfjaaGreat.Ev
