import Derived.Test.YtbhiphjifdnhmaaGreatDoorPO
set_option linter.unusedSimpArgs false
set_option linter.unusedVariables false
/- A definition that is read as data. -/
namespace Go.Proofs.YtbhiphjifdnhmaaGreatDoor
open Go.ChangeShapes Go.WideShapes Go.ChangeAt Go.RowKit
section
variable {H : Type} {enc : TypeId × Value → H} {W : World} {base : Nat}
set_option maxRecDepth 100000 in
theorem def_opens {v : Value} {d : DataW H} {p : List MemPlace} (hv : Value.okWide Tryz.prog W .any base 60 v) (h : DataW.Trod enc Tryz.prog W 0 (fun _ => true) true 60 v d p) :
    ∃ x : Df, v = .agg (dfA x) ∧ x.name.size ≤ maxLen ∧ x.of.size ≤ maxLen ∧ x.wth.size ≤ maxLen := by
  obtain ⟨cs, rfl, hsz⟩ := okWide_struct Tryz.underlying60 hv
  obtain ⟨fuel, hf⟩ := h
  have hf' : DataW.trod enc Tryz.prog W 0 (fun _ => true) true fuel 60 cs.toList = some (d, p) := hf
  obtain ⟨x, hx, z⟩ := def_list hf'
  refine ⟨x, ?_, z⟩
  unfold dfA
  rw [← hx, Array.toArray_toList]
end
end Go.Proofs.YtbhiphjifdnhmaaGreatDoor
