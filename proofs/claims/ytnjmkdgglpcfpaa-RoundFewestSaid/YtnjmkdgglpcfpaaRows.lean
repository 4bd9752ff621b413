/-
  No cell of these rows narrows 'for every input' (looked for: loops, veiled, ifaces, maps, wideKeys, modest, calm, conditions, laid).
  DERIVED. THE GIVEN ROWS OF THIS SEAT. 11 by the template 'for every input the law returns true; each argument reads behind the call as it read before'; 0 by the template 'total and deterministic' (their statements: YtnjmkdgglpcfpaaTotals.lean).
  GIVEN WITH THE SEED: the statements are not yours to turn. If you find one false, say at which input.
  Laid BY PROGRAM, IN A SANDBOX (cutbox-rows.mjs): the forced cells as the released guide's own fill.sh prints them over the translation d60ddd6f8a951b15… (all of the seat's roots in one cut). By AI agents, Wed Nov 11 2026. No macro, syntax, notation, axiom, sorry.
-/
import Derived.Test.YtnjmkdgglpcfpaaChecked
import GoSem.Claim
import GoSem.ClaimJoined
import GoSem.ClaimMapViews
import Derived.JoinedTies
import Derived.KernelRfl
namespace Go.Proofs.Ytnjmkdgglpcfpaa
/- THE CELL 'sum', in the pinned program and in every row, IS THE sha256 OF THE DUMP (.gsa) THAT YtnjmkdgglpcfpaaProg.lean LOADS. Nothing in Lean hashes anything: it is a label: what it is worth is what the hold of that sum in a sandbox is worth. -/
noncomputable def Try.pinned : Pinned := { name := "ytnjmkdgglpcfpaa", sum := "d60ddd6f8a951b15ce880f000bf0ef1874d471dc11f1587cf6918ac7c7b706f5", checked := Try.checked }
namespace Rows
def none {H : Type} : Left H := { results := [], args := [] }

/-- 'potencelaw01.RoundHouses': WHATEVER THE INPUT: true; the input reads as it did. -/
def roundHousesSpec : ChangeSpec := { name := "roundHouses", fn := fun _ => fun
  | [d1, d2] => { results := [.lit (.bool true)], args := [d1, d2] }
  | _ => none }
def roundHousesRow : OpenClaim := { program := "ytnjmkdgglpcfpaa", sum := "d60ddd6f8a951b15ce880f000bf0ef1874d471dc11f1587cf6918ac7c7b706f5", func := "potence/potencelaw01.RoundHouses", spec := "roundHouses", unfollowed := true, recurses := true, apart := false }
def RoundHousesSaid : Prop := roundHousesRow.holds Try.pinned (OpenSpec.ofChange roundHousesSpec)

/-- ITS FALSE NEIGHBOUR: 'it returns false'. Refute it at one input. -/
def roundHousesWrong : ChangeSpec := { name := "roundHouses", fn := fun _ => fun
  | [d1, d2] => { results := [.lit (.bool false)], args := [d1, d2] }
  | _ => none }
def RoundHousesWrongFalsely : Prop := roundHousesRow.holds Try.pinned (OpenSpec.ofChange roundHousesWrong)

/-- 'potencelaw01.RoundColumns': WHATEVER THE INPUT: true; the input reads as it did. -/
def roundColumnsSpec : ChangeSpec := { name := "roundColumns", fn := fun _ => fun
  | [d1, d2, d3] => { results := [.lit (.bool true)], args := [d1, d2, d3] }
  | _ => none }
def roundColumnsRow : OpenClaim := { program := "ytnjmkdgglpcfpaa", sum := "d60ddd6f8a951b15ce880f000bf0ef1874d471dc11f1587cf6918ac7c7b706f5", func := "potence/potencelaw01.RoundColumns", spec := "roundColumns", unfollowed := true, recurses := true, apart := false }
def RoundColumnsSaid : Prop := roundColumnsRow.holds Try.pinned (OpenSpec.ofChange roundColumnsSpec)

/-- ITS FALSE NEIGHBOUR: 'it returns false'. Refute it at one input. -/
def roundColumnsWrong : ChangeSpec := { name := "roundColumns", fn := fun _ => fun
  | [d1, d2, d3] => { results := [.lit (.bool false)], args := [d1, d2, d3] }
  | _ => none }
def RoundColumnsWrongFalsely : Prop := roundColumnsRow.holds Try.pinned (OpenSpec.ofChange roundColumnsWrong)

/-- 'potencelaw01.RoundFewest': WHATEVER THE INPUT: true; the input reads as it did. -/
def roundFewestSpec : ChangeSpec := { name := "roundFewest", fn := fun _ => fun
  | [d1, d2, d3, d4, d5] => { results := [.lit (.bool true)], args := [d1, d2, d3, d4, d5] }
  | _ => none }
def roundFewestRow : OpenClaim := { program := "ytnjmkdgglpcfpaa", sum := "d60ddd6f8a951b15ce880f000bf0ef1874d471dc11f1587cf6918ac7c7b706f5", func := "potence/potencelaw01.RoundFewest", spec := "roundFewest", unfollowed := true, recurses := true, apart := false }
def RoundFewestSaid : Prop := roundFewestRow.holds Try.pinned (OpenSpec.ofChange roundFewestSpec)

/-- ITS FALSE NEIGHBOUR: 'it returns false'. Refute it at one input. -/
def roundFewestWrong : ChangeSpec := { name := "roundFewest", fn := fun _ => fun
  | [d1, d2, d3, d4, d5] => { results := [.lit (.bool false)], args := [d1, d2, d3, d4, d5] }
  | _ => none }
def RoundFewestWrongFalsely : Prop := roundFewestRow.holds Try.pinned (OpenSpec.ofChange roundFewestWrong)

/-- 'potencelaw01.RoundNeeds': WHATEVER THE INPUT: true; the input reads as it did. -/
def roundNeedsSpec : ChangeSpec := { name := "roundNeeds", fn := fun _ => fun
  | [d1, d2] => { results := [.lit (.bool true)], args := [d1, d2] }
  | _ => none }
def roundNeedsRow : OpenClaim := { program := "ytnjmkdgglpcfpaa", sum := "d60ddd6f8a951b15ce880f000bf0ef1874d471dc11f1587cf6918ac7c7b706f5", func := "potence/potencelaw01.RoundNeeds", spec := "roundNeeds", unfollowed := true, recurses := true, apart := false }
def RoundNeedsSaid : Prop := roundNeedsRow.holds Try.pinned (OpenSpec.ofChange roundNeedsSpec)

/-- ITS FALSE NEIGHBOUR: 'it returns false'. Refute it at one input. -/
def roundNeedsWrong : ChangeSpec := { name := "roundNeeds", fn := fun _ => fun
  | [d1, d2] => { results := [.lit (.bool false)], args := [d1, d2] }
  | _ => none }
def RoundNeedsWrongFalsely : Prop := roundNeedsRow.holds Try.pinned (OpenSpec.ofChange roundNeedsWrong)

/-- 'potencelaw01.RoundTurns': WHATEVER THE INPUT: true; the input reads as it did. -/
def roundTurnsSpec : ChangeSpec := { name := "roundTurns", fn := fun _ => fun
  | [d1, d2, d3, d4] => { results := [.lit (.bool true)], args := [d1, d2, d3, d4] }
  | _ => none }
def roundTurnsRow : OpenClaim := { program := "ytnjmkdgglpcfpaa", sum := "d60ddd6f8a951b15ce880f000bf0ef1874d471dc11f1587cf6918ac7c7b706f5", func := "potence/potencelaw01.RoundTurns", spec := "roundTurns", unfollowed := true, recurses := true, apart := false }
def RoundTurnsSaid : Prop := roundTurnsRow.holds Try.pinned (OpenSpec.ofChange roundTurnsSpec)

/-- ITS FALSE NEIGHBOUR: 'it returns false'. Refute it at one input. -/
def roundTurnsWrong : ChangeSpec := { name := "roundTurns", fn := fun _ => fun
  | [d1, d2, d3, d4] => { results := [.lit (.bool false)], args := [d1, d2, d3, d4] }
  | _ => none }
def RoundTurnsWrongFalsely : Prop := roundTurnsRow.holds Try.pinned (OpenSpec.ofChange roundTurnsWrong)

/-- 'potencelaw01.RoundProves': WHATEVER THE INPUT: true; the input reads as it did. -/
def roundProvesSpec : ChangeSpec := { name := "roundProves", fn := fun _ => fun
  | [d1, d2, d3, d4] => { results := [.lit (.bool true)], args := [d1, d2, d3, d4] }
  | _ => none }
def roundProvesRow : OpenClaim := { program := "ytnjmkdgglpcfpaa", sum := "d60ddd6f8a951b15ce880f000bf0ef1874d471dc11f1587cf6918ac7c7b706f5", func := "potence/potencelaw01.RoundProves", spec := "roundProves", unfollowed := true, recurses := true, apart := false }
def RoundProvesSaid : Prop := roundProvesRow.holds Try.pinned (OpenSpec.ofChange roundProvesSpec)

/-- ITS FALSE NEIGHBOUR: 'it returns false'. Refute it at one input. -/
def roundProvesWrong : ChangeSpec := { name := "roundProves", fn := fun _ => fun
  | [d1, d2, d3, d4] => { results := [.lit (.bool false)], args := [d1, d2, d3, d4] }
  | _ => none }
def RoundProvesWrongFalsely : Prop := roundProvesRow.holds Try.pinned (OpenSpec.ofChange roundProvesWrong)

/-- 'potencelaw01.RoundStands': WHATEVER THE INPUT: true; the input reads as it did. -/
def roundStandsSpec : ChangeSpec := { name := "roundStands", fn := fun _ => fun
  | [d1, d2, d3] => { results := [.lit (.bool true)], args := [d1, d2, d3] }
  | _ => none }
def roundStandsRow : OpenClaim := { program := "ytnjmkdgglpcfpaa", sum := "d60ddd6f8a951b15ce880f000bf0ef1874d471dc11f1587cf6918ac7c7b706f5", func := "potence/potencelaw01.RoundStands", spec := "roundStands", unfollowed := true, recurses := true, apart := false }
def RoundStandsSaid : Prop := roundStandsRow.holds Try.pinned (OpenSpec.ofChange roundStandsSpec)

/-- ITS FALSE NEIGHBOUR: 'it returns false'. Refute it at one input. -/
def roundStandsWrong : ChangeSpec := { name := "roundStands", fn := fun _ => fun
  | [d1, d2, d3] => { results := [.lit (.bool false)], args := [d1, d2, d3] }
  | _ => none }
def RoundStandsWrongFalsely : Prop := roundStandsRow.holds Try.pinned (OpenSpec.ofChange roundStandsWrong)

/-- 'potencelaw01.RoundMore': WHATEVER THE INPUT: true; the input reads as it did. -/
def roundMoreSpec : ChangeSpec := { name := "roundMore", fn := fun _ => fun
  | [d1, d2, d3, d4] => { results := [.lit (.bool true)], args := [d1, d2, d3, d4] }
  | _ => none }
def roundMoreRow : OpenClaim := { program := "ytnjmkdgglpcfpaa", sum := "d60ddd6f8a951b15ce880f000bf0ef1874d471dc11f1587cf6918ac7c7b706f5", func := "potence/potencelaw01.RoundMore", spec := "roundMore", unfollowed := true, recurses := true, apart := false }
def RoundMoreSaid : Prop := roundMoreRow.holds Try.pinned (OpenSpec.ofChange roundMoreSpec)

/-- ITS FALSE NEIGHBOUR: 'it returns false'. Refute it at one input. -/
def roundMoreWrong : ChangeSpec := { name := "roundMore", fn := fun _ => fun
  | [d1, d2, d3, d4] => { results := [.lit (.bool false)], args := [d1, d2, d3, d4] }
  | _ => none }
def RoundMoreWrongFalsely : Prop := roundMoreRow.holds Try.pinned (OpenSpec.ofChange roundMoreWrong)

/-- 'potencelaw01.RoundReach': WHATEVER THE INPUT: true; the input reads as it did. -/
def roundReachSpec : ChangeSpec := { name := "roundReach", fn := fun _ => fun
  | [d1, d2, d3, d4, d5] => { results := [.lit (.bool true)], args := [d1, d2, d3, d4, d5] }
  | _ => none }
def roundReachRow : OpenClaim := { program := "ytnjmkdgglpcfpaa", sum := "d60ddd6f8a951b15ce880f000bf0ef1874d471dc11f1587cf6918ac7c7b706f5", func := "potence/potencelaw01.RoundReach", spec := "roundReach", unfollowed := true, recurses := true, apart := false }
def RoundReachSaid : Prop := roundReachRow.holds Try.pinned (OpenSpec.ofChange roundReachSpec)

/-- ITS FALSE NEIGHBOUR: 'it returns false'. Refute it at one input. -/
def roundReachWrong : ChangeSpec := { name := "roundReach", fn := fun _ => fun
  | [d1, d2, d3, d4, d5] => { results := [.lit (.bool false)], args := [d1, d2, d3, d4, d5] }
  | _ => none }
def RoundReachWrongFalsely : Prop := roundReachRow.holds Try.pinned (OpenSpec.ofChange roundReachWrong)

/-- 'potencelaw01.RoundTurning': WHATEVER THE INPUT: true; the input reads as it did. -/
def roundTurningSpec : ChangeSpec := { name := "roundTurning", fn := fun _ => fun
  | [d1, d2, d3, d4] => { results := [.lit (.bool true)], args := [d1, d2, d3, d4] }
  | _ => none }
def roundTurningRow : OpenClaim := { program := "ytnjmkdgglpcfpaa", sum := "d60ddd6f8a951b15ce880f000bf0ef1874d471dc11f1587cf6918ac7c7b706f5", func := "potence/potencelaw01.RoundTurning", spec := "roundTurning", unfollowed := true, recurses := true, apart := false }
def RoundTurningSaid : Prop := roundTurningRow.holds Try.pinned (OpenSpec.ofChange roundTurningSpec)

/-- ITS FALSE NEIGHBOUR: 'it returns false'. Refute it at one input. -/
def roundTurningWrong : ChangeSpec := { name := "roundTurning", fn := fun _ => fun
  | [d1, d2, d3, d4] => { results := [.lit (.bool false)], args := [d1, d2, d3, d4] }
  | _ => none }
def RoundTurningWrongFalsely : Prop := roundTurningRow.holds Try.pinned (OpenSpec.ofChange roundTurningWrong)

/-- 'potencelaw01.RoundTurned': WHATEVER THE INPUT: true; the input reads as it did. -/
def roundTurnedSpec : ChangeSpec := { name := "roundTurned", fn := fun _ => fun
  | [d1, d2, d3] => { results := [.lit (.bool true)], args := [d1, d2, d3] }
  | _ => none }
def roundTurnedRow : OpenClaim := { program := "ytnjmkdgglpcfpaa", sum := "d60ddd6f8a951b15ce880f000bf0ef1874d471dc11f1587cf6918ac7c7b706f5", func := "potence/potencelaw01.RoundTurned", spec := "roundTurned", unfollowed := true, recurses := true, apart := false }
def RoundTurnedSaid : Prop := roundTurnedRow.holds Try.pinned (OpenSpec.ofChange roundTurnedSpec)

/-- ITS FALSE NEIGHBOUR: 'it returns false'. Refute it at one input. -/
def roundTurnedWrong : ChangeSpec := { name := "roundTurned", fn := fun _ => fun
  | [d1, d2, d3] => { results := [.lit (.bool false)], args := [d1, d2, d3] }
  | _ => none }
def RoundTurnedWrongFalsely : Prop := roundTurnedRow.holds Try.pinned (OpenSpec.ofChange roundTurnedWrong)

/- THE SECOND FORM. 'bulk': how many values and letters a reading holds, each counted each time it is reached (what is shared counts as often as it is met; a slice's spare places count too). A statement '..UptoSaid' is the law's where the arguments, and the package variables that the reading takes, are together of bulk at most 1048576: NARROWER than '..Said'. Prove '..Said' where nothing that the law and all that it calls make is longer than what came in: it says more and counts as full. Else prove '..UptoSaid'. A law counts once. -/
mutual
def uptoBulk {H : Type} : DataW H → Nat
  | .lit (.string bytes) => bytes.length + 1
  | .lit _ => 1
  | .nil => 1
  | .ptr d => uptoBulk d + 1
  | .slice elems spare => uptoBulkAll elems + uptoBulkAll spare + 1
  | .agg parts => uptoBulkAll parts + 1
  | .iface _ d => uptoBulk d + 1
  | .map entries => uptoBulkEntries entries + 1
  | .held _ => 1
def uptoBulkAll {H : Type} : List (DataW H) → Nat
  | [] => 0
  | d :: r => uptoBulk d + uptoBulkAll r
def uptoBulkEntries {H : Type} : List (Lit × DataW H) → Nat
  | [] => 0
  | x :: r => uptoBulkEntry x + uptoBulkEntries r
def uptoBulkEntry {H : Type} : Lit × DataW H → Nat
  | (.string bytes, d) => bytes.length + uptoBulk d + 1
  | (_, d) => uptoBulk d + 1
 end
def uptoSmall : (H : Type) → List (DataW H) → Bool := fun _ ds => decide (uptoBulkAll ds ≤ 1048576)
def OpenSpec.upto (s : _root_.Go.ChangeSpec) : _root_.Go.OpenSpec := { _root_.Go.OpenSpec.ofChange s with cond := some uptoSmall }

/-- 'potencelaw01.RoundHouses', WHERE WHAT IT READS IS OF BULK AT MOST 1048576: true; the input reads as it did. -/
def roundHousesUptoRow : OpenClaim := { program := "ytnjmkdgglpcfpaa", sum := "d60ddd6f8a951b15ce880f000bf0ef1874d471dc11f1587cf6918ac7c7b706f5", func := "potence/potencelaw01.RoundHouses", spec := "roundHouses", unfollowed := true, recurses := true, apart := false, narrowed := true }
def RoundHousesUptoSaid : Prop := roundHousesUptoRow.holds Try.pinned (OpenSpec.upto roundHousesSpec)

/-- 'potencelaw01.RoundColumns', WHERE WHAT IT READS IS OF BULK AT MOST 1048576: true; the input reads as it did. -/
def roundColumnsUptoRow : OpenClaim := { program := "ytnjmkdgglpcfpaa", sum := "d60ddd6f8a951b15ce880f000bf0ef1874d471dc11f1587cf6918ac7c7b706f5", func := "potence/potencelaw01.RoundColumns", spec := "roundColumns", unfollowed := true, recurses := true, apart := false, narrowed := true }
def RoundColumnsUptoSaid : Prop := roundColumnsUptoRow.holds Try.pinned (OpenSpec.upto roundColumnsSpec)

/-- 'potencelaw01.RoundFewest', WHERE WHAT IT READS IS OF BULK AT MOST 1048576: true; the input reads as it did. -/
def roundFewestUptoRow : OpenClaim := { program := "ytnjmkdgglpcfpaa", sum := "d60ddd6f8a951b15ce880f000bf0ef1874d471dc11f1587cf6918ac7c7b706f5", func := "potence/potencelaw01.RoundFewest", spec := "roundFewest", unfollowed := true, recurses := true, apart := false, narrowed := true }
def RoundFewestUptoSaid : Prop := roundFewestUptoRow.holds Try.pinned (OpenSpec.upto roundFewestSpec)

/-- 'potencelaw01.RoundNeeds', WHERE WHAT IT READS IS OF BULK AT MOST 1048576: true; the input reads as it did. -/
def roundNeedsUptoRow : OpenClaim := { program := "ytnjmkdgglpcfpaa", sum := "d60ddd6f8a951b15ce880f000bf0ef1874d471dc11f1587cf6918ac7c7b706f5", func := "potence/potencelaw01.RoundNeeds", spec := "roundNeeds", unfollowed := true, recurses := true, apart := false, narrowed := true }
def RoundNeedsUptoSaid : Prop := roundNeedsUptoRow.holds Try.pinned (OpenSpec.upto roundNeedsSpec)

/-- 'potencelaw01.RoundTurns', WHERE WHAT IT READS IS OF BULK AT MOST 1048576: true; the input reads as it did. -/
def roundTurnsUptoRow : OpenClaim := { program := "ytnjmkdgglpcfpaa", sum := "d60ddd6f8a951b15ce880f000bf0ef1874d471dc11f1587cf6918ac7c7b706f5", func := "potence/potencelaw01.RoundTurns", spec := "roundTurns", unfollowed := true, recurses := true, apart := false, narrowed := true }
def RoundTurnsUptoSaid : Prop := roundTurnsUptoRow.holds Try.pinned (OpenSpec.upto roundTurnsSpec)

/-- 'potencelaw01.RoundProves', WHERE WHAT IT READS IS OF BULK AT MOST 1048576: true; the input reads as it did. -/
def roundProvesUptoRow : OpenClaim := { program := "ytnjmkdgglpcfpaa", sum := "d60ddd6f8a951b15ce880f000bf0ef1874d471dc11f1587cf6918ac7c7b706f5", func := "potence/potencelaw01.RoundProves", spec := "roundProves", unfollowed := true, recurses := true, apart := false, narrowed := true }
def RoundProvesUptoSaid : Prop := roundProvesUptoRow.holds Try.pinned (OpenSpec.upto roundProvesSpec)

/-- 'potencelaw01.RoundStands', WHERE WHAT IT READS IS OF BULK AT MOST 1048576: true; the input reads as it did. -/
def roundStandsUptoRow : OpenClaim := { program := "ytnjmkdgglpcfpaa", sum := "d60ddd6f8a951b15ce880f000bf0ef1874d471dc11f1587cf6918ac7c7b706f5", func := "potence/potencelaw01.RoundStands", spec := "roundStands", unfollowed := true, recurses := true, apart := false, narrowed := true }
def RoundStandsUptoSaid : Prop := roundStandsUptoRow.holds Try.pinned (OpenSpec.upto roundStandsSpec)

/-- 'potencelaw01.RoundMore', WHERE WHAT IT READS IS OF BULK AT MOST 1048576: true; the input reads as it did. -/
def roundMoreUptoRow : OpenClaim := { program := "ytnjmkdgglpcfpaa", sum := "d60ddd6f8a951b15ce880f000bf0ef1874d471dc11f1587cf6918ac7c7b706f5", func := "potence/potencelaw01.RoundMore", spec := "roundMore", unfollowed := true, recurses := true, apart := false, narrowed := true }
def RoundMoreUptoSaid : Prop := roundMoreUptoRow.holds Try.pinned (OpenSpec.upto roundMoreSpec)

/-- 'potencelaw01.RoundReach', WHERE WHAT IT READS IS OF BULK AT MOST 1048576: true; the input reads as it did. -/
def roundReachUptoRow : OpenClaim := { program := "ytnjmkdgglpcfpaa", sum := "d60ddd6f8a951b15ce880f000bf0ef1874d471dc11f1587cf6918ac7c7b706f5", func := "potence/potencelaw01.RoundReach", spec := "roundReach", unfollowed := true, recurses := true, apart := false, narrowed := true }
def RoundReachUptoSaid : Prop := roundReachUptoRow.holds Try.pinned (OpenSpec.upto roundReachSpec)

/-- 'potencelaw01.RoundTurning', WHERE WHAT IT READS IS OF BULK AT MOST 1048576: true; the input reads as it did. -/
def roundTurningUptoRow : OpenClaim := { program := "ytnjmkdgglpcfpaa", sum := "d60ddd6f8a951b15ce880f000bf0ef1874d471dc11f1587cf6918ac7c7b706f5", func := "potence/potencelaw01.RoundTurning", spec := "roundTurning", unfollowed := true, recurses := true, apart := false, narrowed := true }
def RoundTurningUptoSaid : Prop := roundTurningUptoRow.holds Try.pinned (OpenSpec.upto roundTurningSpec)

/-- 'potencelaw01.RoundTurned', WHERE WHAT IT READS IS OF BULK AT MOST 1048576: true; the input reads as it did. -/
def roundTurnedUptoRow : OpenClaim := { program := "ytnjmkdgglpcfpaa", sum := "d60ddd6f8a951b15ce880f000bf0ef1874d471dc11f1587cf6918ac7c7b706f5", func := "potence/potencelaw01.RoundTurned", spec := "roundTurned", unfollowed := true, recurses := true, apart := false, narrowed := true }
def RoundTurnedUptoSaid : Prop := roundTurnedUptoRow.holds Try.pinned (OpenSpec.upto roundTurnedSpec)

end Rows
end Go.Proofs.Ytnjmkdgglpcfpaa
