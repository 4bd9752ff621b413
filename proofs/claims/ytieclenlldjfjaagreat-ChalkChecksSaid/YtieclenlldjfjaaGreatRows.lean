/-
  No cell of these rows narrows 'for every input' (looked for: loops, veiled, ifaces, maps, wideKeys, modest, calm, conditions, laid).
  DERIVED. THE GIVEN ROWS OF THIS SEAT. 12 by the template 'for every input the law returns true; each argument reads behind the call as it read before'; 0 by the template 'total and deterministic' (their statements: YtieclenlldjfjaaGreatTotals.lean).
  GIVEN WITH THE SEED: the statements are not yours to turn. If you find one false, say at which input.
  Laid BY PROGRAM, IN A SANDBOX (cutbox-rows.mjs): the forced cells as the released guide's own fill.sh prints them over the translation 7427646ba24f3deb… (all of the seat's roots in one cut). By AI agents, Wed Nov 11 2026. No macro, syntax, notation, axiom, sorry.
-/
import Derived.Test.YtieclenlldjfjaaGreatChecked
import GoSem.Claim
import GoSem.ClaimJoined
import GoSem.ClaimMapViews
import Derived.JoinedTies
import Derived.KernelRfl
namespace Go.Proofs.YtieclenlldjfjaaGreat
/- THE CELL 'sum', in the pinned program and in every row, IS THE sha256 OF THE DUMP (.gsa) THAT YtieclenlldjfjaaGreatProg.lean LOADS. Nothing in Lean hashes anything: it is a label: what it is worth is what the hold of that sum in a sandbox is worth. -/
noncomputable def Tryz.pinned : Pinned := { name := "ytieclenlldjfjaagreat", sum := "7427646ba24f3deb572418cee703439b24f8b3fa32c2445fd3095119833e2ca8", checked := Tryz.checked }
namespace Rows
def none {H : Type} : Left H := { results := [], args := [] }

/-- 'potencelaw03.ChalkChecks': WHATEVER THE INPUT: true; the input reads as it did. -/
def chalkChecksSpec : ChangeSpec := { name := "chalkChecks", fn := fun _ => fun
  | [d1, d2, d3] => { results := [.lit (.bool true)], args := [d1, d2, d3] }
  | _ => none }
def chalkChecksRow : OpenClaim := { program := "ytieclenlldjfjaagreat", sum := "7427646ba24f3deb572418cee703439b24f8b3fa32c2445fd3095119833e2ca8", func := "potence/potencelaw03.ChalkChecks", spec := "chalkChecks", unfollowed := true, recurses := true, plainKeys := false, apart := false }
def ChalkChecksSaid : Prop := chalkChecksRow.holds Tryz.pinned (OpenSpec.ofChange chalkChecksSpec)

/-- ITS FALSE NEIGHBOUR: 'it returns false'. Refute it at one input. -/
def chalkChecksWrong : ChangeSpec := { name := "chalkChecks", fn := fun _ => fun
  | [d1, d2, d3] => { results := [.lit (.bool false)], args := [d1, d2, d3] }
  | _ => none }
def ChalkChecksWrongFalsely : Prop := chalkChecksRow.holds Tryz.pinned (OpenSpec.ofChange chalkChecksWrong)

/-- 'potencelaw03.ChalkTexts': WHATEVER THE INPUT: true; the input reads as it did. -/
def chalkTextsSpec : ChangeSpec := { name := "chalkTexts", fn := fun _ => fun
  | [d1, d2] => { results := [.lit (.bool true)], args := [d1, d2] }
  | _ => none }
def chalkTextsRow : OpenClaim := { program := "ytieclenlldjfjaagreat", sum := "7427646ba24f3deb572418cee703439b24f8b3fa32c2445fd3095119833e2ca8", func := "potence/potencelaw03.ChalkTexts", spec := "chalkTexts", unfollowed := true, recurses := true, plainKeys := false, apart := false }
def ChalkTextsSaid : Prop := chalkTextsRow.holds Tryz.pinned (OpenSpec.ofChange chalkTextsSpec)

/-- ITS FALSE NEIGHBOUR: 'it returns false'. Refute it at one input. -/
def chalkTextsWrong : ChangeSpec := { name := "chalkTexts", fn := fun _ => fun
  | [d1, d2] => { results := [.lit (.bool false)], args := [d1, d2] }
  | _ => none }
def ChalkTextsWrongFalsely : Prop := chalkTextsRow.holds Tryz.pinned (OpenSpec.ofChange chalkTextsWrong)

/-- 'potencelaw03.ChalkCosts': WHATEVER THE INPUT: true; the input reads as it did. -/
def chalkCostsSpec : ChangeSpec := { name := "chalkCosts", fn := fun _ => fun
  | [d1, d2, d3, d4, d5, d6] => { results := [.lit (.bool true)], args := [d1, d2, d3, d4, d5, d6] }
  | _ => none }
def chalkCostsRow : OpenClaim := { program := "ytieclenlldjfjaagreat", sum := "7427646ba24f3deb572418cee703439b24f8b3fa32c2445fd3095119833e2ca8", func := "potence/potencelaw03.ChalkCosts", spec := "chalkCosts", unfollowed := true, recurses := true, plainKeys := false, apart := false }
def ChalkCostsSaid : Prop := chalkCostsRow.holds Tryz.pinned (OpenSpec.ofChange chalkCostsSpec)

/-- ITS FALSE NEIGHBOUR: 'it returns false'. Refute it at one input. -/
def chalkCostsWrong : ChangeSpec := { name := "chalkCosts", fn := fun _ => fun
  | [d1, d2, d3, d4, d5, d6] => { results := [.lit (.bool false)], args := [d1, d2, d3, d4, d5, d6] }
  | _ => none }
def ChalkCostsWrongFalsely : Prop := chalkCostsRow.holds Tryz.pinned (OpenSpec.ofChange chalkCostsWrong)

/-- 'potencelaw03.ChalkTables': WHATEVER THE INPUT: true; the input reads as it did. -/
def chalkTablesSpec : ChangeSpec := { name := "chalkTables", fn := fun _ => fun
  | [d1, d2, d3, d4, d5] => { results := [.lit (.bool true)], args := [d1, d2, d3, d4, d5] }
  | _ => none }
def chalkTablesRow : OpenClaim := { program := "ytieclenlldjfjaagreat", sum := "7427646ba24f3deb572418cee703439b24f8b3fa32c2445fd3095119833e2ca8", func := "potence/potencelaw03.ChalkTables", spec := "chalkTables", unfollowed := true, recurses := true, plainKeys := false, apart := false }
def ChalkTablesSaid : Prop := chalkTablesRow.holds Tryz.pinned (OpenSpec.ofChange chalkTablesSpec)

/-- ITS FALSE NEIGHBOUR: 'it returns false'. Refute it at one input. -/
def chalkTablesWrong : ChangeSpec := { name := "chalkTables", fn := fun _ => fun
  | [d1, d2, d3, d4, d5] => { results := [.lit (.bool false)], args := [d1, d2, d3, d4, d5] }
  | _ => none }
def ChalkTablesWrongFalsely : Prop := chalkTablesRow.holds Tryz.pinned (OpenSpec.ofChange chalkTablesWrong)

/-- 'potencelaw03.ChalkReads': WHATEVER THE INPUT: true; the input reads as it did. -/
def chalkReadsSpec : ChangeSpec := { name := "chalkReads", fn := fun _ => fun
  | [d1, d2] => { results := [.lit (.bool true)], args := [d1, d2] }
  | _ => none }
def chalkReadsRow : OpenClaim := { program := "ytieclenlldjfjaagreat", sum := "7427646ba24f3deb572418cee703439b24f8b3fa32c2445fd3095119833e2ca8", func := "potence/potencelaw03.ChalkReads", spec := "chalkReads", unfollowed := true, recurses := true, plainKeys := false, apart := false }
def ChalkReadsSaid : Prop := chalkReadsRow.holds Tryz.pinned (OpenSpec.ofChange chalkReadsSpec)

/-- ITS FALSE NEIGHBOUR: 'it returns false'. Refute it at one input. -/
def chalkReadsWrong : ChangeSpec := { name := "chalkReads", fn := fun _ => fun
  | [d1, d2] => { results := [.lit (.bool false)], args := [d1, d2] }
  | _ => none }
def ChalkReadsWrongFalsely : Prop := chalkReadsRow.holds Tryz.pinned (OpenSpec.ofChange chalkReadsWrong)

/-- 'potencelaw03.ChalkTrees': WHATEVER THE INPUT: true; the input reads as it did. -/
def chalkTreesSpec : ChangeSpec := { name := "chalkTrees", fn := fun _ => fun
  | [d1, d2, d3, d4, d5, d6, d7] => { results := [.lit (.bool true)], args := [d1, d2, d3, d4, d5, d6, d7] }
  | _ => none }
def chalkTreesRow : OpenClaim := { program := "ytieclenlldjfjaagreat", sum := "7427646ba24f3deb572418cee703439b24f8b3fa32c2445fd3095119833e2ca8", func := "potence/potencelaw03.ChalkTrees", spec := "chalkTrees", unfollowed := true, recurses := true, plainKeys := false, apart := false }
def ChalkTreesSaid : Prop := chalkTreesRow.holds Tryz.pinned (OpenSpec.ofChange chalkTreesSpec)

/-- ITS FALSE NEIGHBOUR: 'it returns false'. Refute it at one input. -/
def chalkTreesWrong : ChangeSpec := { name := "chalkTrees", fn := fun _ => fun
  | [d1, d2, d3, d4, d5, d6, d7] => { results := [.lit (.bool false)], args := [d1, d2, d3, d4, d5, d6, d7] }
  | _ => none }
def ChalkTreesWrongFalsely : Prop := chalkTreesRow.holds Tryz.pinned (OpenSpec.ofChange chalkTreesWrong)

/-- 'potencelaw03.ChalkPlaces': WHATEVER THE INPUT: true; the input reads as it did. -/
def chalkPlacesSpec : ChangeSpec := { name := "chalkPlaces", fn := fun _ => fun
  | [d1, d2] => { results := [.lit (.bool true)], args := [d1, d2] }
  | _ => none }
def chalkPlacesRow : OpenClaim := { program := "ytieclenlldjfjaagreat", sum := "7427646ba24f3deb572418cee703439b24f8b3fa32c2445fd3095119833e2ca8", func := "potence/potencelaw03.ChalkPlaces", spec := "chalkPlaces", unfollowed := true, recurses := true, plainKeys := false, apart := false }
def ChalkPlacesSaid : Prop := chalkPlacesRow.holds Tryz.pinned (OpenSpec.ofChange chalkPlacesSpec)

/-- ITS FALSE NEIGHBOUR: 'it returns false'. Refute it at one input. -/
def chalkPlacesWrong : ChangeSpec := { name := "chalkPlaces", fn := fun _ => fun
  | [d1, d2] => { results := [.lit (.bool false)], args := [d1, d2] }
  | _ => none }
def ChalkPlacesWrongFalsely : Prop := chalkPlacesRow.holds Tryz.pinned (OpenSpec.ofChange chalkPlacesWrong)

/-- 'potencelaw03.ChalkCounts': WHATEVER THE INPUT: true; the input reads as it did. -/
def chalkCountsSpec : ChangeSpec := { name := "chalkCounts", fn := fun _ => fun
  | [d1, d2] => { results := [.lit (.bool true)], args := [d1, d2] }
  | _ => none }
def chalkCountsRow : OpenClaim := { program := "ytieclenlldjfjaagreat", sum := "7427646ba24f3deb572418cee703439b24f8b3fa32c2445fd3095119833e2ca8", func := "potence/potencelaw03.ChalkCounts", spec := "chalkCounts", unfollowed := true, recurses := true, plainKeys := false, apart := false }
def ChalkCountsSaid : Prop := chalkCountsRow.holds Tryz.pinned (OpenSpec.ofChange chalkCountsSpec)

/-- ITS FALSE NEIGHBOUR: 'it returns false'. Refute it at one input. -/
def chalkCountsWrong : ChangeSpec := { name := "chalkCounts", fn := fun _ => fun
  | [d1, d2] => { results := [.lit (.bool false)], args := [d1, d2] }
  | _ => none }
def ChalkCountsWrongFalsely : Prop := chalkCountsRow.holds Tryz.pinned (OpenSpec.ofChange chalkCountsWrong)

/-- 'potencelaw03.ChalkProves': WHATEVER THE INPUT: true; the input reads as it did. -/
def chalkProvesSpec : ChangeSpec := { name := "chalkProves", fn := fun _ => fun
  | [d1, d2, d3, d4, d5] => { results := [.lit (.bool true)], args := [d1, d2, d3, d4, d5] }
  | _ => none }
def chalkProvesRow : OpenClaim := { program := "ytieclenlldjfjaagreat", sum := "7427646ba24f3deb572418cee703439b24f8b3fa32c2445fd3095119833e2ca8", func := "potence/potencelaw03.ChalkProves", spec := "chalkProves", unfollowed := true, recurses := true, plainKeys := false, apart := false }
def ChalkProvesSaid : Prop := chalkProvesRow.holds Tryz.pinned (OpenSpec.ofChange chalkProvesSpec)

/-- ITS FALSE NEIGHBOUR: 'it returns false'. Refute it at one input. -/
def chalkProvesWrong : ChangeSpec := { name := "chalkProves", fn := fun _ => fun
  | [d1, d2, d3, d4, d5] => { results := [.lit (.bool false)], args := [d1, d2, d3, d4, d5] }
  | _ => none }
def ChalkProvesWrongFalsely : Prop := chalkProvesRow.holds Tryz.pinned (OpenSpec.ofChange chalkProvesWrong)

/-- 'potencelaw03.ChalkSpells': WHATEVER THE INPUT: true; the input reads as it did. -/
def chalkSpellsSpec : ChangeSpec := { name := "chalkSpells", fn := fun _ => fun
  | [d1, d2] => { results := [.lit (.bool true)], args := [d1, d2] }
  | _ => none }
def chalkSpellsRow : OpenClaim := { program := "ytieclenlldjfjaagreat", sum := "7427646ba24f3deb572418cee703439b24f8b3fa32c2445fd3095119833e2ca8", func := "potence/potencelaw03.ChalkSpells", spec := "chalkSpells", unfollowed := true, recurses := true, plainKeys := false, apart := false }
def ChalkSpellsSaid : Prop := chalkSpellsRow.holds Tryz.pinned (OpenSpec.ofChange chalkSpellsSpec)

/-- ITS FALSE NEIGHBOUR: 'it returns false'. Refute it at one input. -/
def chalkSpellsWrong : ChangeSpec := { name := "chalkSpells", fn := fun _ => fun
  | [d1, d2] => { results := [.lit (.bool false)], args := [d1, d2] }
  | _ => none }
def ChalkSpellsWrongFalsely : Prop := chalkSpellsRow.holds Tryz.pinned (OpenSpec.ofChange chalkSpellsWrong)

/-- 'potencelaw03.ChalkMeant': WHATEVER THE INPUT: true; the input reads as it did. -/
def chalkMeantSpec : ChangeSpec := { name := "chalkMeant", fn := fun _ => fun
  | [d1, d2, d3] => { results := [.lit (.bool true)], args := [d1, d2, d3] }
  | _ => none }
def chalkMeantRow : OpenClaim := { program := "ytieclenlldjfjaagreat", sum := "7427646ba24f3deb572418cee703439b24f8b3fa32c2445fd3095119833e2ca8", func := "potence/potencelaw03.ChalkMeant", spec := "chalkMeant", unfollowed := true, recurses := true, plainKeys := false, apart := false }
def ChalkMeantSaid : Prop := chalkMeantRow.holds Tryz.pinned (OpenSpec.ofChange chalkMeantSpec)

/-- ITS FALSE NEIGHBOUR: 'it returns false'. Refute it at one input. -/
def chalkMeantWrong : ChangeSpec := { name := "chalkMeant", fn := fun _ => fun
  | [d1, d2, d3] => { results := [.lit (.bool false)], args := [d1, d2, d3] }
  | _ => none }
def ChalkMeantWrongFalsely : Prop := chalkMeantRow.holds Tryz.pinned (OpenSpec.ofChange chalkMeantWrong)

/-- 'potencelaw03.ChalkNearly': WHATEVER THE INPUT: true; the input reads as it did. -/
def chalkNearlySpec : ChangeSpec := { name := "chalkNearly", fn := fun _ => fun
  | [d1, d2, d3, d4] => { results := [.lit (.bool true)], args := [d1, d2, d3, d4] }
  | _ => none }
def chalkNearlyRow : OpenClaim := { program := "ytieclenlldjfjaagreat", sum := "7427646ba24f3deb572418cee703439b24f8b3fa32c2445fd3095119833e2ca8", func := "potence/potencelaw03.ChalkNearly", spec := "chalkNearly", unfollowed := true, recurses := true, plainKeys := false, apart := false }
def ChalkNearlySaid : Prop := chalkNearlyRow.holds Tryz.pinned (OpenSpec.ofChange chalkNearlySpec)

/-- ITS FALSE NEIGHBOUR: 'it returns false'. Refute it at one input. -/
def chalkNearlyWrong : ChangeSpec := { name := "chalkNearly", fn := fun _ => fun
  | [d1, d2, d3, d4] => { results := [.lit (.bool false)], args := [d1, d2, d3, d4] }
  | _ => none }
def ChalkNearlyWrongFalsely : Prop := chalkNearlyRow.holds Tryz.pinned (OpenSpec.ofChange chalkNearlyWrong)

/- THE SECOND FORM. 'bulk': how many values and letters a reading holds, each counted each time it is reached (what is shared counts as often as it is met; a slice's spare places count too). A statement '..UptoSaid' is the law's where the arguments, and the package variables that the reading takes, are together of bulk at most 1048576: NARROWER than '..Said'. Prove '..Said' where nothing that the law and all that it calls make is longer than what came in: it says more and counts as full. Else prove '..UptoSaid'. A law counts once. -/
mutual
def uptoBulk {H : Type} : DataW H → Nat
  | .lit (.string bytes) => bytes.length + 1
  | .lit _ => 1
  | .nil => 1
  | .ptr d => uptoBulk d + 1
  | .slice elems spare => uptoBulkAll elems + uptoBulkAll spare + 1
  | .agg parts => uptoBulkAll parts + 1
  | .iface _ d => uptoBulk d + 1
  | .map entries => uptoBulkEntries entries + 1
  | .held _ => 1
def uptoBulkAll {H : Type} : List (DataW H) → Nat
  | [] => 0
  | d :: r => uptoBulk d + uptoBulkAll r
def uptoBulkEntries {H : Type} : List (Lit × DataW H) → Nat
  | [] => 0
  | x :: r => uptoBulkEntry x + uptoBulkEntries r
def uptoBulkEntry {H : Type} : Lit × DataW H → Nat
  | (.string bytes, d) => bytes.length + uptoBulk d + 1
  | (_, d) => uptoBulk d + 1
 end
def uptoSmall : (H : Type) → List (DataW H) → Bool := fun _ ds => decide (uptoBulkAll ds ≤ 1048576)
def OpenSpec.upto (s : _root_.Go.ChangeSpec) : _root_.Go.OpenSpec := { _root_.Go.OpenSpec.ofChange s with cond := some uptoSmall }

/-- 'potencelaw03.ChalkChecks', WHERE WHAT IT READS IS OF BULK AT MOST 1048576: true; the input reads as it did. -/
def chalkChecksUptoRow : OpenClaim := { program := "ytieclenlldjfjaagreat", sum := "7427646ba24f3deb572418cee703439b24f8b3fa32c2445fd3095119833e2ca8", func := "potence/potencelaw03.ChalkChecks", spec := "chalkChecks", unfollowed := true, recurses := true, plainKeys := false, apart := false, narrowed := true }
def ChalkChecksUptoSaid : Prop := chalkChecksUptoRow.holds Tryz.pinned (OpenSpec.upto chalkChecksSpec)

/-- 'potencelaw03.ChalkTexts', WHERE WHAT IT READS IS OF BULK AT MOST 1048576: true; the input reads as it did. -/
def chalkTextsUptoRow : OpenClaim := { program := "ytieclenlldjfjaagreat", sum := "7427646ba24f3deb572418cee703439b24f8b3fa32c2445fd3095119833e2ca8", func := "potence/potencelaw03.ChalkTexts", spec := "chalkTexts", unfollowed := true, recurses := true, plainKeys := false, apart := false, narrowed := true }
def ChalkTextsUptoSaid : Prop := chalkTextsUptoRow.holds Tryz.pinned (OpenSpec.upto chalkTextsSpec)

/-- 'potencelaw03.ChalkCosts', WHERE WHAT IT READS IS OF BULK AT MOST 1048576: true; the input reads as it did. -/
def chalkCostsUptoRow : OpenClaim := { program := "ytieclenlldjfjaagreat", sum := "7427646ba24f3deb572418cee703439b24f8b3fa32c2445fd3095119833e2ca8", func := "potence/potencelaw03.ChalkCosts", spec := "chalkCosts", unfollowed := true, recurses := true, plainKeys := false, apart := false, narrowed := true }
def ChalkCostsUptoSaid : Prop := chalkCostsUptoRow.holds Tryz.pinned (OpenSpec.upto chalkCostsSpec)

/-- 'potencelaw03.ChalkTables', WHERE WHAT IT READS IS OF BULK AT MOST 1048576: true; the input reads as it did. -/
def chalkTablesUptoRow : OpenClaim := { program := "ytieclenlldjfjaagreat", sum := "7427646ba24f3deb572418cee703439b24f8b3fa32c2445fd3095119833e2ca8", func := "potence/potencelaw03.ChalkTables", spec := "chalkTables", unfollowed := true, recurses := true, plainKeys := false, apart := false, narrowed := true }
def ChalkTablesUptoSaid : Prop := chalkTablesUptoRow.holds Tryz.pinned (OpenSpec.upto chalkTablesSpec)

/-- 'potencelaw03.ChalkReads', WHERE WHAT IT READS IS OF BULK AT MOST 1048576: true; the input reads as it did. -/
def chalkReadsUptoRow : OpenClaim := { program := "ytieclenlldjfjaagreat", sum := "7427646ba24f3deb572418cee703439b24f8b3fa32c2445fd3095119833e2ca8", func := "potence/potencelaw03.ChalkReads", spec := "chalkReads", unfollowed := true, recurses := true, plainKeys := false, apart := false, narrowed := true }
def ChalkReadsUptoSaid : Prop := chalkReadsUptoRow.holds Tryz.pinned (OpenSpec.upto chalkReadsSpec)

/-- 'potencelaw03.ChalkTrees', WHERE WHAT IT READS IS OF BULK AT MOST 1048576: true; the input reads as it did. -/
def chalkTreesUptoRow : OpenClaim := { program := "ytieclenlldjfjaagreat", sum := "7427646ba24f3deb572418cee703439b24f8b3fa32c2445fd3095119833e2ca8", func := "potence/potencelaw03.ChalkTrees", spec := "chalkTrees", unfollowed := true, recurses := true, plainKeys := false, apart := false, narrowed := true }
def ChalkTreesUptoSaid : Prop := chalkTreesUptoRow.holds Tryz.pinned (OpenSpec.upto chalkTreesSpec)

/-- 'potencelaw03.ChalkPlaces', WHERE WHAT IT READS IS OF BULK AT MOST 1048576: true; the input reads as it did. -/
def chalkPlacesUptoRow : OpenClaim := { program := "ytieclenlldjfjaagreat", sum := "7427646ba24f3deb572418cee703439b24f8b3fa32c2445fd3095119833e2ca8", func := "potence/potencelaw03.ChalkPlaces", spec := "chalkPlaces", unfollowed := true, recurses := true, plainKeys := false, apart := false, narrowed := true }
def ChalkPlacesUptoSaid : Prop := chalkPlacesUptoRow.holds Tryz.pinned (OpenSpec.upto chalkPlacesSpec)

/-- 'potencelaw03.ChalkCounts', WHERE WHAT IT READS IS OF BULK AT MOST 1048576: true; the input reads as it did. -/
def chalkCountsUptoRow : OpenClaim := { program := "ytieclenlldjfjaagreat", sum := "7427646ba24f3deb572418cee703439b24f8b3fa32c2445fd3095119833e2ca8", func := "potence/potencelaw03.ChalkCounts", spec := "chalkCounts", unfollowed := true, recurses := true, plainKeys := false, apart := false, narrowed := true }
def ChalkCountsUptoSaid : Prop := chalkCountsUptoRow.holds Tryz.pinned (OpenSpec.upto chalkCountsSpec)

/-- 'potencelaw03.ChalkProves', WHERE WHAT IT READS IS OF BULK AT MOST 1048576: true; the input reads as it did. -/
def chalkProvesUptoRow : OpenClaim := { program := "ytieclenlldjfjaagreat", sum := "7427646ba24f3deb572418cee703439b24f8b3fa32c2445fd3095119833e2ca8", func := "potence/potencelaw03.ChalkProves", spec := "chalkProves", unfollowed := true, recurses := true, plainKeys := false, apart := false, narrowed := true }
def ChalkProvesUptoSaid : Prop := chalkProvesUptoRow.holds Tryz.pinned (OpenSpec.upto chalkProvesSpec)

/-- 'potencelaw03.ChalkSpells', WHERE WHAT IT READS IS OF BULK AT MOST 1048576: true; the input reads as it did. -/
def chalkSpellsUptoRow : OpenClaim := { program := "ytieclenlldjfjaagreat", sum := "7427646ba24f3deb572418cee703439b24f8b3fa32c2445fd3095119833e2ca8", func := "potence/potencelaw03.ChalkSpells", spec := "chalkSpells", unfollowed := true, recurses := true, plainKeys := false, apart := false, narrowed := true }
def ChalkSpellsUptoSaid : Prop := chalkSpellsUptoRow.holds Tryz.pinned (OpenSpec.upto chalkSpellsSpec)

/-- 'potencelaw03.ChalkMeant', WHERE WHAT IT READS IS OF BULK AT MOST 1048576: true; the input reads as it did. -/
def chalkMeantUptoRow : OpenClaim := { program := "ytieclenlldjfjaagreat", sum := "7427646ba24f3deb572418cee703439b24f8b3fa32c2445fd3095119833e2ca8", func := "potence/potencelaw03.ChalkMeant", spec := "chalkMeant", unfollowed := true, recurses := true, plainKeys := false, apart := false, narrowed := true }
def ChalkMeantUptoSaid : Prop := chalkMeantUptoRow.holds Tryz.pinned (OpenSpec.upto chalkMeantSpec)

/-- 'potencelaw03.ChalkNearly', WHERE WHAT IT READS IS OF BULK AT MOST 1048576: true; the input reads as it did. -/
def chalkNearlyUptoRow : OpenClaim := { program := "ytieclenlldjfjaagreat", sum := "7427646ba24f3deb572418cee703439b24f8b3fa32c2445fd3095119833e2ca8", func := "potence/potencelaw03.ChalkNearly", spec := "chalkNearly", unfollowed := true, recurses := true, plainKeys := false, apart := false, narrowed := true }
def ChalkNearlyUptoSaid : Prop := chalkNearlyUptoRow.holds Tryz.pinned (OpenSpec.upto chalkNearlySpec)

end Rows
end Go.Proofs.YtieclenlldjfjaaGreat
