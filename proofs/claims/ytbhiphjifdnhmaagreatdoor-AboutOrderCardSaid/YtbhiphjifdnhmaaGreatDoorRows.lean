/-
  NARROWER THAN 'FOR EVERY INPUT', by the rows' own cells (each row's printed sentence says how): AboutNests: laid · AboutAdds: laid · AboutAgrees: laid · AboutKnows: laid · AboutOrder: laid · AboutNarrows: laid · AboutEqual: laid · AboutMakes: laid · AboutSums: laid · AboutJudges: laid · AboutMeans: laid.
  DERIVED. THE GIVEN ROWS OF THIS SEAT. 11 by the template 'for every input the law returns true; each argument reads behind the call as it read before'; 0 by the template 'total and deterministic' (their statements: YtbhiphjifdnhmaaGreatDoorTotals.lean).
  GIVEN WITH THE SEED: the statements are not yours to turn. If you find one false, say at which input.
  Laid BY PROGRAM, IN A SANDBOX (cutbox-rows.mjs): the forced cells as the released guide's own fill.sh prints them over the translation 5db17eaa3d4c4f84… (all of the seat's roots in one cut). By AI agents, Wed Nov 11 2026. No macro, syntax, notation, axiom, sorry.
-/
import Derived.Test.YtbhiphjifdnhmaaGreatDoorChecked
import GoSem.Claim
import GoSem.ClaimJoined
import GoSem.ClaimMapViews
import Derived.JoinedTies
import Derived.KernelRfl
namespace Go.Proofs.YtbhiphjifdnhmaaGreatDoor
/- THE CELL 'sum', in the pinned program and in every row, IS THE sha256 OF THE DUMP (.gsa) THAT YtbhiphjifdnhmaaGreatDoorProg.lean LOADS. Nothing in Lean hashes anything: it is a label: what it is worth is what the hold of that sum in a sandbox is worth. -/
noncomputable def Tryz.pinned : Pinned := { name := "ytbhiphjifdnhmaagreatdoor", sum := "5db17eaa3d4c4f84039a7252a501653f21a911d4d245b4e6c37123203965694d", checked := Tryz.checked }
namespace Rows
def none {H : Type} : Left H := { results := [], args := [] }

/- WHAT THE LISTED PACKAGE-LEVEL VARIABLES READ AS WHEN THE CALL BEGINS. Each datum BY PROGRAM (the guide's laid-datum.mjs) off the statement by which the dump's own 'gosem.cut.vars' lays the variable. In a bare row this is a premise. The card (YtbhiphjifdnhmaaGreatDoorCards.lean) ties it to the program's text. -/
def laid_potence_about_errRing {H : Type} : DataW H := .iface "*errors.errorString" (.ptr (.agg [.lit (.string [97, 32, 110, 97, 109, 101, 32, 114, 101, 115, 116, 115, 32, 111, 110, 32, 105, 116, 115, 101, 108, 102])]))

/-- 'potencelaw02.AboutNests': WHATEVER THE INPUT: true; the input reads as it did. -/
def aboutNestsSpec : ChangeSpec := { name := "aboutNests", fn := fun _ => fun
  | [d1, d2, d3, d4, d5, d6] => { results := [.lit (.bool true)], args := [d1, d2, d3, d4, d5, d6] }
  | _ => none }
def aboutNestsRow : OpenClaim := { program := "ytbhiphjifdnhmaagreatdoor", sum := "5db17eaa3d4c4f84039a7252a501653f21a911d4d245b4e6c37123203965694d", func := "potence/potencelaw02.AboutNests", spec := "aboutNests", unfollowed := true, recurses := true, named := ["potence/about.errRing"], apart := false, laid := [("potence/about.errRing", laid_potence_about_errRing)] }
def AboutNestsSaid : Prop := aboutNestsRow.holds Tryz.pinned (OpenSpec.ofChange aboutNestsSpec)

/-- ITS FALSE NEIGHBOUR: 'it returns false'. Refute it at one input. -/
def aboutNestsWrong : ChangeSpec := { name := "aboutNests", fn := fun _ => fun
  | [d1, d2, d3, d4, d5, d6] => { results := [.lit (.bool false)], args := [d1, d2, d3, d4, d5, d6] }
  | _ => none }
def AboutNestsWrongFalsely : Prop := aboutNestsRow.holds Tryz.pinned (OpenSpec.ofChange aboutNestsWrong)

/-- 'potencelaw02.AboutAdds': WHATEVER THE INPUT: true; the input reads as it did. -/
def aboutAddsSpec : ChangeSpec := { name := "aboutAdds", fn := fun _ => fun
  | [d1, d2, d3, d4, d5, d6] => { results := [.lit (.bool true)], args := [d1, d2, d3, d4, d5, d6] }
  | _ => none }
def aboutAddsRow : OpenClaim := { program := "ytbhiphjifdnhmaagreatdoor", sum := "5db17eaa3d4c4f84039a7252a501653f21a911d4d245b4e6c37123203965694d", func := "potence/potencelaw02.AboutAdds", spec := "aboutAdds", unfollowed := true, recurses := true, named := ["potence/about.errRing"], apart := false, laid := [("potence/about.errRing", laid_potence_about_errRing)] }
def AboutAddsSaid : Prop := aboutAddsRow.holds Tryz.pinned (OpenSpec.ofChange aboutAddsSpec)

/-- ITS FALSE NEIGHBOUR: 'it returns false'. Refute it at one input. -/
def aboutAddsWrong : ChangeSpec := { name := "aboutAdds", fn := fun _ => fun
  | [d1, d2, d3, d4, d5, d6] => { results := [.lit (.bool false)], args := [d1, d2, d3, d4, d5, d6] }
  | _ => none }
def AboutAddsWrongFalsely : Prop := aboutAddsRow.holds Tryz.pinned (OpenSpec.ofChange aboutAddsWrong)

/-- 'potencelaw02.AboutAgrees': WHATEVER THE INPUT: true; the input reads as it did. -/
def aboutAgreesSpec : ChangeSpec := { name := "aboutAgrees", fn := fun _ => fun
  | [d1, d2, d3] => { results := [.lit (.bool true)], args := [d1, d2, d3] }
  | _ => none }
def aboutAgreesRow : OpenClaim := { program := "ytbhiphjifdnhmaagreatdoor", sum := "5db17eaa3d4c4f84039a7252a501653f21a911d4d245b4e6c37123203965694d", func := "potence/potencelaw02.AboutAgrees", spec := "aboutAgrees", unfollowed := true, recurses := true, named := ["potence/about.errRing"], apart := false, laid := [("potence/about.errRing", laid_potence_about_errRing)] }
def AboutAgreesSaid : Prop := aboutAgreesRow.holds Tryz.pinned (OpenSpec.ofChange aboutAgreesSpec)

/-- ITS FALSE NEIGHBOUR: 'it returns false'. Refute it at one input. -/
def aboutAgreesWrong : ChangeSpec := { name := "aboutAgrees", fn := fun _ => fun
  | [d1, d2, d3] => { results := [.lit (.bool false)], args := [d1, d2, d3] }
  | _ => none }
def AboutAgreesWrongFalsely : Prop := aboutAgreesRow.holds Tryz.pinned (OpenSpec.ofChange aboutAgreesWrong)

/-- 'potencelaw02.AboutKnows': WHATEVER THE INPUT: true; the input reads as it did. -/
def aboutKnowsSpec : ChangeSpec := { name := "aboutKnows", fn := fun _ => fun
  | [d1, d2, d3, d4, d5, d6, d7] => { results := [.lit (.bool true)], args := [d1, d2, d3, d4, d5, d6, d7] }
  | _ => none }
def aboutKnowsRow : OpenClaim := { program := "ytbhiphjifdnhmaagreatdoor", sum := "5db17eaa3d4c4f84039a7252a501653f21a911d4d245b4e6c37123203965694d", func := "potence/potencelaw02.AboutKnows", spec := "aboutKnows", unfollowed := true, recurses := true, named := ["potence/about.errRing"], apart := false, laid := [("potence/about.errRing", laid_potence_about_errRing)] }
def AboutKnowsSaid : Prop := aboutKnowsRow.holds Tryz.pinned (OpenSpec.ofChange aboutKnowsSpec)

/-- ITS FALSE NEIGHBOUR: 'it returns false'. Refute it at one input. -/
def aboutKnowsWrong : ChangeSpec := { name := "aboutKnows", fn := fun _ => fun
  | [d1, d2, d3, d4, d5, d6, d7] => { results := [.lit (.bool false)], args := [d1, d2, d3, d4, d5, d6, d7] }
  | _ => none }
def AboutKnowsWrongFalsely : Prop := aboutKnowsRow.holds Tryz.pinned (OpenSpec.ofChange aboutKnowsWrong)

/-- 'potencelaw02.AboutOrder': WHATEVER THE INPUT: true; the input reads as it did. -/
def aboutOrderSpec : ChangeSpec := { name := "aboutOrder", fn := fun _ => fun
  | [d1, d2, d3, d4, d5] => { results := [.lit (.bool true)], args := [d1, d2, d3, d4, d5] }
  | _ => none }
def aboutOrderRow : OpenClaim := { program := "ytbhiphjifdnhmaagreatdoor", sum := "5db17eaa3d4c4f84039a7252a501653f21a911d4d245b4e6c37123203965694d", func := "potence/potencelaw02.AboutOrder", spec := "aboutOrder", unfollowed := true, recurses := true, named := ["potence/about.errRing"], apart := false, laid := [("potence/about.errRing", laid_potence_about_errRing)] }
def AboutOrderSaid : Prop := aboutOrderRow.holds Tryz.pinned (OpenSpec.ofChange aboutOrderSpec)

/-- ITS FALSE NEIGHBOUR: 'it returns false'. Refute it at one input. -/
def aboutOrderWrong : ChangeSpec := { name := "aboutOrder", fn := fun _ => fun
  | [d1, d2, d3, d4, d5] => { results := [.lit (.bool false)], args := [d1, d2, d3, d4, d5] }
  | _ => none }
def AboutOrderWrongFalsely : Prop := aboutOrderRow.holds Tryz.pinned (OpenSpec.ofChange aboutOrderWrong)

/-- 'potencelaw02.AboutNarrows': WHATEVER THE INPUT: true; the input reads as it did. -/
def aboutNarrowsSpec : ChangeSpec := { name := "aboutNarrows", fn := fun _ => fun
  | [d1, d2, d3, d4, d5] => { results := [.lit (.bool true)], args := [d1, d2, d3, d4, d5] }
  | _ => none }
def aboutNarrowsRow : OpenClaim := { program := "ytbhiphjifdnhmaagreatdoor", sum := "5db17eaa3d4c4f84039a7252a501653f21a911d4d245b4e6c37123203965694d", func := "potence/potencelaw02.AboutNarrows", spec := "aboutNarrows", unfollowed := true, recurses := true, named := ["potence/about.errRing"], apart := false, laid := [("potence/about.errRing", laid_potence_about_errRing)] }
def AboutNarrowsSaid : Prop := aboutNarrowsRow.holds Tryz.pinned (OpenSpec.ofChange aboutNarrowsSpec)

/-- ITS FALSE NEIGHBOUR: 'it returns false'. Refute it at one input. -/
def aboutNarrowsWrong : ChangeSpec := { name := "aboutNarrows", fn := fun _ => fun
  | [d1, d2, d3, d4, d5] => { results := [.lit (.bool false)], args := [d1, d2, d3, d4, d5] }
  | _ => none }
def AboutNarrowsWrongFalsely : Prop := aboutNarrowsRow.holds Tryz.pinned (OpenSpec.ofChange aboutNarrowsWrong)

/-- 'potencelaw02.AboutEqual': WHATEVER THE INPUT: true; the input reads as it did. -/
def aboutEqualSpec : ChangeSpec := { name := "aboutEqual", fn := fun _ => fun
  | [d1, d2, d3] => { results := [.lit (.bool true)], args := [d1, d2, d3] }
  | _ => none }
def aboutEqualRow : OpenClaim := { program := "ytbhiphjifdnhmaagreatdoor", sum := "5db17eaa3d4c4f84039a7252a501653f21a911d4d245b4e6c37123203965694d", func := "potence/potencelaw02.AboutEqual", spec := "aboutEqual", unfollowed := true, recurses := true, named := ["potence/about.errRing"], apart := false, laid := [("potence/about.errRing", laid_potence_about_errRing)] }
def AboutEqualSaid : Prop := aboutEqualRow.holds Tryz.pinned (OpenSpec.ofChange aboutEqualSpec)

/-- ITS FALSE NEIGHBOUR: 'it returns false'. Refute it at one input. -/
def aboutEqualWrong : ChangeSpec := { name := "aboutEqual", fn := fun _ => fun
  | [d1, d2, d3] => { results := [.lit (.bool false)], args := [d1, d2, d3] }
  | _ => none }
def AboutEqualWrongFalsely : Prop := aboutEqualRow.holds Tryz.pinned (OpenSpec.ofChange aboutEqualWrong)

/-- 'potencelaw02.AboutMakes': WHATEVER THE INPUT: true; the input reads as it did. -/
def aboutMakesSpec : ChangeSpec := { name := "aboutMakes", fn := fun _ => fun
  | [d1, d2, d3, d4, d5] => { results := [.lit (.bool true)], args := [d1, d2, d3, d4, d5] }
  | _ => none }
def aboutMakesRow : OpenClaim := { program := "ytbhiphjifdnhmaagreatdoor", sum := "5db17eaa3d4c4f84039a7252a501653f21a911d4d245b4e6c37123203965694d", func := "potence/potencelaw02.AboutMakes", spec := "aboutMakes", unfollowed := true, recurses := true, named := ["potence/about.errRing"], apart := false, laid := [("potence/about.errRing", laid_potence_about_errRing)] }
def AboutMakesSaid : Prop := aboutMakesRow.holds Tryz.pinned (OpenSpec.ofChange aboutMakesSpec)

/-- ITS FALSE NEIGHBOUR: 'it returns false'. Refute it at one input. -/
def aboutMakesWrong : ChangeSpec := { name := "aboutMakes", fn := fun _ => fun
  | [d1, d2, d3, d4, d5] => { results := [.lit (.bool false)], args := [d1, d2, d3, d4, d5] }
  | _ => none }
def AboutMakesWrongFalsely : Prop := aboutMakesRow.holds Tryz.pinned (OpenSpec.ofChange aboutMakesWrong)

/-- 'potencelaw02.AboutSums': WHATEVER THE INPUT: true; the input reads as it did. -/
def aboutSumsSpec : ChangeSpec := { name := "aboutSums", fn := fun _ => fun
  | [d1, d2] => { results := [.lit (.bool true)], args := [d1, d2] }
  | _ => none }
def aboutSumsRow : OpenClaim := { program := "ytbhiphjifdnhmaagreatdoor", sum := "5db17eaa3d4c4f84039a7252a501653f21a911d4d245b4e6c37123203965694d", func := "potence/potencelaw02.AboutSums", spec := "aboutSums", unfollowed := true, recurses := true, named := ["potence/about.errRing"], apart := false, laid := [("potence/about.errRing", laid_potence_about_errRing)] }
def AboutSumsSaid : Prop := aboutSumsRow.holds Tryz.pinned (OpenSpec.ofChange aboutSumsSpec)

/-- ITS FALSE NEIGHBOUR: 'it returns false'. Refute it at one input. -/
def aboutSumsWrong : ChangeSpec := { name := "aboutSums", fn := fun _ => fun
  | [d1, d2] => { results := [.lit (.bool false)], args := [d1, d2] }
  | _ => none }
def AboutSumsWrongFalsely : Prop := aboutSumsRow.holds Tryz.pinned (OpenSpec.ofChange aboutSumsWrong)

/-- 'potencelaw02.AboutJudges': WHATEVER THE INPUT: true; the input reads as it did. -/
def aboutJudgesSpec : ChangeSpec := { name := "aboutJudges", fn := fun _ => fun
  | [d1, d2, d3, d4, d5] => { results := [.lit (.bool true)], args := [d1, d2, d3, d4, d5] }
  | _ => none }
def aboutJudgesRow : OpenClaim := { program := "ytbhiphjifdnhmaagreatdoor", sum := "5db17eaa3d4c4f84039a7252a501653f21a911d4d245b4e6c37123203965694d", func := "potence/potencelaw02.AboutJudges", spec := "aboutJudges", unfollowed := true, recurses := true, named := ["potence/about.errRing"], apart := false, laid := [("potence/about.errRing", laid_potence_about_errRing)] }
def AboutJudgesSaid : Prop := aboutJudgesRow.holds Tryz.pinned (OpenSpec.ofChange aboutJudgesSpec)

/-- ITS FALSE NEIGHBOUR: 'it returns false'. Refute it at one input. -/
def aboutJudgesWrong : ChangeSpec := { name := "aboutJudges", fn := fun _ => fun
  | [d1, d2, d3, d4, d5] => { results := [.lit (.bool false)], args := [d1, d2, d3, d4, d5] }
  | _ => none }
def AboutJudgesWrongFalsely : Prop := aboutJudgesRow.holds Tryz.pinned (OpenSpec.ofChange aboutJudgesWrong)

/-- 'potencelaw02.AboutMeans': WHATEVER THE INPUT: true; the input reads as it did. -/
def aboutMeansSpec : ChangeSpec := { name := "aboutMeans", fn := fun _ => fun
  | [d1, d2, d3] => { results := [.lit (.bool true)], args := [d1, d2, d3] }
  | _ => none }
def aboutMeansRow : OpenClaim := { program := "ytbhiphjifdnhmaagreatdoor", sum := "5db17eaa3d4c4f84039a7252a501653f21a911d4d245b4e6c37123203965694d", func := "potence/potencelaw02.AboutMeans", spec := "aboutMeans", unfollowed := true, recurses := true, named := ["potence/about.errRing"], apart := false, laid := [("potence/about.errRing", laid_potence_about_errRing)] }
def AboutMeansSaid : Prop := aboutMeansRow.holds Tryz.pinned (OpenSpec.ofChange aboutMeansSpec)

/-- ITS FALSE NEIGHBOUR: 'it returns false'. Refute it at one input. -/
def aboutMeansWrong : ChangeSpec := { name := "aboutMeans", fn := fun _ => fun
  | [d1, d2, d3] => { results := [.lit (.bool false)], args := [d1, d2, d3] }
  | _ => none }
def AboutMeansWrongFalsely : Prop := aboutMeansRow.holds Tryz.pinned (OpenSpec.ofChange aboutMeansWrong)

/- THE SECOND FORM. 'bulk': how many values and letters a reading holds, each counted each time it is reached (what is shared counts as often as it is met; a slice's spare places count too). A statement '..UptoSaid' is the law's where the arguments, and the package variables that the reading takes, are together of bulk at most 1048576: NARROWER than '..Said'. Prove '..Said' where nothing that the law and all that it calls make is longer than what came in: it says more and counts as full. Else prove '..UptoSaid'. A law counts once. -/
mutual
def uptoBulk {H : Type} : DataW H → Nat
  | .lit (.string bytes) => bytes.length + 1
  | .lit _ => 1
  | .nil => 1
  | .ptr d => uptoBulk d + 1
  | .slice elems spare => uptoBulkAll elems + uptoBulkAll spare + 1
  | .agg parts => uptoBulkAll parts + 1
  | .iface _ d => uptoBulk d + 1
  | .map entries => uptoBulkEntries entries + 1
  | .held _ => 1
def uptoBulkAll {H : Type} : List (DataW H) → Nat
  | [] => 0
  | d :: r => uptoBulk d + uptoBulkAll r
def uptoBulkEntries {H : Type} : List (Lit × DataW H) → Nat
  | [] => 0
  | x :: r => uptoBulkEntry x + uptoBulkEntries r
def uptoBulkEntry {H : Type} : Lit × DataW H → Nat
  | (.string bytes, d) => bytes.length + uptoBulk d + 1
  | (_, d) => uptoBulk d + 1
 end
def uptoSmall : (H : Type) → List (DataW H) → Bool := fun _ ds => decide (uptoBulkAll ds ≤ 1048576)
def OpenSpec.upto (s : _root_.Go.ChangeSpec) : _root_.Go.OpenSpec := { _root_.Go.OpenSpec.ofChange s with cond := some uptoSmall }

/-- 'potencelaw02.AboutNests', WHERE WHAT IT READS IS OF BULK AT MOST 1048576: true; the input reads as it did. -/
def aboutNestsUptoRow : OpenClaim := { program := "ytbhiphjifdnhmaagreatdoor", sum := "5db17eaa3d4c4f84039a7252a501653f21a911d4d245b4e6c37123203965694d", func := "potence/potencelaw02.AboutNests", spec := "aboutNests", unfollowed := true, recurses := true, named := ["potence/about.errRing"], apart := false, laid := [("potence/about.errRing", laid_potence_about_errRing)], narrowed := true }
def AboutNestsUptoSaid : Prop := aboutNestsUptoRow.holds Tryz.pinned (OpenSpec.upto aboutNestsSpec)

/-- 'potencelaw02.AboutAdds', WHERE WHAT IT READS IS OF BULK AT MOST 1048576: true; the input reads as it did. -/
def aboutAddsUptoRow : OpenClaim := { program := "ytbhiphjifdnhmaagreatdoor", sum := "5db17eaa3d4c4f84039a7252a501653f21a911d4d245b4e6c37123203965694d", func := "potence/potencelaw02.AboutAdds", spec := "aboutAdds", unfollowed := true, recurses := true, named := ["potence/about.errRing"], apart := false, laid := [("potence/about.errRing", laid_potence_about_errRing)], narrowed := true }
def AboutAddsUptoSaid : Prop := aboutAddsUptoRow.holds Tryz.pinned (OpenSpec.upto aboutAddsSpec)

/-- 'potencelaw02.AboutAgrees', WHERE WHAT IT READS IS OF BULK AT MOST 1048576: true; the input reads as it did. -/
def aboutAgreesUptoRow : OpenClaim := { program := "ytbhiphjifdnhmaagreatdoor", sum := "5db17eaa3d4c4f84039a7252a501653f21a911d4d245b4e6c37123203965694d", func := "potence/potencelaw02.AboutAgrees", spec := "aboutAgrees", unfollowed := true, recurses := true, named := ["potence/about.errRing"], apart := false, laid := [("potence/about.errRing", laid_potence_about_errRing)], narrowed := true }
def AboutAgreesUptoSaid : Prop := aboutAgreesUptoRow.holds Tryz.pinned (OpenSpec.upto aboutAgreesSpec)

/-- 'potencelaw02.AboutKnows', WHERE WHAT IT READS IS OF BULK AT MOST 1048576: true; the input reads as it did. -/
def aboutKnowsUptoRow : OpenClaim := { program := "ytbhiphjifdnhmaagreatdoor", sum := "5db17eaa3d4c4f84039a7252a501653f21a911d4d245b4e6c37123203965694d", func := "potence/potencelaw02.AboutKnows", spec := "aboutKnows", unfollowed := true, recurses := true, named := ["potence/about.errRing"], apart := false, laid := [("potence/about.errRing", laid_potence_about_errRing)], narrowed := true }
def AboutKnowsUptoSaid : Prop := aboutKnowsUptoRow.holds Tryz.pinned (OpenSpec.upto aboutKnowsSpec)

/-- 'potencelaw02.AboutOrder', WHERE WHAT IT READS IS OF BULK AT MOST 1048576: true; the input reads as it did. -/
def aboutOrderUptoRow : OpenClaim := { program := "ytbhiphjifdnhmaagreatdoor", sum := "5db17eaa3d4c4f84039a7252a501653f21a911d4d245b4e6c37123203965694d", func := "potence/potencelaw02.AboutOrder", spec := "aboutOrder", unfollowed := true, recurses := true, named := ["potence/about.errRing"], apart := false, laid := [("potence/about.errRing", laid_potence_about_errRing)], narrowed := true }
def AboutOrderUptoSaid : Prop := aboutOrderUptoRow.holds Tryz.pinned (OpenSpec.upto aboutOrderSpec)

/-- 'potencelaw02.AboutNarrows', WHERE WHAT IT READS IS OF BULK AT MOST 1048576: true; the input reads as it did. -/
def aboutNarrowsUptoRow : OpenClaim := { program := "ytbhiphjifdnhmaagreatdoor", sum := "5db17eaa3d4c4f84039a7252a501653f21a911d4d245b4e6c37123203965694d", func := "potence/potencelaw02.AboutNarrows", spec := "aboutNarrows", unfollowed := true, recurses := true, named := ["potence/about.errRing"], apart := false, laid := [("potence/about.errRing", laid_potence_about_errRing)], narrowed := true }
def AboutNarrowsUptoSaid : Prop := aboutNarrowsUptoRow.holds Tryz.pinned (OpenSpec.upto aboutNarrowsSpec)

/-- 'potencelaw02.AboutEqual', WHERE WHAT IT READS IS OF BULK AT MOST 1048576: true; the input reads as it did. -/
def aboutEqualUptoRow : OpenClaim := { program := "ytbhiphjifdnhmaagreatdoor", sum := "5db17eaa3d4c4f84039a7252a501653f21a911d4d245b4e6c37123203965694d", func := "potence/potencelaw02.AboutEqual", spec := "aboutEqual", unfollowed := true, recurses := true, named := ["potence/about.errRing"], apart := false, laid := [("potence/about.errRing", laid_potence_about_errRing)], narrowed := true }
def AboutEqualUptoSaid : Prop := aboutEqualUptoRow.holds Tryz.pinned (OpenSpec.upto aboutEqualSpec)

/-- 'potencelaw02.AboutMakes', WHERE WHAT IT READS IS OF BULK AT MOST 1048576: true; the input reads as it did. -/
def aboutMakesUptoRow : OpenClaim := { program := "ytbhiphjifdnhmaagreatdoor", sum := "5db17eaa3d4c4f84039a7252a501653f21a911d4d245b4e6c37123203965694d", func := "potence/potencelaw02.AboutMakes", spec := "aboutMakes", unfollowed := true, recurses := true, named := ["potence/about.errRing"], apart := false, laid := [("potence/about.errRing", laid_potence_about_errRing)], narrowed := true }
def AboutMakesUptoSaid : Prop := aboutMakesUptoRow.holds Tryz.pinned (OpenSpec.upto aboutMakesSpec)

/-- 'potencelaw02.AboutSums', WHERE WHAT IT READS IS OF BULK AT MOST 1048576: true; the input reads as it did. -/
def aboutSumsUptoRow : OpenClaim := { program := "ytbhiphjifdnhmaagreatdoor", sum := "5db17eaa3d4c4f84039a7252a501653f21a911d4d245b4e6c37123203965694d", func := "potence/potencelaw02.AboutSums", spec := "aboutSums", unfollowed := true, recurses := true, named := ["potence/about.errRing"], apart := false, laid := [("potence/about.errRing", laid_potence_about_errRing)], narrowed := true }
def AboutSumsUptoSaid : Prop := aboutSumsUptoRow.holds Tryz.pinned (OpenSpec.upto aboutSumsSpec)

/-- 'potencelaw02.AboutJudges', WHERE WHAT IT READS IS OF BULK AT MOST 1048576: true; the input reads as it did. -/
def aboutJudgesUptoRow : OpenClaim := { program := "ytbhiphjifdnhmaagreatdoor", sum := "5db17eaa3d4c4f84039a7252a501653f21a911d4d245b4e6c37123203965694d", func := "potence/potencelaw02.AboutJudges", spec := "aboutJudges", unfollowed := true, recurses := true, named := ["potence/about.errRing"], apart := false, laid := [("potence/about.errRing", laid_potence_about_errRing)], narrowed := true }
def AboutJudgesUptoSaid : Prop := aboutJudgesUptoRow.holds Tryz.pinned (OpenSpec.upto aboutJudgesSpec)

/-- 'potencelaw02.AboutMeans', WHERE WHAT IT READS IS OF BULK AT MOST 1048576: true; the input reads as it did. -/
def aboutMeansUptoRow : OpenClaim := { program := "ytbhiphjifdnhmaagreatdoor", sum := "5db17eaa3d4c4f84039a7252a501653f21a911d4d245b4e6c37123203965694d", func := "potence/potencelaw02.AboutMeans", spec := "aboutMeans", unfollowed := true, recurses := true, named := ["potence/about.errRing"], apart := false, laid := [("potence/about.errRing", laid_potence_about_errRing)], narrowed := true }
def AboutMeansUptoSaid : Prop := aboutMeansUptoRow.holds Tryz.pinned (OpenSpec.upto aboutMeansSpec)

end Rows
end Go.Proofs.YtbhiphjifdnhmaaGreatDoor
