/-
  No cell of these rows narrows 'for every input' (looked for: loops, veiled, ifaces, maps, wideKeys, modest, calm, conditions, laid).
  DERIVED. THE GIVEN ROWS OF THIS SEAT. 13 by the template 'for every input the law returns true; each argument reads behind the call as it read before'; 0 by the template 'total and deterministic' (their statements: YtolgomkmilbkgaaGreatTotals.lean).
  GIVEN WITH THE SEED: the statements are not yours to turn. If you find one false, say at which input.
  Laid BY PROGRAM, IN A SANDBOX (cutbox-rows.mjs): the forced cells as the released guide's own fill.sh prints them over the translation 70ef6dfdb94e87d4… (all of the seat's roots in one cut). By AI agents, Wed Nov 11 2026. No macro, syntax, notation, axiom, sorry.
-/
import Derived.Test.YtolgomkmilbkgaaGreatChecked
import GoSem.Claim
import GoSem.ClaimJoined
import GoSem.ClaimMapViews
import Derived.JoinedTies
import Derived.KernelRfl
namespace Go.Proofs.YtolgomkmilbkgaaGreat
/- THE CELL 'sum', in the pinned program and in every row, IS THE sha256 OF THE DUMP (.gsa) THAT YtolgomkmilbkgaaGreatProg.lean LOADS. Nothing in Lean hashes anything: it is a label: what it is worth is what the hold of that sum in a sandbox is worth. -/
noncomputable def Tryz.pinned : Pinned := { name := "ytolgomkmilbkgaagreat", sum := "70ef6dfdb94e87d46a4fdfb9ef3518b9957ed7a6be8b0a4dbbdf483f7c65228c", checked := Tryz.checked }
namespace Rows
def none {H : Type} : Left H := { results := [], args := [] }

/-- 'potencelaw08.GrainProves': WHATEVER THE INPUT: true; the input reads as it did. -/
def grainProvesSpec : ChangeSpec := { name := "grainProves", fn := fun _ => fun
  | [d1, d2, d3, d4] => { results := [.lit (.bool true)], args := [d1, d2, d3, d4] }
  | _ => none }
def grainProvesRow : OpenClaim := { program := "ytolgomkmilbkgaagreat", sum := "70ef6dfdb94e87d46a4fdfb9ef3518b9957ed7a6be8b0a4dbbdf483f7c65228c", func := "potence/potencelaw08.GrainProves", spec := "grainProves", unfollowed := true, recurses := true, apart := false }
def GrainProvesSaid : Prop := grainProvesRow.holds Tryz.pinned (OpenSpec.ofChange grainProvesSpec)

/-- ITS FALSE NEIGHBOUR: 'it returns false'. Refute it at one input. -/
def grainProvesWrong : ChangeSpec := { name := "grainProves", fn := fun _ => fun
  | [d1, d2, d3, d4] => { results := [.lit (.bool false)], args := [d1, d2, d3, d4] }
  | _ => none }
def GrainProvesWrongFalsely : Prop := grainProvesRow.holds Tryz.pinned (OpenSpec.ofChange grainProvesWrong)

/-- 'potencelaw08.GrainSure': WHATEVER THE INPUT: true; the input reads as it did. -/
def grainSureSpec : ChangeSpec := { name := "grainSure", fn := fun _ => fun
  | [d1, d2, d3] => { results := [.lit (.bool true)], args := [d1, d2, d3] }
  | _ => none }
def grainSureRow : OpenClaim := { program := "ytolgomkmilbkgaagreat", sum := "70ef6dfdb94e87d46a4fdfb9ef3518b9957ed7a6be8b0a4dbbdf483f7c65228c", func := "potence/potencelaw08.GrainSure", spec := "grainSure", unfollowed := true, recurses := true, apart := false }
def GrainSureSaid : Prop := grainSureRow.holds Tryz.pinned (OpenSpec.ofChange grainSureSpec)

/-- ITS FALSE NEIGHBOUR: 'it returns false'. Refute it at one input. -/
def grainSureWrong : ChangeSpec := { name := "grainSure", fn := fun _ => fun
  | [d1, d2, d3] => { results := [.lit (.bool false)], args := [d1, d2, d3] }
  | _ => none }
def GrainSureWrongFalsely : Prop := grainSureRow.holds Tryz.pinned (OpenSpec.ofChange grainSureWrong)

/-- 'potencelaw08.GrainMore': WHATEVER THE INPUT: true; the input reads as it did. -/
def grainMoreSpec : ChangeSpec := { name := "grainMore", fn := fun _ => fun
  | [d1, d2, d3, d4, d5, d6, d7] => { results := [.lit (.bool true)], args := [d1, d2, d3, d4, d5, d6, d7] }
  | _ => none }
def grainMoreRow : OpenClaim := { program := "ytolgomkmilbkgaagreat", sum := "70ef6dfdb94e87d46a4fdfb9ef3518b9957ed7a6be8b0a4dbbdf483f7c65228c", func := "potence/potencelaw08.GrainMore", spec := "grainMore", unfollowed := true, recurses := true, apart := false }
def GrainMoreSaid : Prop := grainMoreRow.holds Tryz.pinned (OpenSpec.ofChange grainMoreSpec)

/-- ITS FALSE NEIGHBOUR: 'it returns false'. Refute it at one input. -/
def grainMoreWrong : ChangeSpec := { name := "grainMore", fn := fun _ => fun
  | [d1, d2, d3, d4, d5, d6, d7] => { results := [.lit (.bool false)], args := [d1, d2, d3, d4, d5, d6, d7] }
  | _ => none }
def GrainMoreWrongFalsely : Prop := grainMoreRow.holds Tryz.pinned (OpenSpec.ofChange grainMoreWrong)

/-- 'potencelaw08.GrainFurther': WHATEVER THE INPUT: true; the input reads as it did. -/
def grainFurtherSpec : ChangeSpec := { name := "grainFurther", fn := fun _ => fun
  | [d1, d2, d3] => { results := [.lit (.bool true)], args := [d1, d2, d3] }
  | _ => none }
def grainFurtherRow : OpenClaim := { program := "ytolgomkmilbkgaagreat", sum := "70ef6dfdb94e87d46a4fdfb9ef3518b9957ed7a6be8b0a4dbbdf483f7c65228c", func := "potence/potencelaw08.GrainFurther", spec := "grainFurther", unfollowed := true, recurses := true, apart := false }
def GrainFurtherSaid : Prop := grainFurtherRow.holds Tryz.pinned (OpenSpec.ofChange grainFurtherSpec)

/-- ITS FALSE NEIGHBOUR: 'it returns false'. Refute it at one input. -/
def grainFurtherWrong : ChangeSpec := { name := "grainFurther", fn := fun _ => fun
  | [d1, d2, d3] => { results := [.lit (.bool false)], args := [d1, d2, d3] }
  | _ => none }
def GrainFurtherWrongFalsely : Prop := grainFurtherRow.holds Tryz.pinned (OpenSpec.ofChange grainFurtherWrong)

/-- 'potencelaw08.GrainBids': WHATEVER THE INPUT: true; the input reads as it did. -/
def grainBidsSpec : ChangeSpec := { name := "grainBids", fn := fun _ => fun
  | [d1, d2, d3] => { results := [.lit (.bool true)], args := [d1, d2, d3] }
  | _ => none }
def grainBidsRow : OpenClaim := { program := "ytolgomkmilbkgaagreat", sum := "70ef6dfdb94e87d46a4fdfb9ef3518b9957ed7a6be8b0a4dbbdf483f7c65228c", func := "potence/potencelaw08.GrainBids", spec := "grainBids", unfollowed := true, recurses := true, apart := false }
def GrainBidsSaid : Prop := grainBidsRow.holds Tryz.pinned (OpenSpec.ofChange grainBidsSpec)

/-- ITS FALSE NEIGHBOUR: 'it returns false'. Refute it at one input. -/
def grainBidsWrong : ChangeSpec := { name := "grainBids", fn := fun _ => fun
  | [d1, d2, d3] => { results := [.lit (.bool false)], args := [d1, d2, d3] }
  | _ => none }
def GrainBidsWrongFalsely : Prop := grainBidsRow.holds Tryz.pinned (OpenSpec.ofChange grainBidsWrong)

/-- 'potencelaw08.GrainEaten': WHATEVER THE INPUT: true; the input reads as it did. -/
def grainEatenSpec : ChangeSpec := { name := "grainEaten", fn := fun _ => fun
  | [d1, d2, d3] => { results := [.lit (.bool true)], args := [d1, d2, d3] }
  | _ => none }
def grainEatenRow : OpenClaim := { program := "ytolgomkmilbkgaagreat", sum := "70ef6dfdb94e87d46a4fdfb9ef3518b9957ed7a6be8b0a4dbbdf483f7c65228c", func := "potence/potencelaw08.GrainEaten", spec := "grainEaten", unfollowed := true, recurses := true, apart := false }
def GrainEatenSaid : Prop := grainEatenRow.holds Tryz.pinned (OpenSpec.ofChange grainEatenSpec)

/-- ITS FALSE NEIGHBOUR: 'it returns false'. Refute it at one input. -/
def grainEatenWrong : ChangeSpec := { name := "grainEaten", fn := fun _ => fun
  | [d1, d2, d3] => { results := [.lit (.bool false)], args := [d1, d2, d3] }
  | _ => none }
def GrainEatenWrongFalsely : Prop := grainEatenRow.holds Tryz.pinned (OpenSpec.ofChange grainEatenWrong)

/-- 'potencelaw08.GrainTwoHands': WHATEVER THE INPUT: true; the input reads as it did. -/
def grainTwoHandsSpec : ChangeSpec := { name := "grainTwoHands", fn := fun _ => fun
  | [d1, d2] => { results := [.lit (.bool true)], args := [d1, d2] }
  | _ => none }
def grainTwoHandsRow : OpenClaim := { program := "ytolgomkmilbkgaagreat", sum := "70ef6dfdb94e87d46a4fdfb9ef3518b9957ed7a6be8b0a4dbbdf483f7c65228c", func := "potence/potencelaw08.GrainTwoHands", spec := "grainTwoHands", unfollowed := true, recurses := true, apart := false }
def GrainTwoHandsSaid : Prop := grainTwoHandsRow.holds Tryz.pinned (OpenSpec.ofChange grainTwoHandsSpec)

/-- ITS FALSE NEIGHBOUR: 'it returns false'. Refute it at one input. -/
def grainTwoHandsWrong : ChangeSpec := { name := "grainTwoHands", fn := fun _ => fun
  | [d1, d2] => { results := [.lit (.bool false)], args := [d1, d2] }
  | _ => none }
def GrainTwoHandsWrongFalsely : Prop := grainTwoHandsRow.holds Tryz.pinned (OpenSpec.ofChange grainTwoHandsWrong)

/-- 'potencelaw08.GrainFlows': WHATEVER THE INPUT: true; the input reads as it did. -/
def grainFlowsSpec : ChangeSpec := { name := "grainFlows", fn := fun _ => fun
  | [d1, d2, d3] => { results := [.lit (.bool true)], args := [d1, d2, d3] }
  | _ => none }
def grainFlowsRow : OpenClaim := { program := "ytolgomkmilbkgaagreat", sum := "70ef6dfdb94e87d46a4fdfb9ef3518b9957ed7a6be8b0a4dbbdf483f7c65228c", func := "potence/potencelaw08.GrainFlows", spec := "grainFlows", unfollowed := true, recurses := true, apart := false }
def GrainFlowsSaid : Prop := grainFlowsRow.holds Tryz.pinned (OpenSpec.ofChange grainFlowsSpec)

/-- ITS FALSE NEIGHBOUR: 'it returns false'. Refute it at one input. -/
def grainFlowsWrong : ChangeSpec := { name := "grainFlows", fn := fun _ => fun
  | [d1, d2, d3] => { results := [.lit (.bool false)], args := [d1, d2, d3] }
  | _ => none }
def GrainFlowsWrongFalsely : Prop := grainFlowsRow.holds Tryz.pinned (OpenSpec.ofChange grainFlowsWrong)

/-- 'potencelaw08.GrainWays': WHATEVER THE INPUT: true; the input reads as it did. -/
def grainWaysSpec : ChangeSpec := { name := "grainWays", fn := fun _ => fun
  | [d1, d2, d3, d4] => { results := [.lit (.bool true)], args := [d1, d2, d3, d4] }
  | _ => none }
def grainWaysRow : OpenClaim := { program := "ytolgomkmilbkgaagreat", sum := "70ef6dfdb94e87d46a4fdfb9ef3518b9957ed7a6be8b0a4dbbdf483f7c65228c", func := "potence/potencelaw08.GrainWays", spec := "grainWays", unfollowed := true, recurses := true, apart := false }
def GrainWaysSaid : Prop := grainWaysRow.holds Tryz.pinned (OpenSpec.ofChange grainWaysSpec)

/-- ITS FALSE NEIGHBOUR: 'it returns false'. Refute it at one input. -/
def grainWaysWrong : ChangeSpec := { name := "grainWays", fn := fun _ => fun
  | [d1, d2, d3, d4] => { results := [.lit (.bool false)], args := [d1, d2, d3, d4] }
  | _ => none }
def GrainWaysWrongFalsely : Prop := grainWaysRow.holds Tryz.pinned (OpenSpec.ofChange grainWaysWrong)

/-- 'potencelaw08.GrainDays': WHATEVER THE INPUT: true; the input reads as it did. -/
def grainDaysSpec : ChangeSpec := { name := "grainDays", fn := fun _ => fun
  | [d1, d2, d3] => { results := [.lit (.bool true)], args := [d1, d2, d3] }
  | _ => none }
def grainDaysRow : OpenClaim := { program := "ytolgomkmilbkgaagreat", sum := "70ef6dfdb94e87d46a4fdfb9ef3518b9957ed7a6be8b0a4dbbdf483f7c65228c", func := "potence/potencelaw08.GrainDays", spec := "grainDays", unfollowed := true, recurses := true, apart := false }
def GrainDaysSaid : Prop := grainDaysRow.holds Tryz.pinned (OpenSpec.ofChange grainDaysSpec)

/-- ITS FALSE NEIGHBOUR: 'it returns false'. Refute it at one input. -/
def grainDaysWrong : ChangeSpec := { name := "grainDays", fn := fun _ => fun
  | [d1, d2, d3] => { results := [.lit (.bool false)], args := [d1, d2, d3] }
  | _ => none }
def GrainDaysWrongFalsely : Prop := grainDaysRow.holds Tryz.pinned (OpenSpec.ofChange grainDaysWrong)

/-- 'potencelaw08.GrainOffers': WHATEVER THE INPUT: true; the input reads as it did. -/
def grainOffersSpec : ChangeSpec := { name := "grainOffers", fn := fun _ => fun
  | [d1, d2, d3, d4] => { results := [.lit (.bool true)], args := [d1, d2, d3, d4] }
  | _ => none }
def grainOffersRow : OpenClaim := { program := "ytolgomkmilbkgaagreat", sum := "70ef6dfdb94e87d46a4fdfb9ef3518b9957ed7a6be8b0a4dbbdf483f7c65228c", func := "potence/potencelaw08.GrainOffers", spec := "grainOffers", unfollowed := true, recurses := true, apart := false }
def GrainOffersSaid : Prop := grainOffersRow.holds Tryz.pinned (OpenSpec.ofChange grainOffersSpec)

/-- ITS FALSE NEIGHBOUR: 'it returns false'. Refute it at one input. -/
def grainOffersWrong : ChangeSpec := { name := "grainOffers", fn := fun _ => fun
  | [d1, d2, d3, d4] => { results := [.lit (.bool false)], args := [d1, d2, d3, d4] }
  | _ => none }
def GrainOffersWrongFalsely : Prop := grainOffersRow.holds Tryz.pinned (OpenSpec.ofChange grainOffersWrong)

/-- 'potencelaw08.GrainLedgers': WHATEVER THE INPUT: true; the input reads as it did. -/
def grainLedgersSpec : ChangeSpec := { name := "grainLedgers", fn := fun _ => fun
  | [d1, d2, d3] => { results := [.lit (.bool true)], args := [d1, d2, d3] }
  | _ => none }
def grainLedgersRow : OpenClaim := { program := "ytolgomkmilbkgaagreat", sum := "70ef6dfdb94e87d46a4fdfb9ef3518b9957ed7a6be8b0a4dbbdf483f7c65228c", func := "potence/potencelaw08.GrainLedgers", spec := "grainLedgers", unfollowed := true, recurses := true, apart := false }
def GrainLedgersSaid : Prop := grainLedgersRow.holds Tryz.pinned (OpenSpec.ofChange grainLedgersSpec)

/-- ITS FALSE NEIGHBOUR: 'it returns false'. Refute it at one input. -/
def grainLedgersWrong : ChangeSpec := { name := "grainLedgers", fn := fun _ => fun
  | [d1, d2, d3] => { results := [.lit (.bool false)], args := [d1, d2, d3] }
  | _ => none }
def GrainLedgersWrongFalsely : Prop := grainLedgersRow.holds Tryz.pinned (OpenSpec.ofChange grainLedgersWrong)

/-- 'potencelaw08.GrainHands': WHATEVER THE INPUT: true; the input reads as it did. -/
def grainHandsSpec : ChangeSpec := { name := "grainHands", fn := fun _ => fun
  | [d1, d2, d3, d4, d5, d6] => { results := [.lit (.bool true)], args := [d1, d2, d3, d4, d5, d6] }
  | _ => none }
def grainHandsRow : OpenClaim := { program := "ytolgomkmilbkgaagreat", sum := "70ef6dfdb94e87d46a4fdfb9ef3518b9957ed7a6be8b0a4dbbdf483f7c65228c", func := "potence/potencelaw08.GrainHands", spec := "grainHands", unfollowed := true, recurses := true, apart := false }
def GrainHandsSaid : Prop := grainHandsRow.holds Tryz.pinned (OpenSpec.ofChange grainHandsSpec)

/-- ITS FALSE NEIGHBOUR: 'it returns false'. Refute it at one input. -/
def grainHandsWrong : ChangeSpec := { name := "grainHands", fn := fun _ => fun
  | [d1, d2, d3, d4, d5, d6] => { results := [.lit (.bool false)], args := [d1, d2, d3, d4, d5, d6] }
  | _ => none }
def GrainHandsWrongFalsely : Prop := grainHandsRow.holds Tryz.pinned (OpenSpec.ofChange grainHandsWrong)

/- THE SECOND FORM. 'bulk': how many values and letters a reading holds, each counted each time it is reached (what is shared counts as often as it is met; a slice's spare places count too). A statement '..UptoSaid' is the law's where the arguments, and the package variables that the reading takes, are together of bulk at most 1048576: NARROWER than '..Said'. Prove '..Said' where nothing that the law and all that it calls make is longer than what came in: it says more and counts as full. Else prove '..UptoSaid'. A law counts once. -/
mutual
def uptoBulk {H : Type} : DataW H → Nat
  | .lit (.string bytes) => bytes.length + 1
  | .lit _ => 1
  | .nil => 1
  | .ptr d => uptoBulk d + 1
  | .slice elems spare => uptoBulkAll elems + uptoBulkAll spare + 1
  | .agg parts => uptoBulkAll parts + 1
  | .iface _ d => uptoBulk d + 1
  | .map entries => uptoBulkEntries entries + 1
  | .held _ => 1
def uptoBulkAll {H : Type} : List (DataW H) → Nat
  | [] => 0
  | d :: r => uptoBulk d + uptoBulkAll r
def uptoBulkEntries {H : Type} : List (Lit × DataW H) → Nat
  | [] => 0
  | x :: r => uptoBulkEntry x + uptoBulkEntries r
def uptoBulkEntry {H : Type} : Lit × DataW H → Nat
  | (.string bytes, d) => bytes.length + uptoBulk d + 1
  | (_, d) => uptoBulk d + 1
 end
def uptoSmall : (H : Type) → List (DataW H) → Bool := fun _ ds => decide (uptoBulkAll ds ≤ 1048576)
def OpenSpec.upto (s : _root_.Go.ChangeSpec) : _root_.Go.OpenSpec := { _root_.Go.OpenSpec.ofChange s with cond := some uptoSmall }

/-- 'potencelaw08.GrainProves', WHERE WHAT IT READS IS OF BULK AT MOST 1048576: true; the input reads as it did. -/
def grainProvesUptoRow : OpenClaim := { program := "ytolgomkmilbkgaagreat", sum := "70ef6dfdb94e87d46a4fdfb9ef3518b9957ed7a6be8b0a4dbbdf483f7c65228c", func := "potence/potencelaw08.GrainProves", spec := "grainProves", unfollowed := true, recurses := true, apart := false, narrowed := true }
def GrainProvesUptoSaid : Prop := grainProvesUptoRow.holds Tryz.pinned (OpenSpec.upto grainProvesSpec)

/-- 'potencelaw08.GrainSure', WHERE WHAT IT READS IS OF BULK AT MOST 1048576: true; the input reads as it did. -/
def grainSureUptoRow : OpenClaim := { program := "ytolgomkmilbkgaagreat", sum := "70ef6dfdb94e87d46a4fdfb9ef3518b9957ed7a6be8b0a4dbbdf483f7c65228c", func := "potence/potencelaw08.GrainSure", spec := "grainSure", unfollowed := true, recurses := true, apart := false, narrowed := true }
def GrainSureUptoSaid : Prop := grainSureUptoRow.holds Tryz.pinned (OpenSpec.upto grainSureSpec)

/-- 'potencelaw08.GrainMore', WHERE WHAT IT READS IS OF BULK AT MOST 1048576: true; the input reads as it did. -/
def grainMoreUptoRow : OpenClaim := { program := "ytolgomkmilbkgaagreat", sum := "70ef6dfdb94e87d46a4fdfb9ef3518b9957ed7a6be8b0a4dbbdf483f7c65228c", func := "potence/potencelaw08.GrainMore", spec := "grainMore", unfollowed := true, recurses := true, apart := false, narrowed := true }
def GrainMoreUptoSaid : Prop := grainMoreUptoRow.holds Tryz.pinned (OpenSpec.upto grainMoreSpec)

/-- 'potencelaw08.GrainFurther', WHERE WHAT IT READS IS OF BULK AT MOST 1048576: true; the input reads as it did. -/
def grainFurtherUptoRow : OpenClaim := { program := "ytolgomkmilbkgaagreat", sum := "70ef6dfdb94e87d46a4fdfb9ef3518b9957ed7a6be8b0a4dbbdf483f7c65228c", func := "potence/potencelaw08.GrainFurther", spec := "grainFurther", unfollowed := true, recurses := true, apart := false, narrowed := true }
def GrainFurtherUptoSaid : Prop := grainFurtherUptoRow.holds Tryz.pinned (OpenSpec.upto grainFurtherSpec)

/-- 'potencelaw08.GrainBids', WHERE WHAT IT READS IS OF BULK AT MOST 1048576: true; the input reads as it did. -/
def grainBidsUptoRow : OpenClaim := { program := "ytolgomkmilbkgaagreat", sum := "70ef6dfdb94e87d46a4fdfb9ef3518b9957ed7a6be8b0a4dbbdf483f7c65228c", func := "potence/potencelaw08.GrainBids", spec := "grainBids", unfollowed := true, recurses := true, apart := false, narrowed := true }
def GrainBidsUptoSaid : Prop := grainBidsUptoRow.holds Tryz.pinned (OpenSpec.upto grainBidsSpec)

/-- 'potencelaw08.GrainEaten', WHERE WHAT IT READS IS OF BULK AT MOST 1048576: true; the input reads as it did. -/
def grainEatenUptoRow : OpenClaim := { program := "ytolgomkmilbkgaagreat", sum := "70ef6dfdb94e87d46a4fdfb9ef3518b9957ed7a6be8b0a4dbbdf483f7c65228c", func := "potence/potencelaw08.GrainEaten", spec := "grainEaten", unfollowed := true, recurses := true, apart := false, narrowed := true }
def GrainEatenUptoSaid : Prop := grainEatenUptoRow.holds Tryz.pinned (OpenSpec.upto grainEatenSpec)

/-- 'potencelaw08.GrainTwoHands', WHERE WHAT IT READS IS OF BULK AT MOST 1048576: true; the input reads as it did. -/
def grainTwoHandsUptoRow : OpenClaim := { program := "ytolgomkmilbkgaagreat", sum := "70ef6dfdb94e87d46a4fdfb9ef3518b9957ed7a6be8b0a4dbbdf483f7c65228c", func := "potence/potencelaw08.GrainTwoHands", spec := "grainTwoHands", unfollowed := true, recurses := true, apart := false, narrowed := true }
def GrainTwoHandsUptoSaid : Prop := grainTwoHandsUptoRow.holds Tryz.pinned (OpenSpec.upto grainTwoHandsSpec)

/-- 'potencelaw08.GrainFlows', WHERE WHAT IT READS IS OF BULK AT MOST 1048576: true; the input reads as it did. -/
def grainFlowsUptoRow : OpenClaim := { program := "ytolgomkmilbkgaagreat", sum := "70ef6dfdb94e87d46a4fdfb9ef3518b9957ed7a6be8b0a4dbbdf483f7c65228c", func := "potence/potencelaw08.GrainFlows", spec := "grainFlows", unfollowed := true, recurses := true, apart := false, narrowed := true }
def GrainFlowsUptoSaid : Prop := grainFlowsUptoRow.holds Tryz.pinned (OpenSpec.upto grainFlowsSpec)

/-- 'potencelaw08.GrainWays', WHERE WHAT IT READS IS OF BULK AT MOST 1048576: true; the input reads as it did. -/
def grainWaysUptoRow : OpenClaim := { program := "ytolgomkmilbkgaagreat", sum := "70ef6dfdb94e87d46a4fdfb9ef3518b9957ed7a6be8b0a4dbbdf483f7c65228c", func := "potence/potencelaw08.GrainWays", spec := "grainWays", unfollowed := true, recurses := true, apart := false, narrowed := true }
def GrainWaysUptoSaid : Prop := grainWaysUptoRow.holds Tryz.pinned (OpenSpec.upto grainWaysSpec)

/-- 'potencelaw08.GrainDays', WHERE WHAT IT READS IS OF BULK AT MOST 1048576: true; the input reads as it did. -/
def grainDaysUptoRow : OpenClaim := { program := "ytolgomkmilbkgaagreat", sum := "70ef6dfdb94e87d46a4fdfb9ef3518b9957ed7a6be8b0a4dbbdf483f7c65228c", func := "potence/potencelaw08.GrainDays", spec := "grainDays", unfollowed := true, recurses := true, apart := false, narrowed := true }
def GrainDaysUptoSaid : Prop := grainDaysUptoRow.holds Tryz.pinned (OpenSpec.upto grainDaysSpec)

/-- 'potencelaw08.GrainOffers', WHERE WHAT IT READS IS OF BULK AT MOST 1048576: true; the input reads as it did. -/
def grainOffersUptoRow : OpenClaim := { program := "ytolgomkmilbkgaagreat", sum := "70ef6dfdb94e87d46a4fdfb9ef3518b9957ed7a6be8b0a4dbbdf483f7c65228c", func := "potence/potencelaw08.GrainOffers", spec := "grainOffers", unfollowed := true, recurses := true, apart := false, narrowed := true }
def GrainOffersUptoSaid : Prop := grainOffersUptoRow.holds Tryz.pinned (OpenSpec.upto grainOffersSpec)

/-- 'potencelaw08.GrainLedgers', WHERE WHAT IT READS IS OF BULK AT MOST 1048576: true; the input reads as it did. -/
def grainLedgersUptoRow : OpenClaim := { program := "ytolgomkmilbkgaagreat", sum := "70ef6dfdb94e87d46a4fdfb9ef3518b9957ed7a6be8b0a4dbbdf483f7c65228c", func := "potence/potencelaw08.GrainLedgers", spec := "grainLedgers", unfollowed := true, recurses := true, apart := false, narrowed := true }
def GrainLedgersUptoSaid : Prop := grainLedgersUptoRow.holds Tryz.pinned (OpenSpec.upto grainLedgersSpec)

/-- 'potencelaw08.GrainHands', WHERE WHAT IT READS IS OF BULK AT MOST 1048576: true; the input reads as it did. -/
def grainHandsUptoRow : OpenClaim := { program := "ytolgomkmilbkgaagreat", sum := "70ef6dfdb94e87d46a4fdfb9ef3518b9957ed7a6be8b0a4dbbdf483f7c65228c", func := "potence/potencelaw08.GrainHands", spec := "grainHands", unfollowed := true, recurses := true, apart := false, narrowed := true }
def GrainHandsUptoSaid : Prop := grainHandsUptoRow.holds Tryz.pinned (OpenSpec.upto grainHandsSpec)

end Rows
end Go.Proofs.YtolgomkmilbkgaaGreat
