/-
  DERIVED. GIVEN WITH THE SEED: THE CARDS: each row of YtbhiphjifdnhmaaGreatDoorRows.lean that lists a variable, with what it lists TIED to the program's text (the seventh form; the later family's looks); each row that meets fmt, with fmt's text TOLD by the authors' own Lean function (tested against real Go, not proved from fmt's source: count such statements apart). THE CARD IS WHAT COUNTS. Prove the row's statement (the work); the ties are given (YtbhiphjifdnhmaaGreatDoorTie.lean); close each card by the builder's one call (the guide's Derived/Test/ToyasCard.lean, 'card_holds'). Laid BY PROGRAM, IN A SANDBOX (cutbox-door.mjs). By AI agents, Wed Nov 11 2026. No macro, syntax, notation, axiom, sorry.
-/
import Derived.Test.YtbhiphjifdnhmaaGreatDoorRows
import GoSem.ClaimSeven
namespace Go.Proofs.YtbhiphjifdnhmaaGreatDoor
namespace Rows

/-- THE TIED CARD OF 'potencelaw02.AboutNests'. -/
def aboutNestsCard : Claim7 := { stood := { row := aboutNestsRow, standIns := [], harness := (true, "4d621d99bc1e0b66f2774e1e1f063c373948eccdf72f865d0d73e01b92262fba"), looks := true }, kinds := [], alts := [], laidByText := true, laidKinds := [.sentinel], laidTests := true, laidLooks := .later }
def AboutNestsCardSaid : Prop := Claim7.holds Tryz.pinned (.plain (OpenSpec.ofChange aboutNestsSpec)) aboutNestsCard

/-- THE TIED CARD OF 'potencelaw02.AboutAdds'. -/
def aboutAddsCard : Claim7 := { stood := { row := aboutAddsRow, standIns := [], harness := (true, "4d621d99bc1e0b66f2774e1e1f063c373948eccdf72f865d0d73e01b92262fba"), looks := true }, kinds := [], alts := [], laidByText := true, laidKinds := [.sentinel], laidTests := true, laidLooks := .later }
def AboutAddsCardSaid : Prop := Claim7.holds Tryz.pinned (.plain (OpenSpec.ofChange aboutAddsSpec)) aboutAddsCard

/-- THE TIED CARD OF 'potencelaw02.AboutAgrees'. -/
def aboutAgreesCard : Claim7 := { stood := { row := aboutAgreesRow, standIns := [], harness := (true, "4d621d99bc1e0b66f2774e1e1f063c373948eccdf72f865d0d73e01b92262fba"), looks := true }, kinds := [], alts := [], laidByText := true, laidKinds := [.sentinel], laidTests := true, laidLooks := .later }
def AboutAgreesCardSaid : Prop := Claim7.holds Tryz.pinned (.plain (OpenSpec.ofChange aboutAgreesSpec)) aboutAgreesCard

/-- THE TIED CARD OF 'potencelaw02.AboutKnows'. -/
def aboutKnowsCard : Claim7 := { stood := { row := aboutKnowsRow, standIns := [], harness := (true, "4d621d99bc1e0b66f2774e1e1f063c373948eccdf72f865d0d73e01b92262fba"), looks := true }, kinds := [], alts := [], laidByText := true, laidKinds := [.sentinel], laidTests := true, laidLooks := .later }
def AboutKnowsCardSaid : Prop := Claim7.holds Tryz.pinned (.plain (OpenSpec.ofChange aboutKnowsSpec)) aboutKnowsCard

/-- THE TIED CARD OF 'potencelaw02.AboutOrder'. -/
def aboutOrderCard : Claim7 := { stood := { row := aboutOrderRow, standIns := [], harness := (true, "4d621d99bc1e0b66f2774e1e1f063c373948eccdf72f865d0d73e01b92262fba"), looks := true }, kinds := [], alts := [], laidByText := true, laidKinds := [.sentinel], laidTests := true, laidLooks := .later }
def AboutOrderCardSaid : Prop := Claim7.holds Tryz.pinned (.plain (OpenSpec.ofChange aboutOrderSpec)) aboutOrderCard

/-- THE TIED CARD OF 'potencelaw02.AboutNarrows'. -/
def aboutNarrowsCard : Claim7 := { stood := { row := aboutNarrowsRow, standIns := [], harness := (true, "4d621d99bc1e0b66f2774e1e1f063c373948eccdf72f865d0d73e01b92262fba"), looks := true }, kinds := [], alts := [], laidByText := true, laidKinds := [.sentinel], laidTests := true, laidLooks := .later }
def AboutNarrowsCardSaid : Prop := Claim7.holds Tryz.pinned (.plain (OpenSpec.ofChange aboutNarrowsSpec)) aboutNarrowsCard

/-- THE TIED CARD OF 'potencelaw02.AboutEqual'. -/
def aboutEqualCard : Claim7 := { stood := { row := aboutEqualRow, standIns := [], harness := (true, "4d621d99bc1e0b66f2774e1e1f063c373948eccdf72f865d0d73e01b92262fba"), looks := true }, kinds := [], alts := [], laidByText := true, laidKinds := [.sentinel], laidTests := true, laidLooks := .later }
def AboutEqualCardSaid : Prop := Claim7.holds Tryz.pinned (.plain (OpenSpec.ofChange aboutEqualSpec)) aboutEqualCard

/-- THE TIED CARD OF 'potencelaw02.AboutMakes'. -/
def aboutMakesCard : Claim7 := { stood := { row := aboutMakesRow, standIns := [], harness := (true, "4d621d99bc1e0b66f2774e1e1f063c373948eccdf72f865d0d73e01b92262fba"), looks := true }, kinds := [], alts := [], laidByText := true, laidKinds := [.sentinel], laidTests := true, laidLooks := .later }
def AboutMakesCardSaid : Prop := Claim7.holds Tryz.pinned (.plain (OpenSpec.ofChange aboutMakesSpec)) aboutMakesCard

/-- THE TIED CARD OF 'potencelaw02.AboutSums'. -/
def aboutSumsCard : Claim7 := { stood := { row := aboutSumsRow, standIns := [], harness := (true, "4d621d99bc1e0b66f2774e1e1f063c373948eccdf72f865d0d73e01b92262fba"), looks := true }, kinds := [], alts := [], laidByText := true, laidKinds := [.sentinel], laidTests := true, laidLooks := .later }
def AboutSumsCardSaid : Prop := Claim7.holds Tryz.pinned (.plain (OpenSpec.ofChange aboutSumsSpec)) aboutSumsCard

/-- THE TIED CARD OF 'potencelaw02.AboutJudges'. -/
def aboutJudgesCard : Claim7 := { stood := { row := aboutJudgesRow, standIns := [], harness := (true, "4d621d99bc1e0b66f2774e1e1f063c373948eccdf72f865d0d73e01b92262fba"), looks := true }, kinds := [], alts := [], laidByText := true, laidKinds := [.sentinel], laidTests := true, laidLooks := .later }
def AboutJudgesCardSaid : Prop := Claim7.holds Tryz.pinned (.plain (OpenSpec.ofChange aboutJudgesSpec)) aboutJudgesCard

/-- THE TIED CARD OF 'potencelaw02.AboutMeans'. -/
def aboutMeansCard : Claim7 := { stood := { row := aboutMeansRow, standIns := [], harness := (true, "4d621d99bc1e0b66f2774e1e1f063c373948eccdf72f865d0d73e01b92262fba"), looks := true }, kinds := [], alts := [], laidByText := true, laidKinds := [.sentinel], laidTests := true, laidLooks := .later }
def AboutMeansCardSaid : Prop := Claim7.holds Tryz.pinned (.plain (OpenSpec.ofChange aboutMeansSpec)) aboutMeansCard

/-- THE SECOND FORM's CARD OF 'potencelaw02.AboutNests'. -/
def aboutNestsUptoCard : Claim7 := { stood := { row := aboutNestsUptoRow, standIns := [], harness := (true, "4d621d99bc1e0b66f2774e1e1f063c373948eccdf72f865d0d73e01b92262fba"), looks := true }, kinds := [], alts := [], laidByText := true, laidKinds := [.sentinel], laidTests := true, laidLooks := .later }
def AboutNestsUptoCardSaid : Prop := Claim7.holds Tryz.pinned (.plain (OpenSpec.upto aboutNestsSpec)) aboutNestsUptoCard

/-- THE SECOND FORM's CARD OF 'potencelaw02.AboutAdds'. -/
def aboutAddsUptoCard : Claim7 := { stood := { row := aboutAddsUptoRow, standIns := [], harness := (true, "4d621d99bc1e0b66f2774e1e1f063c373948eccdf72f865d0d73e01b92262fba"), looks := true }, kinds := [], alts := [], laidByText := true, laidKinds := [.sentinel], laidTests := true, laidLooks := .later }
def AboutAddsUptoCardSaid : Prop := Claim7.holds Tryz.pinned (.plain (OpenSpec.upto aboutAddsSpec)) aboutAddsUptoCard

/-- THE SECOND FORM's CARD OF 'potencelaw02.AboutAgrees'. -/
def aboutAgreesUptoCard : Claim7 := { stood := { row := aboutAgreesUptoRow, standIns := [], harness := (true, "4d621d99bc1e0b66f2774e1e1f063c373948eccdf72f865d0d73e01b92262fba"), looks := true }, kinds := [], alts := [], laidByText := true, laidKinds := [.sentinel], laidTests := true, laidLooks := .later }
def AboutAgreesUptoCardSaid : Prop := Claim7.holds Tryz.pinned (.plain (OpenSpec.upto aboutAgreesSpec)) aboutAgreesUptoCard

/-- THE SECOND FORM's CARD OF 'potencelaw02.AboutKnows'. -/
def aboutKnowsUptoCard : Claim7 := { stood := { row := aboutKnowsUptoRow, standIns := [], harness := (true, "4d621d99bc1e0b66f2774e1e1f063c373948eccdf72f865d0d73e01b92262fba"), looks := true }, kinds := [], alts := [], laidByText := true, laidKinds := [.sentinel], laidTests := true, laidLooks := .later }
def AboutKnowsUptoCardSaid : Prop := Claim7.holds Tryz.pinned (.plain (OpenSpec.upto aboutKnowsSpec)) aboutKnowsUptoCard

/-- THE SECOND FORM's CARD OF 'potencelaw02.AboutOrder'. -/
def aboutOrderUptoCard : Claim7 := { stood := { row := aboutOrderUptoRow, standIns := [], harness := (true, "4d621d99bc1e0b66f2774e1e1f063c373948eccdf72f865d0d73e01b92262fba"), looks := true }, kinds := [], alts := [], laidByText := true, laidKinds := [.sentinel], laidTests := true, laidLooks := .later }
def AboutOrderUptoCardSaid : Prop := Claim7.holds Tryz.pinned (.plain (OpenSpec.upto aboutOrderSpec)) aboutOrderUptoCard

/-- THE SECOND FORM's CARD OF 'potencelaw02.AboutNarrows'. -/
def aboutNarrowsUptoCard : Claim7 := { stood := { row := aboutNarrowsUptoRow, standIns := [], harness := (true, "4d621d99bc1e0b66f2774e1e1f063c373948eccdf72f865d0d73e01b92262fba"), looks := true }, kinds := [], alts := [], laidByText := true, laidKinds := [.sentinel], laidTests := true, laidLooks := .later }
def AboutNarrowsUptoCardSaid : Prop := Claim7.holds Tryz.pinned (.plain (OpenSpec.upto aboutNarrowsSpec)) aboutNarrowsUptoCard

/-- THE SECOND FORM's CARD OF 'potencelaw02.AboutEqual'. -/
def aboutEqualUptoCard : Claim7 := { stood := { row := aboutEqualUptoRow, standIns := [], harness := (true, "4d621d99bc1e0b66f2774e1e1f063c373948eccdf72f865d0d73e01b92262fba"), looks := true }, kinds := [], alts := [], laidByText := true, laidKinds := [.sentinel], laidTests := true, laidLooks := .later }
def AboutEqualUptoCardSaid : Prop := Claim7.holds Tryz.pinned (.plain (OpenSpec.upto aboutEqualSpec)) aboutEqualUptoCard

/-- THE SECOND FORM's CARD OF 'potencelaw02.AboutMakes'. -/
def aboutMakesUptoCard : Claim7 := { stood := { row := aboutMakesUptoRow, standIns := [], harness := (true, "4d621d99bc1e0b66f2774e1e1f063c373948eccdf72f865d0d73e01b92262fba"), looks := true }, kinds := [], alts := [], laidByText := true, laidKinds := [.sentinel], laidTests := true, laidLooks := .later }
def AboutMakesUptoCardSaid : Prop := Claim7.holds Tryz.pinned (.plain (OpenSpec.upto aboutMakesSpec)) aboutMakesUptoCard

/-- THE SECOND FORM's CARD OF 'potencelaw02.AboutSums'. -/
def aboutSumsUptoCard : Claim7 := { stood := { row := aboutSumsUptoRow, standIns := [], harness := (true, "4d621d99bc1e0b66f2774e1e1f063c373948eccdf72f865d0d73e01b92262fba"), looks := true }, kinds := [], alts := [], laidByText := true, laidKinds := [.sentinel], laidTests := true, laidLooks := .later }
def AboutSumsUptoCardSaid : Prop := Claim7.holds Tryz.pinned (.plain (OpenSpec.upto aboutSumsSpec)) aboutSumsUptoCard

/-- THE SECOND FORM's CARD OF 'potencelaw02.AboutJudges'. -/
def aboutJudgesUptoCard : Claim7 := { stood := { row := aboutJudgesUptoRow, standIns := [], harness := (true, "4d621d99bc1e0b66f2774e1e1f063c373948eccdf72f865d0d73e01b92262fba"), looks := true }, kinds := [], alts := [], laidByText := true, laidKinds := [.sentinel], laidTests := true, laidLooks := .later }
def AboutJudgesUptoCardSaid : Prop := Claim7.holds Tryz.pinned (.plain (OpenSpec.upto aboutJudgesSpec)) aboutJudgesUptoCard

/-- THE SECOND FORM's CARD OF 'potencelaw02.AboutMeans'. -/
def aboutMeansUptoCard : Claim7 := { stood := { row := aboutMeansUptoRow, standIns := [], harness := (true, "4d621d99bc1e0b66f2774e1e1f063c373948eccdf72f865d0d73e01b92262fba"), looks := true }, kinds := [], alts := [], laidByText := true, laidKinds := [.sentinel], laidTests := true, laidLooks := .later }
def AboutMeansUptoCardSaid : Prop := Claim7.holds Tryz.pinned (.plain (OpenSpec.upto aboutMeansSpec)) aboutMeansUptoCard
end Rows
end Go.Proofs.YtbhiphjifdnhmaaGreatDoor
