/-
  DERIVED. GIVEN WITH THE SEED: THE CARDS: each row of YtdnfedhecigepaaDoorRows.lean that lists a variable, with what it lists TIED to the program's text (the seventh form; the later family's looks); each row that meets fmt, with fmt's text TOLD by the authors' own Lean function (tested against real Go, not proved from fmt's source: count such statements apart). THE CARD IS WHAT COUNTS. Prove the row's statement (the work); the ties are given (YtdnfedhecigepaaDoorTie.lean); close each card by the builder's one call (the guide's Derived/Test/ToyasCard.lean, 'card_holds'). Laid BY PROGRAM, IN A SANDBOX (cutbox-door.mjs). By AI agents, Wed Nov 11 2026. No macro, syntax, notation, axiom, sorry.
-/
import Derived.Test.YtdnfedhecigepaaDoorRows
import GoSem.ClaimSeven
namespace Go.Proofs.YtdnfedhecigepaaDoor
namespace Rows

/-- THE TIED CARD OF 'futtocklaw02.WordCodes'. -/
def wordCodesCard : Claim7 := { stood := { row := wordCodesRow, standIns := [], harness := (true, "f159d6e5870229c6bbcd23293dfa59d31bd3ec6cd17f33874519da4ee3508090"), looks := false }, kinds := [], alts := [], laidByText := true, laidKinds := [.wider, .wider, .wider, .wider, .wider, .wider, .wider, .wider], laidTests := true, laidLooks := .later }
def WordCodesCardSaid : Prop := Claim7.holds Tryd.pinned (.plain (OpenSpec.ofChange wordCodesSpec)) wordCodesCard

/-- THE TIED CARD OF 'futtocklaw02.WordReads'. -/
def wordReadsCard : Claim7 := { stood := { row := wordReadsRow, standIns := [], harness := (true, "f159d6e5870229c6bbcd23293dfa59d31bd3ec6cd17f33874519da4ee3508090"), looks := false }, kinds := [], alts := [], laidByText := true, laidKinds := [.wider, .wider, .wider, .wider, .wider, .wider, .wider, .wider], laidTests := true, laidLooks := .later }
def WordReadsCardSaid : Prop := Claim7.holds Tryd.pinned (.plain (OpenSpec.ofChange wordReadsSpec)) wordReadsCard

/-- THE TIED CARD OF 'futtocklaw02.WordBack'. -/
def wordBackCard : Claim7 := { stood := { row := wordBackRow, standIns := [], harness := (true, "f159d6e5870229c6bbcd23293dfa59d31bd3ec6cd17f33874519da4ee3508090"), looks := false }, kinds := [], alts := [], laidByText := true, laidKinds := [.wider, .wider, .wider, .wider, .wider, .wider, .wider, .wider], laidTests := true, laidLooks := .later }
def WordBackCardSaid : Prop := Claim7.holds Tryd.pinned (.plain (OpenSpec.ofChange wordBackSpec)) wordBackCard

/-- THE TIED CARD OF 'futtocklaw02.WordOnce'. -/
def wordOnceCard : Claim7 := { stood := { row := wordOnceRow, standIns := [], harness := (true, "f159d6e5870229c6bbcd23293dfa59d31bd3ec6cd17f33874519da4ee3508090"), looks := false }, kinds := [], alts := [], laidByText := true, laidKinds := [.wider, .wider, .wider, .wider, .wider, .wider, .wider, .wider], laidTests := true, laidLooks := .later }
def WordOnceCardSaid : Prop := Claim7.holds Tryd.pinned (.plain (OpenSpec.ofChange wordOnceSpec)) wordOnceCard

/-- THE TIED CARD OF 'futtocklaw02.WordOlder'. -/
def wordOlderCard : Claim7 := { stood := { row := wordOlderRow, standIns := [], harness := (true, "f159d6e5870229c6bbcd23293dfa59d31bd3ec6cd17f33874519da4ee3508090"), looks := false }, kinds := [], alts := [], laidByText := true, laidKinds := [.wider, .wider, .wider, .wider, .wider, .wider, .wider, .wider], laidTests := true, laidLooks := .later }
def WordOlderCardSaid : Prop := Claim7.holds Tryd.pinned (.plain (OpenSpec.ofChange wordOlderSpec)) wordOlderCard

/-- THE SECOND FORM's CARD OF 'futtocklaw02.WordCodes'. -/
def wordCodesUptoCard : Claim7 := { stood := { row := wordCodesUptoRow, standIns := [], harness := (true, "f159d6e5870229c6bbcd23293dfa59d31bd3ec6cd17f33874519da4ee3508090"), looks := false }, kinds := [], alts := [], laidByText := true, laidKinds := [.wider, .wider, .wider, .wider, .wider, .wider, .wider, .wider], laidTests := true, laidLooks := .later }
def WordCodesUptoCardSaid : Prop := Claim7.holds Tryd.pinned (.plain (OpenSpec.upto wordCodesSpec)) wordCodesUptoCard

/-- THE SECOND FORM's CARD OF 'futtocklaw02.WordReads'. -/
def wordReadsUptoCard : Claim7 := { stood := { row := wordReadsUptoRow, standIns := [], harness := (true, "f159d6e5870229c6bbcd23293dfa59d31bd3ec6cd17f33874519da4ee3508090"), looks := false }, kinds := [], alts := [], laidByText := true, laidKinds := [.wider, .wider, .wider, .wider, .wider, .wider, .wider, .wider], laidTests := true, laidLooks := .later }
def WordReadsUptoCardSaid : Prop := Claim7.holds Tryd.pinned (.plain (OpenSpec.upto wordReadsSpec)) wordReadsUptoCard

/-- THE SECOND FORM's CARD OF 'futtocklaw02.WordBack'. -/
def wordBackUptoCard : Claim7 := { stood := { row := wordBackUptoRow, standIns := [], harness := (true, "f159d6e5870229c6bbcd23293dfa59d31bd3ec6cd17f33874519da4ee3508090"), looks := false }, kinds := [], alts := [], laidByText := true, laidKinds := [.wider, .wider, .wider, .wider, .wider, .wider, .wider, .wider], laidTests := true, laidLooks := .later }
def WordBackUptoCardSaid : Prop := Claim7.holds Tryd.pinned (.plain (OpenSpec.upto wordBackSpec)) wordBackUptoCard

/-- THE SECOND FORM's CARD OF 'futtocklaw02.WordOnce'. -/
def wordOnceUptoCard : Claim7 := { stood := { row := wordOnceUptoRow, standIns := [], harness := (true, "f159d6e5870229c6bbcd23293dfa59d31bd3ec6cd17f33874519da4ee3508090"), looks := false }, kinds := [], alts := [], laidByText := true, laidKinds := [.wider, .wider, .wider, .wider, .wider, .wider, .wider, .wider], laidTests := true, laidLooks := .later }
def WordOnceUptoCardSaid : Prop := Claim7.holds Tryd.pinned (.plain (OpenSpec.upto wordOnceSpec)) wordOnceUptoCard

/-- THE SECOND FORM's CARD OF 'futtocklaw02.WordOlder'. -/
def wordOlderUptoCard : Claim7 := { stood := { row := wordOlderUptoRow, standIns := [], harness := (true, "f159d6e5870229c6bbcd23293dfa59d31bd3ec6cd17f33874519da4ee3508090"), looks := false }, kinds := [], alts := [], laidByText := true, laidKinds := [.wider, .wider, .wider, .wider, .wider, .wider, .wider, .wider], laidTests := true, laidLooks := .later }
def WordOlderUptoCardSaid : Prop := Claim7.holds Tryd.pinned (.plain (OpenSpec.upto wordOlderSpec)) wordOlderUptoCard
end Rows
end Go.Proofs.YtdnfedhecigepaaDoor
