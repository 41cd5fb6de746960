/-
  DERIVED. GIVEN WITH THE SEED: THE CARDS: each row of YtdooakfdaeockaaDoorRows.lean that lists a variable, with what it lists TIED to the program's text (the seventh form; the later family's looks); each row that meets fmt, with fmt's text TOLD by the authors' own Lean function (tested against real Go, not proved from fmt's source: count such statements apart). THE CARD IS WHAT COUNTS. Prove the row's statement (the work); the ties are given (YtdooakfdaeockaaDoorTie.lean); close each card by the builder's one call (the guide's Derived/Test/ToyasCard.lean, 'card_holds'). Laid BY PROGRAM, IN A SANDBOX (cutbox-door.mjs). By AI agents, Wed Nov 11 2026. No macro, syntax, notation, axiom, sorry.
-/
import Derived.Test.YtdooakfdaeockaaDoorRows
import GoSem.ClaimSeven
namespace Go.Proofs.YtdooakfdaeockaaDoor
namespace Rows

/-- THE TIED CARD OF 'futtocklaw06.KlassWords'. -/
def klassWordsCard : Claim7 := { stood := { row := klassWordsRow, standIns := [], harness := (true, "bae618d9ab8e9ee08b85e49fa5be8fb1f17e41b3efc3c2426b5f282480dc063d"), looks := false }, kinds := [], alts := [], laidByText := true, laidKinds := [.wider, .wider, .wider, .wider, .wider, .wider, .wider, .wider], laidTests := true, laidLooks := .later }
def KlassWordsCardSaid : Prop := Claim7.holds Tryd.pinned (.plain (OpenSpec.ofChange klassWordsSpec)) klassWordsCard

/-- THE TIED CARD OF 'futtocklaw06.KlassEpochs'. -/
def klassEpochsCard : Claim7 := { stood := { row := klassEpochsRow, standIns := [], harness := (true, "bae618d9ab8e9ee08b85e49fa5be8fb1f17e41b3efc3c2426b5f282480dc063d"), looks := false }, kinds := [], alts := [], laidByText := true, laidKinds := [.wider, .wider, .wider, .wider, .wider, .wider, .wider, .wider], laidTests := true, laidLooks := .later }
def KlassEpochsCardSaid : Prop := Claim7.holds Tryd.pinned (.plain (OpenSpec.ofChange klassEpochsSpec)) klassEpochsCard

/-- THE TIED CARD OF 'futtocklaw06.KlassCounts'. -/
def klassCountsCard : Claim7 := { stood := { row := klassCountsRow, standIns := [], harness := (true, "bae618d9ab8e9ee08b85e49fa5be8fb1f17e41b3efc3c2426b5f282480dc063d"), looks := false }, kinds := [], alts := [], laidByText := true, laidKinds := [.wider, .wider, .wider, .wider, .wider, .wider, .wider, .wider], laidTests := true, laidLooks := .later }
def KlassCountsCardSaid : Prop := Claim7.holds Tryd.pinned (.plain (OpenSpec.ofChange klassCountsSpec)) klassCountsCard

/-- THE SECOND FORM's CARD OF 'futtocklaw06.KlassWords'. -/
def klassWordsUptoCard : Claim7 := { stood := { row := klassWordsUptoRow, standIns := [], harness := (true, "bae618d9ab8e9ee08b85e49fa5be8fb1f17e41b3efc3c2426b5f282480dc063d"), looks := false }, kinds := [], alts := [], laidByText := true, laidKinds := [.wider, .wider, .wider, .wider, .wider, .wider, .wider, .wider], laidTests := true, laidLooks := .later }
def KlassWordsUptoCardSaid : Prop := Claim7.holds Tryd.pinned (.plain (OpenSpec.upto klassWordsSpec)) klassWordsUptoCard

/-- THE SECOND FORM's CARD OF 'futtocklaw06.KlassEpochs'. -/
def klassEpochsUptoCard : Claim7 := { stood := { row := klassEpochsUptoRow, standIns := [], harness := (true, "bae618d9ab8e9ee08b85e49fa5be8fb1f17e41b3efc3c2426b5f282480dc063d"), looks := false }, kinds := [], alts := [], laidByText := true, laidKinds := [.wider, .wider, .wider, .wider, .wider, .wider, .wider, .wider], laidTests := true, laidLooks := .later }
def KlassEpochsUptoCardSaid : Prop := Claim7.holds Tryd.pinned (.plain (OpenSpec.upto klassEpochsSpec)) klassEpochsUptoCard

/-- THE SECOND FORM's CARD OF 'futtocklaw06.KlassCounts'. -/
def klassCountsUptoCard : Claim7 := { stood := { row := klassCountsUptoRow, standIns := [], harness := (true, "bae618d9ab8e9ee08b85e49fa5be8fb1f17e41b3efc3c2426b5f282480dc063d"), looks := false }, kinds := [], alts := [], laidByText := true, laidKinds := [.wider, .wider, .wider, .wider, .wider, .wider, .wider, .wider], laidTests := true, laidLooks := .later }
def KlassCountsUptoCardSaid : Prop := Claim7.holds Tryd.pinned (.plain (OpenSpec.upto klassCountsSpec)) klassCountsUptoCard
end Rows
end Go.Proofs.YtdooakfdaeockaaDoor
