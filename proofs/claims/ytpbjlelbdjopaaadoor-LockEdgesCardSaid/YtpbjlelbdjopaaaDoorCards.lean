/-
  DERIVED. GIVEN WITH THE SEED: THE CARDS: each row of YtpbjlelbdjopaaaDoorRows.lean that lists a variable, with what it lists TIED to the program's text (the seventh form; the later family's looks); each row that meets fmt, with fmt's text TOLD by the authors' own Lean function (tested against real Go, not proved from fmt's source: count such statements apart). THE CARD IS WHAT COUNTS. Prove the row's statement (the work); the ties are given (YtpbjlelbdjopaaaDoorTie.lean); close each card by the builder's one call (the guide's Derived/Test/ToyasCard.lean, 'card_holds'). Laid BY PROGRAM, IN A SANDBOX (cutbox-door.mjs). By AI agents, Wed Nov 11 2026. No macro, syntax, notation, axiom, sorry.
-/
import Derived.Test.YtpbjlelbdjopaaaDoorRows
import GoSem.ClaimSeven
namespace Go.Proofs.YtpbjlelbdjopaaaDoor
namespace Rows

/-- THE TIED CARD OF 'futtocklaw04.LockMakes'. -/
def lockMakesCard : Claim7 := { stood := { row := lockMakesRow, standIns := [], harness := (true, "92561d54aec25681a27a4b0c123b79fefd9b774d0f32aac7c0388fb659c776f5"), looks := false }, kinds := [], alts := [], laidByText := true, laidKinds := [.wider, .wider], laidTests := true, laidLooks := .later }
def LockMakesCardSaid : Prop := Claim7.holds Tryd.pinned (.plain (OpenSpec.ofChange lockMakesSpec)) lockMakesCard

/-- THE TIED CARD OF 'futtocklaw04.LockTurns'. -/
def lockTurnsCard : Claim7 := { stood := { row := lockTurnsRow, standIns := [], harness := (true, "92561d54aec25681a27a4b0c123b79fefd9b774d0f32aac7c0388fb659c776f5"), looks := false }, kinds := [], alts := [], laidByText := true, laidKinds := [.wider, .wider], laidTests := true, laidLooks := .later }
def LockTurnsCardSaid : Prop := Claim7.holds Tryd.pinned (.plain (OpenSpec.ofChange lockTurnsSpec)) lockTurnsCard

/-- THE TIED CARD OF 'futtocklaw04.LockParts'. -/
def lockPartsCard : Claim7 := { stood := { row := lockPartsRow, standIns := [], harness := (true, "92561d54aec25681a27a4b0c123b79fefd9b774d0f32aac7c0388fb659c776f5"), looks := false }, kinds := [], alts := [], laidByText := true, laidKinds := [.wider, .wider], laidTests := true, laidLooks := .later }
def LockPartsCardSaid : Prop := Claim7.holds Tryd.pinned (.plain (OpenSpec.ofChange lockPartsSpec)) lockPartsCard

/-- THE TIED CARD OF 'futtocklaw04.LockEdges'. -/
def lockEdgesCard : Claim7 := { stood := { row := lockEdgesRow, standIns := [], harness := (true, "92561d54aec25681a27a4b0c123b79fefd9b774d0f32aac7c0388fb659c776f5"), looks := false }, kinds := [], alts := [], laidByText := true, laidKinds := [.wider, .wider], laidTests := true, laidLooks := .later }
def LockEdgesCardSaid : Prop := Claim7.holds Tryd.pinned (.plain (OpenSpec.ofChange lockEdgesSpec)) lockEdgesCard

/-- THE SECOND FORM's CARD OF 'futtocklaw04.LockMakes'. -/
def lockMakesUptoCard : Claim7 := { stood := { row := lockMakesUptoRow, standIns := [], harness := (true, "92561d54aec25681a27a4b0c123b79fefd9b774d0f32aac7c0388fb659c776f5"), looks := false }, kinds := [], alts := [], laidByText := true, laidKinds := [.wider, .wider], laidTests := true, laidLooks := .later }
def LockMakesUptoCardSaid : Prop := Claim7.holds Tryd.pinned (.plain (OpenSpec.upto lockMakesSpec)) lockMakesUptoCard

/-- THE SECOND FORM's CARD OF 'futtocklaw04.LockTurns'. -/
def lockTurnsUptoCard : Claim7 := { stood := { row := lockTurnsUptoRow, standIns := [], harness := (true, "92561d54aec25681a27a4b0c123b79fefd9b774d0f32aac7c0388fb659c776f5"), looks := false }, kinds := [], alts := [], laidByText := true, laidKinds := [.wider, .wider], laidTests := true, laidLooks := .later }
def LockTurnsUptoCardSaid : Prop := Claim7.holds Tryd.pinned (.plain (OpenSpec.upto lockTurnsSpec)) lockTurnsUptoCard

/-- THE SECOND FORM's CARD OF 'futtocklaw04.LockParts'. -/
def lockPartsUptoCard : Claim7 := { stood := { row := lockPartsUptoRow, standIns := [], harness := (true, "92561d54aec25681a27a4b0c123b79fefd9b774d0f32aac7c0388fb659c776f5"), looks := false }, kinds := [], alts := [], laidByText := true, laidKinds := [.wider, .wider], laidTests := true, laidLooks := .later }
def LockPartsUptoCardSaid : Prop := Claim7.holds Tryd.pinned (.plain (OpenSpec.upto lockPartsSpec)) lockPartsUptoCard

/-- THE SECOND FORM's CARD OF 'futtocklaw04.LockEdges'. -/
def lockEdgesUptoCard : Claim7 := { stood := { row := lockEdgesUptoRow, standIns := [], harness := (true, "92561d54aec25681a27a4b0c123b79fefd9b774d0f32aac7c0388fb659c776f5"), looks := false }, kinds := [], alts := [], laidByText := true, laidKinds := [.wider, .wider], laidTests := true, laidLooks := .later }
def LockEdgesUptoCardSaid : Prop := Claim7.holds Tryd.pinned (.plain (OpenSpec.upto lockEdgesSpec)) lockEdgesUptoCard
end Rows
end Go.Proofs.YtpbjlelbdjopaaaDoor
