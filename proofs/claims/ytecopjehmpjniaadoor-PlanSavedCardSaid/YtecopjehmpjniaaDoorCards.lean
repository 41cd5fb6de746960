/-
  DERIVED. GIVEN WITH THE SEED: THE CARDS: each row of YtecopjehmpjniaaDoorRows.lean that lists a variable, with what it lists TIED to the program's text (the seventh form; the later family's looks); each row that meets fmt, with fmt's text TOLD by the authors' own Lean function (tested against real Go, not proved from fmt's source: count such statements apart). THE CARD IS WHAT COUNTS. Prove the row's statement (the work); the ties are given (YtecopjehmpjniaaDoorTie.lean); close each card by the builder's one call (the guide's Derived/Test/ToyasCard.lean, 'card_holds'). Laid BY PROGRAM, IN A SANDBOX (cutbox-door.mjs). By AI agents, Wed Nov 11 2026. No macro, syntax, notation, axiom, sorry.
-/
import Derived.Test.YtecopjehmpjniaaDoorRows
import GoSem.ClaimSeven
namespace Go.Proofs.YtecopjehmpjniaaDoor
namespace Rows

/-- THE TIED CARD OF 'futtocklaw19.PlanOnes'. -/
def planOnesCard : Claim7 := { stood := { row := planOnesRow, standIns := [], harness := (true, "9accdd6dc6884876310ea194110f3d937536cb8f24d7710681b9c3446fa1a8cb"), looks := false }, kinds := [], alts := [], laidByText := true, laidKinds := [.wider, .wider, .wider, .wider, .wider, .wider, .wider, .wider], laidTests := true, laidLooks := .later }
def PlanOnesCardSaid : Prop := Claim7.holds Tryd.pinned (.plain (OpenSpec.ofChange planOnesSpec)) planOnesCard

/-- THE TIED CARD OF 'futtocklaw19.PlanKeeps'. -/
def planKeepsCard : Claim7 := { stood := { row := planKeepsRow, standIns := [], harness := (true, "9accdd6dc6884876310ea194110f3d937536cb8f24d7710681b9c3446fa1a8cb"), looks := false }, kinds := [], alts := [], laidByText := true, laidKinds := [.wider, .wider, .wider, .wider, .wider, .wider, .wider, .wider], laidTests := true, laidLooks := .later }
def PlanKeepsCardSaid : Prop := Claim7.holds Tryd.pinned (.plain (OpenSpec.ofChange planKeepsSpec)) planKeepsCard

/-- THE TIED CARD OF 'futtocklaw19.PlanSaved'. -/
def planSavedCard : Claim7 := { stood := { row := planSavedRow, standIns := [], harness := (true, "9accdd6dc6884876310ea194110f3d937536cb8f24d7710681b9c3446fa1a8cb"), looks := false }, kinds := [], alts := [], laidByText := true, laidKinds := [.wider, .wider, .wider, .wider, .wider, .wider, .wider, .wider], laidTests := true, laidLooks := .later }
def PlanSavedCardSaid : Prop := Claim7.holds Tryd.pinned (.plain (OpenSpec.ofChange planSavedSpec)) planSavedCard

/-- THE SECOND FORM's CARD OF 'futtocklaw19.PlanOnes'. -/
def planOnesUptoCard : Claim7 := { stood := { row := planOnesUptoRow, standIns := [], harness := (true, "9accdd6dc6884876310ea194110f3d937536cb8f24d7710681b9c3446fa1a8cb"), looks := false }, kinds := [], alts := [], laidByText := true, laidKinds := [.wider, .wider, .wider, .wider, .wider, .wider, .wider, .wider], laidTests := true, laidLooks := .later }
def PlanOnesUptoCardSaid : Prop := Claim7.holds Tryd.pinned (.plain (OpenSpec.upto planOnesSpec)) planOnesUptoCard

/-- THE SECOND FORM's CARD OF 'futtocklaw19.PlanKeeps'. -/
def planKeepsUptoCard : Claim7 := { stood := { row := planKeepsUptoRow, standIns := [], harness := (true, "9accdd6dc6884876310ea194110f3d937536cb8f24d7710681b9c3446fa1a8cb"), looks := false }, kinds := [], alts := [], laidByText := true, laidKinds := [.wider, .wider, .wider, .wider, .wider, .wider, .wider, .wider], laidTests := true, laidLooks := .later }
def PlanKeepsUptoCardSaid : Prop := Claim7.holds Tryd.pinned (.plain (OpenSpec.upto planKeepsSpec)) planKeepsUptoCard

/-- THE SECOND FORM's CARD OF 'futtocklaw19.PlanSaved'. -/
def planSavedUptoCard : Claim7 := { stood := { row := planSavedUptoRow, standIns := [], harness := (true, "9accdd6dc6884876310ea194110f3d937536cb8f24d7710681b9c3446fa1a8cb"), looks := false }, kinds := [], alts := [], laidByText := true, laidKinds := [.wider, .wider, .wider, .wider, .wider, .wider, .wider, .wider], laidTests := true, laidLooks := .later }
def PlanSavedUptoCardSaid : Prop := Claim7.holds Tryd.pinned (.plain (OpenSpec.upto planSavedSpec)) planSavedUptoCard
end Rows
end Go.Proofs.YtecopjehmpjniaaDoor
