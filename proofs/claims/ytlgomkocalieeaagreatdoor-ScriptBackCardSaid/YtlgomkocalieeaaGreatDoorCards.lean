/-
  DERIVED. GIVEN WITH THE SEED: THE CARDS: each row of YtlgomkocalieeaaGreatDoorRows.lean that lists a variable, with what it lists TIED to the program's text (the seventh form; the later family's looks); each row that meets fmt, with fmt's text TOLD by the authors' own Lean function (tested against real Go, not proved from fmt's source: count such statements apart). THE CARD IS WHAT COUNTS. Prove the row's statement (the work); the ties are given (YtlgomkocalieeaaGreatDoorTie.lean); close each card by the builder's one call (the guide's Derived/Test/ToyasCard.lean, 'card_holds'). Laid BY PROGRAM, IN A SANDBOX (cutbox-door.mjs). By AI agents, Wed Nov 11 2026. No macro, syntax, notation, axiom, sorry.
-/
import Derived.Test.YtlgomkocalieeaaGreatDoorRows
import GoSem.ClaimSeven
namespace Go.Proofs.YtlgomkocalieeaaGreatDoor
namespace Rows

/-- THE TIED CARD OF 'futtocklaw24.ScriptLays'. -/
def scriptLaysCard : Claim7 := { stood := { row := scriptLaysRow, standIns := [], harness := (true, "085e20c57da3d0ad3625b1e2901070e2b7bbbf3a123dc7c149dff8fdf94e51ca"), looks := false }, kinds := [], alts := [], laidByText := true, laidKinds := [.wider, .wider, .wider, .wider, .wider, .wider, .wider, .wider], laidTests := true, laidLooks := .later }
def ScriptLaysCardSaid : Prop := Claim7.holds Tryz.pinned (.plain (OpenSpec.ofChange scriptLaysSpec)) scriptLaysCard

/-- THE TIED CARD OF 'futtocklaw24.ScriptBack'. -/
def scriptBackCard : Claim7 := { stood := { row := scriptBackRow, standIns := [], harness := (true, "085e20c57da3d0ad3625b1e2901070e2b7bbbf3a123dc7c149dff8fdf94e51ca"), looks := false }, kinds := [], alts := [], laidByText := true, laidKinds := [.wider, .wider, .wider, .wider, .wider, .wider, .wider, .wider], laidTests := true, laidLooks := .later }
def ScriptBackCardSaid : Prop := Claim7.holds Tryz.pinned (.plain (OpenSpec.ofChange scriptBackSpec)) scriptBackCard

/-- THE TIED CARD OF 'futtocklaw24.ScriptOnce'. -/
def scriptOnceCard : Claim7 := { stood := { row := scriptOnceRow, standIns := [], harness := (true, "085e20c57da3d0ad3625b1e2901070e2b7bbbf3a123dc7c149dff8fdf94e51ca"), looks := false }, kinds := [], alts := [], laidByText := true, laidKinds := [.wider, .wider, .wider, .wider, .wider, .wider, .wider, .wider], laidTests := true, laidLooks := .later }
def ScriptOnceCardSaid : Prop := Claim7.holds Tryz.pinned (.plain (OpenSpec.ofChange scriptOnceSpec)) scriptOnceCard

/-- THE SECOND FORM's CARD OF 'futtocklaw24.ScriptLays'. -/
def scriptLaysUptoCard : Claim7 := { stood := { row := scriptLaysUptoRow, standIns := [], harness := (true, "085e20c57da3d0ad3625b1e2901070e2b7bbbf3a123dc7c149dff8fdf94e51ca"), looks := false }, kinds := [], alts := [], laidByText := true, laidKinds := [.wider, .wider, .wider, .wider, .wider, .wider, .wider, .wider], laidTests := true, laidLooks := .later }
def ScriptLaysUptoCardSaid : Prop := Claim7.holds Tryz.pinned (.plain (OpenSpec.upto scriptLaysSpec)) scriptLaysUptoCard

/-- THE SECOND FORM's CARD OF 'futtocklaw24.ScriptBack'. -/
def scriptBackUptoCard : Claim7 := { stood := { row := scriptBackUptoRow, standIns := [], harness := (true, "085e20c57da3d0ad3625b1e2901070e2b7bbbf3a123dc7c149dff8fdf94e51ca"), looks := false }, kinds := [], alts := [], laidByText := true, laidKinds := [.wider, .wider, .wider, .wider, .wider, .wider, .wider, .wider], laidTests := true, laidLooks := .later }
def ScriptBackUptoCardSaid : Prop := Claim7.holds Tryz.pinned (.plain (OpenSpec.upto scriptBackSpec)) scriptBackUptoCard

/-- THE SECOND FORM's CARD OF 'futtocklaw24.ScriptOnce'. -/
def scriptOnceUptoCard : Claim7 := { stood := { row := scriptOnceUptoRow, standIns := [], harness := (true, "085e20c57da3d0ad3625b1e2901070e2b7bbbf3a123dc7c149dff8fdf94e51ca"), looks := false }, kinds := [], alts := [], laidByText := true, laidKinds := [.wider, .wider, .wider, .wider, .wider, .wider, .wider, .wider], laidTests := true, laidLooks := .later }
def ScriptOnceUptoCardSaid : Prop := Claim7.holds Tryz.pinned (.plain (OpenSpec.upto scriptOnceSpec)) scriptOnceUptoCard
end Rows
end Go.Proofs.YtlgomkocalieeaaGreatDoor
