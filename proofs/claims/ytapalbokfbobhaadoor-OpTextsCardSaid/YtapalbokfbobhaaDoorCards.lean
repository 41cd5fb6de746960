/-
  DERIVED. GIVEN WITH THE SEED: THE CARDS: each row of YtapalbokfbobhaaDoorRows.lean that lists a variable, with what it lists TIED to the program's text (the seventh form; the later family's looks); each row that meets fmt, with fmt's text TOLD by the authors' own Lean function (tested against real Go, not proved from fmt's source: count such statements apart). THE CARD IS WHAT COUNTS. Prove the row's statement (the work); the ties are given (YtapalbokfbobhaaDoorTie.lean); close each card by the builder's one call (the guide's Derived/Test/ToyasCard.lean, 'card_holds'). Laid BY PROGRAM, IN A SANDBOX (cutbox-door.mjs). By AI agents, Wed Nov 11 2026. No macro, syntax, notation, axiom, sorry.
-/
import Derived.Test.YtapalbokfbobhaaDoorRows
import GoSem.ClaimSeven
namespace Go.Proofs.YtapalbokfbobhaaDoor
namespace Rows

/-- THE TIED CARD OF 'futtocklaw16.OpTexts'. -/
def opTextsCard : Claim7 := { stood := { row := opTextsRow, standIns := [], harness := (true, "677638a949bf1e9827b17f84711ec8a3f3d18496fd783717c0b73905657252f8"), looks := false }, kinds := [], alts := [], laidByText := true, laidKinds := [.data, .data, .data, .data, .data, .pinned], laidTests := true, laidLooks := .later }
def OpTextsCardSaid : Prop := Claim7.holds Tryd.pinned (.plain (OpenSpec.ofChange opTextsSpec)) opTextsCard

/-- THE TIED CARD OF 'futtocklaw16.OpBack'. -/
def opBackCard : Claim7 := { stood := { row := opBackRow, standIns := [], harness := (true, "677638a949bf1e9827b17f84711ec8a3f3d18496fd783717c0b73905657252f8"), looks := false }, kinds := [], alts := [], laidByText := true, laidKinds := [.data, .data, .data, .data, .data, .pinned], laidTests := true, laidLooks := .later }
def OpBackCardSaid : Prop := Claim7.holds Tryd.pinned (.plain (OpenSpec.ofChange opBackSpec)) opBackCard

/-- THE TIED CARD OF 'futtocklaw16.OpOnce'. -/
def opOnceCard : Claim7 := { stood := { row := opOnceRow, standIns := [], harness := (true, "677638a949bf1e9827b17f84711ec8a3f3d18496fd783717c0b73905657252f8"), looks := false }, kinds := [], alts := [], laidByText := true, laidKinds := [.data, .data, .data, .data, .data, .pinned], laidTests := true, laidLooks := .later }
def OpOnceCardSaid : Prop := Claim7.holds Tryd.pinned (.plain (OpenSpec.ofChange opOnceSpec)) opOnceCard

/-- THE SECOND FORM's CARD OF 'futtocklaw16.OpTexts'. -/
def opTextsUptoCard : Claim7 := { stood := { row := opTextsUptoRow, standIns := [], harness := (true, "677638a949bf1e9827b17f84711ec8a3f3d18496fd783717c0b73905657252f8"), looks := false }, kinds := [], alts := [], laidByText := true, laidKinds := [.data, .data, .data, .data, .data, .pinned], laidTests := true, laidLooks := .later }
def OpTextsUptoCardSaid : Prop := Claim7.holds Tryd.pinned (.plain (OpenSpec.upto opTextsSpec)) opTextsUptoCard

/-- THE SECOND FORM's CARD OF 'futtocklaw16.OpBack'. -/
def opBackUptoCard : Claim7 := { stood := { row := opBackUptoRow, standIns := [], harness := (true, "677638a949bf1e9827b17f84711ec8a3f3d18496fd783717c0b73905657252f8"), looks := false }, kinds := [], alts := [], laidByText := true, laidKinds := [.data, .data, .data, .data, .data, .pinned], laidTests := true, laidLooks := .later }
def OpBackUptoCardSaid : Prop := Claim7.holds Tryd.pinned (.plain (OpenSpec.upto opBackSpec)) opBackUptoCard

/-- THE SECOND FORM's CARD OF 'futtocklaw16.OpOnce'. -/
def opOnceUptoCard : Claim7 := { stood := { row := opOnceUptoRow, standIns := [], harness := (true, "677638a949bf1e9827b17f84711ec8a3f3d18496fd783717c0b73905657252f8"), looks := false }, kinds := [], alts := [], laidByText := true, laidKinds := [.data, .data, .data, .data, .data, .pinned], laidTests := true, laidLooks := .later }
def OpOnceUptoCardSaid : Prop := Claim7.holds Tryd.pinned (.plain (OpenSpec.upto opOnceSpec)) opOnceUptoCard
end Rows
end Go.Proofs.YtapalbokfbobhaaDoor
