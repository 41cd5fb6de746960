/-
  NARROWER THAN 'FOR EVERY INPUT', by the rows' own cells (each row's printed sentence says how): PlanOnes: laid · PlanKeeps: laid · PlanSaved: laid.
  DERIVED. THE GIVEN ROWS OF THIS SEAT. 3 by the template 'for every input the law returns true; each argument reads behind the call as it read before'; 0 by the template 'total and deterministic' (their statements: YtecopjehmpjniaaDoorTotals.lean).
  GIVEN WITH THE SEED: the statements are not yours to turn. If you find one false, say at which input.
  Laid BY PROGRAM, IN A SANDBOX (cutbox-rows.mjs): the forced cells as the released guide's own fill.sh prints them over the translation 5580d2aeefdaad90… (all of the seat's roots in one cut). By AI agents, Wed Nov 11 2026. No macro, syntax, notation, axiom, sorry.
-/
import Derived.Test.YtecopjehmpjniaaDoorChecked
import GoSem.Claim
import GoSem.ClaimJoined
import GoSem.ClaimMapViews
import Derived.JoinedTies
import Derived.KernelRfl
namespace Go.Proofs.YtecopjehmpjniaaDoor
/- THE CELL 'sum', in the pinned program and in every row, IS THE sha256 OF THE DUMP (.gsa) THAT YtecopjehmpjniaaDoorProg.lean LOADS. Nothing in Lean hashes anything: it is a label: what it is worth is what the hold of that sum in a sandbox is worth. -/
noncomputable def Tryd.pinned : Pinned := { name := "ytecopjehmpjniaadoor", sum := "5580d2aeefdaad90f4a254c0a472553ada565e480d66b9670ca2bddb2c6b18e3", checked := Tryd.checked }
namespace Rows
def none {H : Type} : Left H := { results := [], args := [] }

/- WHAT THE LISTED PACKAGE-LEVEL VARIABLES READ AS WHEN THE CALL BEGINS. Each datum BY PROGRAM (the guide's laid-datum.mjs) off the statement by which the dump's own 'gosem.cut.vars' lays the variable. In a bare row this is a premise. The card (YtecopjehmpjniaaDoorCards.lean) ties it to the program's text. -/
def laid_futtock_word_tagField {H : Type} : DataW H := .agg [.lit (.int .u8 0), .lit (.int .u8 3)]
def laid_futtock_word_ageField {H : Type} : DataW H := .agg [.lit (.int .u8 3), .lit (.int .u8 4)]
def laid_futtock_word_epochField {H : Type} : DataW H := .agg [.lit (.int .u8 8), .lit (.int .u8 8)]
def laid_futtock_word_hashField {H : Type} : DataW H := .agg [.lit (.int .u8 8), .lit (.int .u8 31)]
def laid_futtock_word_ownerField {H : Type} : DataW H := .agg [.lit (.int .u8 24), .lit (.int .u8 16)]
def laid_futtock_word_recordField {H : Type} : DataW H := .agg [.lit (.int .u8 8), .lit (.int .u8 16)]
def laid_futtock_word_slotField {H : Type} : DataW H := .agg [.lit (.int .u8 8), .lit (.int .u8 16)]
def laid_futtock_word_genField {H : Type} : DataW H := .agg [.lit (.int .u8 24), .lit (.int .u8 24)]

/-- 'futtocklaw19.PlanOnes': WHATEVER THE INPUT: true; the input reads as it did. -/
def planOnesSpec : ChangeSpec := { name := "planOnes", fn := fun _ => fun
  | [d1, d2] => { results := [.lit (.bool true)], args := [d1, d2] }
  | _ => none }
def planOnesRow : OpenClaim := { program := "ytecopjehmpjniaadoor", sum := "5580d2aeefdaad90f4a254c0a472553ada565e480d66b9670ca2bddb2c6b18e3", func := "futtock/futtocklaw19.PlanOnes", spec := "planOnes", named := ["futtock/word.recordField", "futtock/word.ownerField", "futtock/word.ageField", "futtock/word.hashField", "futtock/word.slotField", "futtock/word.genField", "futtock/word.epochField", "futtock/word.tagField"], apart := false, laid := [("futtock/word.tagField", laid_futtock_word_tagField), ("futtock/word.ageField", laid_futtock_word_ageField), ("futtock/word.epochField", laid_futtock_word_epochField), ("futtock/word.hashField", laid_futtock_word_hashField), ("futtock/word.ownerField", laid_futtock_word_ownerField), ("futtock/word.recordField", laid_futtock_word_recordField), ("futtock/word.slotField", laid_futtock_word_slotField), ("futtock/word.genField", laid_futtock_word_genField)] }
def PlanOnesSaid : Prop := planOnesRow.holds Tryd.pinned (OpenSpec.ofChange planOnesSpec)

/-- ITS FALSE NEIGHBOUR: 'it returns false'. Refute it at one input. -/
def planOnesWrong : ChangeSpec := { name := "planOnes", fn := fun _ => fun
  | [d1, d2] => { results := [.lit (.bool false)], args := [d1, d2] }
  | _ => none }
def PlanOnesWrongFalsely : Prop := planOnesRow.holds Tryd.pinned (OpenSpec.ofChange planOnesWrong)

/-- 'futtocklaw19.PlanKeeps': WHATEVER THE INPUT: true; the input reads as it did. -/
def planKeepsSpec : ChangeSpec := { name := "planKeeps", fn := fun _ => fun
  | [d1, d2, d3] => { results := [.lit (.bool true)], args := [d1, d2, d3] }
  | _ => none }
def planKeepsRow : OpenClaim := { program := "ytecopjehmpjniaadoor", sum := "5580d2aeefdaad90f4a254c0a472553ada565e480d66b9670ca2bddb2c6b18e3", func := "futtock/futtocklaw19.PlanKeeps", spec := "planKeeps", unfollowed := true, recurses := true, named := ["futtock/word.recordField", "futtock/word.ownerField", "futtock/word.ageField", "futtock/word.hashField", "futtock/word.slotField", "futtock/word.genField", "futtock/word.epochField", "futtock/word.tagField"], apart := false, laid := [("futtock/word.tagField", laid_futtock_word_tagField), ("futtock/word.ageField", laid_futtock_word_ageField), ("futtock/word.epochField", laid_futtock_word_epochField), ("futtock/word.hashField", laid_futtock_word_hashField), ("futtock/word.ownerField", laid_futtock_word_ownerField), ("futtock/word.recordField", laid_futtock_word_recordField), ("futtock/word.slotField", laid_futtock_word_slotField), ("futtock/word.genField", laid_futtock_word_genField)] }
def PlanKeepsSaid : Prop := planKeepsRow.holds Tryd.pinned (OpenSpec.ofChange planKeepsSpec)

/-- ITS FALSE NEIGHBOUR: 'it returns false'. Refute it at one input. -/
def planKeepsWrong : ChangeSpec := { name := "planKeeps", fn := fun _ => fun
  | [d1, d2, d3] => { results := [.lit (.bool false)], args := [d1, d2, d3] }
  | _ => none }
def PlanKeepsWrongFalsely : Prop := planKeepsRow.holds Tryd.pinned (OpenSpec.ofChange planKeepsWrong)

/-- 'futtocklaw19.PlanSaved': WHATEVER THE INPUT: true; the input reads as it did. -/
def planSavedSpec : ChangeSpec := { name := "planSaved", fn := fun _ => fun
  | [d1, d2] => { results := [.lit (.bool true)], args := [d1, d2] }
  | _ => none }
def planSavedRow : OpenClaim := { program := "ytecopjehmpjniaadoor", sum := "5580d2aeefdaad90f4a254c0a472553ada565e480d66b9670ca2bddb2c6b18e3", func := "futtock/futtocklaw19.PlanSaved", spec := "planSaved", named := ["futtock/word.ownerField", "futtock/word.ageField", "futtock/word.tagField", "futtock/word.recordField", "futtock/word.hashField", "futtock/word.slotField", "futtock/word.genField", "futtock/word.epochField"], apart := false, laid := [("futtock/word.tagField", laid_futtock_word_tagField), ("futtock/word.ageField", laid_futtock_word_ageField), ("futtock/word.epochField", laid_futtock_word_epochField), ("futtock/word.hashField", laid_futtock_word_hashField), ("futtock/word.ownerField", laid_futtock_word_ownerField), ("futtock/word.recordField", laid_futtock_word_recordField), ("futtock/word.slotField", laid_futtock_word_slotField), ("futtock/word.genField", laid_futtock_word_genField)] }
def PlanSavedSaid : Prop := planSavedRow.holds Tryd.pinned (OpenSpec.ofChange planSavedSpec)

/-- ITS FALSE NEIGHBOUR: 'it returns false'. Refute it at one input. -/
def planSavedWrong : ChangeSpec := { name := "planSaved", fn := fun _ => fun
  | [d1, d2] => { results := [.lit (.bool false)], args := [d1, d2] }
  | _ => none }
def PlanSavedWrongFalsely : Prop := planSavedRow.holds Tryd.pinned (OpenSpec.ofChange planSavedWrong)

/- THE SECOND FORM. 'bulk': how many values and letters a reading holds, each counted each time it is reached (what is shared counts as often as it is met; a slice's spare places count too). A statement '..UptoSaid' is the law's where the arguments, and the package variables that the reading takes, are together of bulk at most 1048576: NARROWER than '..Said'. Prove '..Said' where nothing that the law and all that it calls make is longer than what came in: it says more and counts as full. Else prove '..UptoSaid'. A law counts once. -/
mutual
def uptoBulk {H : Type} : DataW H → Nat
  | .lit (.string bytes) => bytes.length + 1
  | .lit _ => 1
  | .nil => 1
  | .ptr d => uptoBulk d + 1
  | .slice elems spare => uptoBulkAll elems + uptoBulkAll spare + 1
  | .agg parts => uptoBulkAll parts + 1
  | .iface _ d => uptoBulk d + 1
  | .map entries => uptoBulkEntries entries + 1
  | .held _ => 1
def uptoBulkAll {H : Type} : List (DataW H) → Nat
  | [] => 0
  | d :: r => uptoBulk d + uptoBulkAll r
def uptoBulkEntries {H : Type} : List (Lit × DataW H) → Nat
  | [] => 0
  | x :: r => uptoBulkEntry x + uptoBulkEntries r
def uptoBulkEntry {H : Type} : Lit × DataW H → Nat
  | (.string bytes, d) => bytes.length + uptoBulk d + 1
  | (_, d) => uptoBulk d + 1
 end
def uptoSmall : (H : Type) → List (DataW H) → Bool := fun _ ds => decide (uptoBulkAll ds ≤ 1048576)
def OpenSpec.upto (s : _root_.Go.ChangeSpec) : _root_.Go.OpenSpec := { _root_.Go.OpenSpec.ofChange s with cond := some uptoSmall }

/-- 'futtocklaw19.PlanOnes', WHERE WHAT IT READS IS OF BULK AT MOST 1048576: true; the input reads as it did. -/
def planOnesUptoRow : OpenClaim := { program := "ytecopjehmpjniaadoor", sum := "5580d2aeefdaad90f4a254c0a472553ada565e480d66b9670ca2bddb2c6b18e3", func := "futtock/futtocklaw19.PlanOnes", spec := "planOnes", named := ["futtock/word.recordField", "futtock/word.ownerField", "futtock/word.ageField", "futtock/word.hashField", "futtock/word.slotField", "futtock/word.genField", "futtock/word.epochField", "futtock/word.tagField"], apart := false, laid := [("futtock/word.tagField", laid_futtock_word_tagField), ("futtock/word.ageField", laid_futtock_word_ageField), ("futtock/word.epochField", laid_futtock_word_epochField), ("futtock/word.hashField", laid_futtock_word_hashField), ("futtock/word.ownerField", laid_futtock_word_ownerField), ("futtock/word.recordField", laid_futtock_word_recordField), ("futtock/word.slotField", laid_futtock_word_slotField), ("futtock/word.genField", laid_futtock_word_genField)], narrowed := true }
def PlanOnesUptoSaid : Prop := planOnesUptoRow.holds Tryd.pinned (OpenSpec.upto planOnesSpec)

/-- 'futtocklaw19.PlanKeeps', WHERE WHAT IT READS IS OF BULK AT MOST 1048576: true; the input reads as it did. -/
def planKeepsUptoRow : OpenClaim := { program := "ytecopjehmpjniaadoor", sum := "5580d2aeefdaad90f4a254c0a472553ada565e480d66b9670ca2bddb2c6b18e3", func := "futtock/futtocklaw19.PlanKeeps", spec := "planKeeps", unfollowed := true, recurses := true, named := ["futtock/word.recordField", "futtock/word.ownerField", "futtock/word.ageField", "futtock/word.hashField", "futtock/word.slotField", "futtock/word.genField", "futtock/word.epochField", "futtock/word.tagField"], apart := false, laid := [("futtock/word.tagField", laid_futtock_word_tagField), ("futtock/word.ageField", laid_futtock_word_ageField), ("futtock/word.epochField", laid_futtock_word_epochField), ("futtock/word.hashField", laid_futtock_word_hashField), ("futtock/word.ownerField", laid_futtock_word_ownerField), ("futtock/word.recordField", laid_futtock_word_recordField), ("futtock/word.slotField", laid_futtock_word_slotField), ("futtock/word.genField", laid_futtock_word_genField)], narrowed := true }
def PlanKeepsUptoSaid : Prop := planKeepsUptoRow.holds Tryd.pinned (OpenSpec.upto planKeepsSpec)

/-- 'futtocklaw19.PlanSaved', WHERE WHAT IT READS IS OF BULK AT MOST 1048576: true; the input reads as it did. -/
def planSavedUptoRow : OpenClaim := { program := "ytecopjehmpjniaadoor", sum := "5580d2aeefdaad90f4a254c0a472553ada565e480d66b9670ca2bddb2c6b18e3", func := "futtock/futtocklaw19.PlanSaved", spec := "planSaved", named := ["futtock/word.ownerField", "futtock/word.ageField", "futtock/word.tagField", "futtock/word.recordField", "futtock/word.hashField", "futtock/word.slotField", "futtock/word.genField", "futtock/word.epochField"], apart := false, laid := [("futtock/word.tagField", laid_futtock_word_tagField), ("futtock/word.ageField", laid_futtock_word_ageField), ("futtock/word.epochField", laid_futtock_word_epochField), ("futtock/word.hashField", laid_futtock_word_hashField), ("futtock/word.ownerField", laid_futtock_word_ownerField), ("futtock/word.recordField", laid_futtock_word_recordField), ("futtock/word.slotField", laid_futtock_word_slotField), ("futtock/word.genField", laid_futtock_word_genField)], narrowed := true }
def PlanSavedUptoSaid : Prop := planSavedUptoRow.holds Tryd.pinned (OpenSpec.upto planSavedSpec)

end Rows
end Go.Proofs.YtecopjehmpjniaaDoor
