/-
  NARROWER THAN 'FOR EVERY INPUT', by the rows' own cells (each row's printed sentence says how): ScriptLays: laid · ScriptBack: laid · ScriptOnce: laid.
  DERIVED. THE GIVEN ROWS OF THIS SEAT. 3 by the template 'for every input the law returns true; each argument reads behind the call as it read before'; 0 by the template 'total and deterministic' (their statements: YtlgomkocalieeaaGreatDoorTotals.lean).
  GIVEN WITH THE SEED: the statements are not yours to turn. If you find one false, say at which input.
  Laid BY PROGRAM, IN A SANDBOX (cutbox-rows.mjs): the forced cells as the released guide's own fill.sh prints them over the translation 3e7bd18c4e2ca413… (all of the seat's roots in one cut). By AI agents, Wed Nov 11 2026. No macro, syntax, notation, axiom, sorry.
-/
import Derived.Test.YtlgomkocalieeaaGreatDoorChecked
import GoSem.Claim
import GoSem.ClaimJoined
import GoSem.ClaimMapViews
import Derived.JoinedTies
import Derived.KernelRfl
namespace Go.Proofs.YtlgomkocalieeaaGreatDoor
/- THE CELL 'sum', in the pinned program and in every row, IS THE sha256 OF THE DUMP (.gsa) THAT YtlgomkocalieeaaGreatDoorProg.lean LOADS. Nothing in Lean hashes anything: it is a label: what it is worth is what the hold of that sum in a sandbox is worth. -/
noncomputable def Tryz.pinned : Pinned := { name := "ytlgomkocalieeaagreatdoor", sum := "3e7bd18c4e2ca413a38c1f2ae6657dc09677716500e77c5d4d50a554f5df00dc", checked := Tryz.checked }
namespace Rows
def none {H : Type} : Left H := { results := [], args := [] }

/- WHAT THE LISTED PACKAGE-LEVEL VARIABLES READ AS WHEN THE CALL BEGINS. Each datum BY PROGRAM (the guide's laid-datum.mjs) off the statement by which the dump's own 'gosem.cut.vars' lays the variable. In a bare row this is a premise. The card (YtlgomkocalieeaaGreatDoorCards.lean) ties it to the program's text. -/
def laid_futtock_word_tagField {H : Type} : DataW H := .agg [.lit (.int .u8 0), .lit (.int .u8 3)]
def laid_futtock_word_ageField {H : Type} : DataW H := .agg [.lit (.int .u8 3), .lit (.int .u8 4)]
def laid_futtock_word_epochField {H : Type} : DataW H := .agg [.lit (.int .u8 8), .lit (.int .u8 8)]
def laid_futtock_word_hashField {H : Type} : DataW H := .agg [.lit (.int .u8 8), .lit (.int .u8 31)]
def laid_futtock_word_ownerField {H : Type} : DataW H := .agg [.lit (.int .u8 24), .lit (.int .u8 16)]
def laid_futtock_word_recordField {H : Type} : DataW H := .agg [.lit (.int .u8 8), .lit (.int .u8 16)]
def laid_futtock_word_slotField {H : Type} : DataW H := .agg [.lit (.int .u8 8), .lit (.int .u8 16)]
def laid_futtock_word_genField {H : Type} : DataW H := .agg [.lit (.int .u8 24), .lit (.int .u8 24)]

/-- 'futtocklaw24.ScriptLays': WHATEVER THE INPUT: true; the input reads as it did. -/
def scriptLaysSpec : ChangeSpec := { name := "scriptLays", fn := fun _ => fun
  | [d1, d2] => { results := [.lit (.bool true)], args := [d1, d2] }
  | _ => none }
def scriptLaysRow : OpenClaim := { program := "ytlgomkocalieeaagreatdoor", sum := "3e7bd18c4e2ca413a38c1f2ae6657dc09677716500e77c5d4d50a554f5df00dc", func := "futtock/futtocklaw24.ScriptLays", spec := "scriptLays", unfollowed := true, recurses := true, named := ["futtock/word.recordField", "futtock/word.ownerField", "futtock/word.ageField", "futtock/word.hashField", "futtock/word.slotField", "futtock/word.genField", "futtock/word.epochField", "futtock/word.tagField"], plainKeys := false, apart := false, laid := [("futtock/word.tagField", laid_futtock_word_tagField), ("futtock/word.ageField", laid_futtock_word_ageField), ("futtock/word.epochField", laid_futtock_word_epochField), ("futtock/word.hashField", laid_futtock_word_hashField), ("futtock/word.ownerField", laid_futtock_word_ownerField), ("futtock/word.recordField", laid_futtock_word_recordField), ("futtock/word.slotField", laid_futtock_word_slotField), ("futtock/word.genField", laid_futtock_word_genField)] }
def ScriptLaysSaid : Prop := scriptLaysRow.holds Tryz.pinned (OpenSpec.ofChange scriptLaysSpec)

/-- ITS FALSE NEIGHBOUR: 'it returns false'. Refute it at one input. -/
def scriptLaysWrong : ChangeSpec := { name := "scriptLays", fn := fun _ => fun
  | [d1, d2] => { results := [.lit (.bool false)], args := [d1, d2] }
  | _ => none }
def ScriptLaysWrongFalsely : Prop := scriptLaysRow.holds Tryz.pinned (OpenSpec.ofChange scriptLaysWrong)

/-- 'futtocklaw24.ScriptBack': WHATEVER THE INPUT: true; the input reads as it did. -/
def scriptBackSpec : ChangeSpec := { name := "scriptBack", fn := fun _ => fun
  | [d] => { results := [.lit (.bool true)], args := [d] }
  | _ => none }
def scriptBackRow : OpenClaim := { program := "ytlgomkocalieeaagreatdoor", sum := "3e7bd18c4e2ca413a38c1f2ae6657dc09677716500e77c5d4d50a554f5df00dc", func := "futtock/futtocklaw24.ScriptBack", spec := "scriptBack", unfollowed := true, recurses := true, named := ["futtock/word.recordField", "futtock/word.ownerField", "futtock/word.ageField", "futtock/word.hashField", "futtock/word.slotField", "futtock/word.genField", "futtock/word.epochField", "futtock/word.tagField"], plainKeys := false, apart := false, laid := [("futtock/word.tagField", laid_futtock_word_tagField), ("futtock/word.ageField", laid_futtock_word_ageField), ("futtock/word.epochField", laid_futtock_word_epochField), ("futtock/word.hashField", laid_futtock_word_hashField), ("futtock/word.ownerField", laid_futtock_word_ownerField), ("futtock/word.recordField", laid_futtock_word_recordField), ("futtock/word.slotField", laid_futtock_word_slotField), ("futtock/word.genField", laid_futtock_word_genField)] }
def ScriptBackSaid : Prop := scriptBackRow.holds Tryz.pinned (OpenSpec.ofChange scriptBackSpec)

/-- ITS FALSE NEIGHBOUR: 'it returns false'. Refute it at one input. -/
def scriptBackWrong : ChangeSpec := { name := "scriptBack", fn := fun _ => fun
  | [d] => { results := [.lit (.bool false)], args := [d] }
  | _ => none }
def ScriptBackWrongFalsely : Prop := scriptBackRow.holds Tryz.pinned (OpenSpec.ofChange scriptBackWrong)

/-- 'futtocklaw24.ScriptOnce': WHATEVER THE INPUT: true; the input reads as it did. -/
def scriptOnceSpec : ChangeSpec := { name := "scriptOnce", fn := fun _ => fun
  | [d] => { results := [.lit (.bool true)], args := [d] }
  | _ => none }
def scriptOnceRow : OpenClaim := { program := "ytlgomkocalieeaagreatdoor", sum := "3e7bd18c4e2ca413a38c1f2ae6657dc09677716500e77c5d4d50a554f5df00dc", func := "futtock/futtocklaw24.ScriptOnce", spec := "scriptOnce", unfollowed := true, recurses := true, named := ["futtock/word.recordField", "futtock/word.ownerField", "futtock/word.ageField", "futtock/word.hashField", "futtock/word.slotField", "futtock/word.genField", "futtock/word.epochField", "futtock/word.tagField"], plainKeys := false, apart := false, laid := [("futtock/word.tagField", laid_futtock_word_tagField), ("futtock/word.ageField", laid_futtock_word_ageField), ("futtock/word.epochField", laid_futtock_word_epochField), ("futtock/word.hashField", laid_futtock_word_hashField), ("futtock/word.ownerField", laid_futtock_word_ownerField), ("futtock/word.recordField", laid_futtock_word_recordField), ("futtock/word.slotField", laid_futtock_word_slotField), ("futtock/word.genField", laid_futtock_word_genField)] }
def ScriptOnceSaid : Prop := scriptOnceRow.holds Tryz.pinned (OpenSpec.ofChange scriptOnceSpec)

/-- ITS FALSE NEIGHBOUR: 'it returns false'. Refute it at one input. -/
def scriptOnceWrong : ChangeSpec := { name := "scriptOnce", fn := fun _ => fun
  | [d] => { results := [.lit (.bool false)], args := [d] }
  | _ => none }
def ScriptOnceWrongFalsely : Prop := scriptOnceRow.holds Tryz.pinned (OpenSpec.ofChange scriptOnceWrong)

/- THE SECOND FORM. 'bulk': how many values and letters a reading holds, each counted each time it is reached (what is shared counts as often as it is met; a slice's spare places count too). A statement '..UptoSaid' is the law's where the arguments, and the package variables that the reading takes, are together of bulk at most 1048576: NARROWER than '..Said'. Prove '..Said' where nothing that the law and all that it calls make is longer than what came in: it says more and counts as full. Else prove '..UptoSaid'. A law counts once. -/
mutual
def uptoBulk {H : Type} : DataW H → Nat
  | .lit (.string bytes) => bytes.length + 1
  | .lit _ => 1
  | .nil => 1
  | .ptr d => uptoBulk d + 1
  | .slice elems spare => uptoBulkAll elems + uptoBulkAll spare + 1
  | .agg parts => uptoBulkAll parts + 1
  | .iface _ d => uptoBulk d + 1
  | .map entries => uptoBulkEntries entries + 1
  | .held _ => 1
def uptoBulkAll {H : Type} : List (DataW H) → Nat
  | [] => 0
  | d :: r => uptoBulk d + uptoBulkAll r
def uptoBulkEntries {H : Type} : List (Lit × DataW H) → Nat
  | [] => 0
  | x :: r => uptoBulkEntry x + uptoBulkEntries r
def uptoBulkEntry {H : Type} : Lit × DataW H → Nat
  | (.string bytes, d) => bytes.length + uptoBulk d + 1
  | (_, d) => uptoBulk d + 1
 end
def uptoSmall : (H : Type) → List (DataW H) → Bool := fun _ ds => decide (uptoBulkAll ds ≤ 1048576)
def OpenSpec.upto (s : _root_.Go.ChangeSpec) : _root_.Go.OpenSpec := { _root_.Go.OpenSpec.ofChange s with cond := some uptoSmall }

/-- 'futtocklaw24.ScriptLays', WHERE WHAT IT READS IS OF BULK AT MOST 1048576: true; the input reads as it did. -/
def scriptLaysUptoRow : OpenClaim := { program := "ytlgomkocalieeaagreatdoor", sum := "3e7bd18c4e2ca413a38c1f2ae6657dc09677716500e77c5d4d50a554f5df00dc", func := "futtock/futtocklaw24.ScriptLays", spec := "scriptLays", unfollowed := true, recurses := true, named := ["futtock/word.recordField", "futtock/word.ownerField", "futtock/word.ageField", "futtock/word.hashField", "futtock/word.slotField", "futtock/word.genField", "futtock/word.epochField", "futtock/word.tagField"], plainKeys := false, apart := false, laid := [("futtock/word.tagField", laid_futtock_word_tagField), ("futtock/word.ageField", laid_futtock_word_ageField), ("futtock/word.epochField", laid_futtock_word_epochField), ("futtock/word.hashField", laid_futtock_word_hashField), ("futtock/word.ownerField", laid_futtock_word_ownerField), ("futtock/word.recordField", laid_futtock_word_recordField), ("futtock/word.slotField", laid_futtock_word_slotField), ("futtock/word.genField", laid_futtock_word_genField)], narrowed := true }
def ScriptLaysUptoSaid : Prop := scriptLaysUptoRow.holds Tryz.pinned (OpenSpec.upto scriptLaysSpec)

/-- 'futtocklaw24.ScriptBack', WHERE WHAT IT READS IS OF BULK AT MOST 1048576: true; the input reads as it did. -/
def scriptBackUptoRow : OpenClaim := { program := "ytlgomkocalieeaagreatdoor", sum := "3e7bd18c4e2ca413a38c1f2ae6657dc09677716500e77c5d4d50a554f5df00dc", func := "futtock/futtocklaw24.ScriptBack", spec := "scriptBack", unfollowed := true, recurses := true, named := ["futtock/word.recordField", "futtock/word.ownerField", "futtock/word.ageField", "futtock/word.hashField", "futtock/word.slotField", "futtock/word.genField", "futtock/word.epochField", "futtock/word.tagField"], plainKeys := false, apart := false, laid := [("futtock/word.tagField", laid_futtock_word_tagField), ("futtock/word.ageField", laid_futtock_word_ageField), ("futtock/word.epochField", laid_futtock_word_epochField), ("futtock/word.hashField", laid_futtock_word_hashField), ("futtock/word.ownerField", laid_futtock_word_ownerField), ("futtock/word.recordField", laid_futtock_word_recordField), ("futtock/word.slotField", laid_futtock_word_slotField), ("futtock/word.genField", laid_futtock_word_genField)], narrowed := true }
def ScriptBackUptoSaid : Prop := scriptBackUptoRow.holds Tryz.pinned (OpenSpec.upto scriptBackSpec)

/-- 'futtocklaw24.ScriptOnce', WHERE WHAT IT READS IS OF BULK AT MOST 1048576: true; the input reads as it did. -/
def scriptOnceUptoRow : OpenClaim := { program := "ytlgomkocalieeaagreatdoor", sum := "3e7bd18c4e2ca413a38c1f2ae6657dc09677716500e77c5d4d50a554f5df00dc", func := "futtock/futtocklaw24.ScriptOnce", spec := "scriptOnce", unfollowed := true, recurses := true, named := ["futtock/word.recordField", "futtock/word.ownerField", "futtock/word.ageField", "futtock/word.hashField", "futtock/word.slotField", "futtock/word.genField", "futtock/word.epochField", "futtock/word.tagField"], plainKeys := false, apart := false, laid := [("futtock/word.tagField", laid_futtock_word_tagField), ("futtock/word.ageField", laid_futtock_word_ageField), ("futtock/word.epochField", laid_futtock_word_epochField), ("futtock/word.hashField", laid_futtock_word_hashField), ("futtock/word.ownerField", laid_futtock_word_ownerField), ("futtock/word.recordField", laid_futtock_word_recordField), ("futtock/word.slotField", laid_futtock_word_slotField), ("futtock/word.genField", laid_futtock_word_genField)], narrowed := true }
def ScriptOnceUptoSaid : Prop := scriptOnceUptoRow.holds Tryz.pinned (OpenSpec.upto scriptOnceSpec)

end Rows
end Go.Proofs.YtlgomkocalieeaaGreatDoor
