/-
  NARROWER THAN 'FOR EVERY INPUT', by the rows' own cells (each row's printed sentence says how): WordCodes: laid · WordReads: laid · WordBack: laid · WordOnce: laid · WordOlder: laid.
  DERIVED. THE GIVEN ROWS OF THIS SEAT. 5 by the template 'for every input the law returns true; each argument reads behind the call as it read before'; 0 by the template 'total and deterministic' (their statements: YtdnfedhecigepaaDoorTotals.lean).
  GIVEN WITH THE SEED: the statements are not yours to turn. If you find one false, say at which input.
  Laid BY PROGRAM, IN A SANDBOX (cutbox-rows.mjs): the forced cells as the released guide's own fill.sh prints them over the translation 9dbe7ad3754504e1… (all of the seat's roots in one cut). By AI agents, Wed Nov 11 2026. No macro, syntax, notation, axiom, sorry.
-/
import Derived.Test.YtdnfedhecigepaaDoorChecked
import GoSem.Claim
import GoSem.ClaimJoined
import GoSem.ClaimMapViews
import Derived.JoinedTies
import Derived.KernelRfl
namespace Go.Proofs.YtdnfedhecigepaaDoor
/- THE CELL 'sum', in the pinned program and in every row, IS THE sha256 OF THE DUMP (.gsa) THAT YtdnfedhecigepaaDoorProg.lean LOADS. Nothing in Lean hashes anything: it is a label: what it is worth is what the hold of that sum in a sandbox is worth. -/
noncomputable def Tryd.pinned : Pinned := { name := "ytdnfedhecigepaadoor", sum := "9dbe7ad3754504e16832ac971b943a17eb04647ab9e9af20e4b3c8b6db88eebb", checked := Tryd.checked }
namespace Rows
def none {H : Type} : Left H := { results := [], args := [] }

/- WHAT THE LISTED PACKAGE-LEVEL VARIABLES READ AS WHEN THE CALL BEGINS. Each datum BY PROGRAM (the guide's laid-datum.mjs) off the statement by which the dump's own 'gosem.cut.vars' lays the variable. In a bare row this is a premise. The card (YtdnfedhecigepaaDoorCards.lean) ties it to the program's text. -/
def laid_futtock_word_tagField {H : Type} : DataW H := .agg [.lit (.int .u8 0), .lit (.int .u8 3)]
def laid_futtock_word_ageField {H : Type} : DataW H := .agg [.lit (.int .u8 3), .lit (.int .u8 4)]
def laid_futtock_word_epochField {H : Type} : DataW H := .agg [.lit (.int .u8 8), .lit (.int .u8 8)]
def laid_futtock_word_hashField {H : Type} : DataW H := .agg [.lit (.int .u8 8), .lit (.int .u8 31)]
def laid_futtock_word_ownerField {H : Type} : DataW H := .agg [.lit (.int .u8 24), .lit (.int .u8 16)]
def laid_futtock_word_recordField {H : Type} : DataW H := .agg [.lit (.int .u8 8), .lit (.int .u8 16)]
def laid_futtock_word_slotField {H : Type} : DataW H := .agg [.lit (.int .u8 8), .lit (.int .u8 16)]
def laid_futtock_word_genField {H : Type} : DataW H := .agg [.lit (.int .u8 24), .lit (.int .u8 24)]

/-- 'futtocklaw02.WordCodes': WHATEVER THE INPUT: true; the input reads as it did. -/
def wordCodesSpec : ChangeSpec := { name := "wordCodes", fn := fun _ => fun
  | [d] => { results := [.lit (.bool true)], args := [d] }
  | _ => none }
def wordCodesRow : OpenClaim := { program := "ytdnfedhecigepaadoor", sum := "9dbe7ad3754504e16832ac971b943a17eb04647ab9e9af20e4b3c8b6db88eebb", func := "futtock/futtocklaw02.WordCodes", spec := "wordCodes", named := ["futtock/word.recordField", "futtock/word.ownerField", "futtock/word.ageField", "futtock/word.hashField", "futtock/word.slotField", "futtock/word.genField", "futtock/word.epochField", "futtock/word.tagField"], apart := false, laid := [("futtock/word.tagField", laid_futtock_word_tagField), ("futtock/word.ageField", laid_futtock_word_ageField), ("futtock/word.epochField", laid_futtock_word_epochField), ("futtock/word.hashField", laid_futtock_word_hashField), ("futtock/word.ownerField", laid_futtock_word_ownerField), ("futtock/word.recordField", laid_futtock_word_recordField), ("futtock/word.slotField", laid_futtock_word_slotField), ("futtock/word.genField", laid_futtock_word_genField)] }
def WordCodesSaid : Prop := wordCodesRow.holds Tryd.pinned (OpenSpec.ofChange wordCodesSpec)

/-- ITS FALSE NEIGHBOUR: 'it returns false'. Refute it at one input. -/
def wordCodesWrong : ChangeSpec := { name := "wordCodes", fn := fun _ => fun
  | [d] => { results := [.lit (.bool false)], args := [d] }
  | _ => none }
def WordCodesWrongFalsely : Prop := wordCodesRow.holds Tryd.pinned (OpenSpec.ofChange wordCodesWrong)

/-- 'futtocklaw02.WordReads': WHATEVER THE INPUT: true; the input reads as it did. -/
def wordReadsSpec : ChangeSpec := { name := "wordReads", fn := fun _ => fun
  | [d] => { results := [.lit (.bool true)], args := [d] }
  | _ => none }
def wordReadsRow : OpenClaim := { program := "ytdnfedhecigepaadoor", sum := "9dbe7ad3754504e16832ac971b943a17eb04647ab9e9af20e4b3c8b6db88eebb", func := "futtock/futtocklaw02.WordReads", spec := "wordReads", named := ["futtock/word.ownerField", "futtock/word.ageField", "futtock/word.tagField", "futtock/word.recordField", "futtock/word.hashField", "futtock/word.slotField", "futtock/word.genField", "futtock/word.epochField"], apart := false, laid := [("futtock/word.tagField", laid_futtock_word_tagField), ("futtock/word.ageField", laid_futtock_word_ageField), ("futtock/word.epochField", laid_futtock_word_epochField), ("futtock/word.hashField", laid_futtock_word_hashField), ("futtock/word.ownerField", laid_futtock_word_ownerField), ("futtock/word.recordField", laid_futtock_word_recordField), ("futtock/word.slotField", laid_futtock_word_slotField), ("futtock/word.genField", laid_futtock_word_genField)] }
def WordReadsSaid : Prop := wordReadsRow.holds Tryd.pinned (OpenSpec.ofChange wordReadsSpec)

/-- ITS FALSE NEIGHBOUR: 'it returns false'. Refute it at one input. -/
def wordReadsWrong : ChangeSpec := { name := "wordReads", fn := fun _ => fun
  | [d] => { results := [.lit (.bool false)], args := [d] }
  | _ => none }
def WordReadsWrongFalsely : Prop := wordReadsRow.holds Tryd.pinned (OpenSpec.ofChange wordReadsWrong)

/-- 'futtocklaw02.WordBack': WHATEVER THE INPUT: true; the input reads as it did. -/
def wordBackSpec : ChangeSpec := { name := "wordBack", fn := fun _ => fun
  | [d] => { results := [.lit (.bool true)], args := [d] }
  | _ => none }
def wordBackRow : OpenClaim := { program := "ytdnfedhecigepaadoor", sum := "9dbe7ad3754504e16832ac971b943a17eb04647ab9e9af20e4b3c8b6db88eebb", func := "futtock/futtocklaw02.WordBack", spec := "wordBack", named := ["futtock/word.recordField", "futtock/word.ownerField", "futtock/word.ageField", "futtock/word.hashField", "futtock/word.slotField", "futtock/word.genField", "futtock/word.epochField", "futtock/word.tagField"], apart := false, laid := [("futtock/word.tagField", laid_futtock_word_tagField), ("futtock/word.ageField", laid_futtock_word_ageField), ("futtock/word.epochField", laid_futtock_word_epochField), ("futtock/word.hashField", laid_futtock_word_hashField), ("futtock/word.ownerField", laid_futtock_word_ownerField), ("futtock/word.recordField", laid_futtock_word_recordField), ("futtock/word.slotField", laid_futtock_word_slotField), ("futtock/word.genField", laid_futtock_word_genField)] }
def WordBackSaid : Prop := wordBackRow.holds Tryd.pinned (OpenSpec.ofChange wordBackSpec)

/-- ITS FALSE NEIGHBOUR: 'it returns false'. Refute it at one input. -/
def wordBackWrong : ChangeSpec := { name := "wordBack", fn := fun _ => fun
  | [d] => { results := [.lit (.bool false)], args := [d] }
  | _ => none }
def WordBackWrongFalsely : Prop := wordBackRow.holds Tryd.pinned (OpenSpec.ofChange wordBackWrong)

/-- 'futtocklaw02.WordOnce': WHATEVER THE INPUT: true; the input reads as it did. -/
def wordOnceSpec : ChangeSpec := { name := "wordOnce", fn := fun _ => fun
  | [d] => { results := [.lit (.bool true)], args := [d] }
  | _ => none }
def wordOnceRow : OpenClaim := { program := "ytdnfedhecigepaadoor", sum := "9dbe7ad3754504e16832ac971b943a17eb04647ab9e9af20e4b3c8b6db88eebb", func := "futtock/futtocklaw02.WordOnce", spec := "wordOnce", named := ["futtock/word.ownerField", "futtock/word.ageField", "futtock/word.tagField", "futtock/word.recordField", "futtock/word.hashField", "futtock/word.slotField", "futtock/word.genField", "futtock/word.epochField"], apart := false, laid := [("futtock/word.tagField", laid_futtock_word_tagField), ("futtock/word.ageField", laid_futtock_word_ageField), ("futtock/word.epochField", laid_futtock_word_epochField), ("futtock/word.hashField", laid_futtock_word_hashField), ("futtock/word.ownerField", laid_futtock_word_ownerField), ("futtock/word.recordField", laid_futtock_word_recordField), ("futtock/word.slotField", laid_futtock_word_slotField), ("futtock/word.genField", laid_futtock_word_genField)] }
def WordOnceSaid : Prop := wordOnceRow.holds Tryd.pinned (OpenSpec.ofChange wordOnceSpec)

/-- ITS FALSE NEIGHBOUR: 'it returns false'. Refute it at one input. -/
def wordOnceWrong : ChangeSpec := { name := "wordOnce", fn := fun _ => fun
  | [d] => { results := [.lit (.bool false)], args := [d] }
  | _ => none }
def WordOnceWrongFalsely : Prop := wordOnceRow.holds Tryd.pinned (OpenSpec.ofChange wordOnceWrong)

/-- 'futtocklaw02.WordOlder': WHATEVER THE INPUT: true; the input reads as it did. -/
def wordOlderSpec : ChangeSpec := { name := "wordOlder", fn := fun _ => fun
  | [d] => { results := [.lit (.bool true)], args := [d] }
  | _ => none }
def wordOlderRow : OpenClaim := { program := "ytdnfedhecigepaadoor", sum := "9dbe7ad3754504e16832ac971b943a17eb04647ab9e9af20e4b3c8b6db88eebb", func := "futtock/futtocklaw02.WordOlder", spec := "wordOlder", named := ["futtock/word.ageField", "futtock/word.ownerField", "futtock/word.tagField", "futtock/word.recordField", "futtock/word.hashField", "futtock/word.slotField", "futtock/word.genField", "futtock/word.epochField"], apart := false, laid := [("futtock/word.tagField", laid_futtock_word_tagField), ("futtock/word.ageField", laid_futtock_word_ageField), ("futtock/word.epochField", laid_futtock_word_epochField), ("futtock/word.hashField", laid_futtock_word_hashField), ("futtock/word.ownerField", laid_futtock_word_ownerField), ("futtock/word.recordField", laid_futtock_word_recordField), ("futtock/word.slotField", laid_futtock_word_slotField), ("futtock/word.genField", laid_futtock_word_genField)] }
def WordOlderSaid : Prop := wordOlderRow.holds Tryd.pinned (OpenSpec.ofChange wordOlderSpec)

/-- ITS FALSE NEIGHBOUR: 'it returns false'. Refute it at one input. -/
def wordOlderWrong : ChangeSpec := { name := "wordOlder", fn := fun _ => fun
  | [d] => { results := [.lit (.bool false)], args := [d] }
  | _ => none }
def WordOlderWrongFalsely : Prop := wordOlderRow.holds Tryd.pinned (OpenSpec.ofChange wordOlderWrong)

/- THE SECOND FORM. 'bulk': how many values and letters a reading holds, each counted each time it is reached (what is shared counts as often as it is met; a slice's spare places count too). A statement '..UptoSaid' is the law's where the arguments, and the package variables that the reading takes, are together of bulk at most 1048576: NARROWER than '..Said'. Prove '..Said' where nothing that the law and all that it calls make is longer than what came in: it says more and counts as full. Else prove '..UptoSaid'. A law counts once. -/
mutual
def uptoBulk {H : Type} : DataW H → Nat
  | .lit (.string bytes) => bytes.length + 1
  | .lit _ => 1
  | .nil => 1
  | .ptr d => uptoBulk d + 1
  | .slice elems spare => uptoBulkAll elems + uptoBulkAll spare + 1
  | .agg parts => uptoBulkAll parts + 1
  | .iface _ d => uptoBulk d + 1
  | .map entries => uptoBulkEntries entries + 1
  | .held _ => 1
def uptoBulkAll {H : Type} : List (DataW H) → Nat
  | [] => 0
  | d :: r => uptoBulk d + uptoBulkAll r
def uptoBulkEntries {H : Type} : List (Lit × DataW H) → Nat
  | [] => 0
  | x :: r => uptoBulkEntry x + uptoBulkEntries r
def uptoBulkEntry {H : Type} : Lit × DataW H → Nat
  | (.string bytes, d) => bytes.length + uptoBulk d + 1
  | (_, d) => uptoBulk d + 1
 end
def uptoSmall : (H : Type) → List (DataW H) → Bool := fun _ ds => decide (uptoBulkAll ds ≤ 1048576)
def OpenSpec.upto (s : _root_.Go.ChangeSpec) : _root_.Go.OpenSpec := { _root_.Go.OpenSpec.ofChange s with cond := some uptoSmall }

/-- 'futtocklaw02.WordCodes', WHERE WHAT IT READS IS OF BULK AT MOST 1048576: true; the input reads as it did. -/
def wordCodesUptoRow : OpenClaim := { program := "ytdnfedhecigepaadoor", sum := "9dbe7ad3754504e16832ac971b943a17eb04647ab9e9af20e4b3c8b6db88eebb", func := "futtock/futtocklaw02.WordCodes", spec := "wordCodes", named := ["futtock/word.recordField", "futtock/word.ownerField", "futtock/word.ageField", "futtock/word.hashField", "futtock/word.slotField", "futtock/word.genField", "futtock/word.epochField", "futtock/word.tagField"], apart := false, laid := [("futtock/word.tagField", laid_futtock_word_tagField), ("futtock/word.ageField", laid_futtock_word_ageField), ("futtock/word.epochField", laid_futtock_word_epochField), ("futtock/word.hashField", laid_futtock_word_hashField), ("futtock/word.ownerField", laid_futtock_word_ownerField), ("futtock/word.recordField", laid_futtock_word_recordField), ("futtock/word.slotField", laid_futtock_word_slotField), ("futtock/word.genField", laid_futtock_word_genField)], narrowed := true }
def WordCodesUptoSaid : Prop := wordCodesUptoRow.holds Tryd.pinned (OpenSpec.upto wordCodesSpec)

/-- 'futtocklaw02.WordReads', WHERE WHAT IT READS IS OF BULK AT MOST 1048576: true; the input reads as it did. -/
def wordReadsUptoRow : OpenClaim := { program := "ytdnfedhecigepaadoor", sum := "9dbe7ad3754504e16832ac971b943a17eb04647ab9e9af20e4b3c8b6db88eebb", func := "futtock/futtocklaw02.WordReads", spec := "wordReads", named := ["futtock/word.ownerField", "futtock/word.ageField", "futtock/word.tagField", "futtock/word.recordField", "futtock/word.hashField", "futtock/word.slotField", "futtock/word.genField", "futtock/word.epochField"], apart := false, laid := [("futtock/word.tagField", laid_futtock_word_tagField), ("futtock/word.ageField", laid_futtock_word_ageField), ("futtock/word.epochField", laid_futtock_word_epochField), ("futtock/word.hashField", laid_futtock_word_hashField), ("futtock/word.ownerField", laid_futtock_word_ownerField), ("futtock/word.recordField", laid_futtock_word_recordField), ("futtock/word.slotField", laid_futtock_word_slotField), ("futtock/word.genField", laid_futtock_word_genField)], narrowed := true }
def WordReadsUptoSaid : Prop := wordReadsUptoRow.holds Tryd.pinned (OpenSpec.upto wordReadsSpec)

/-- 'futtocklaw02.WordBack', WHERE WHAT IT READS IS OF BULK AT MOST 1048576: true; the input reads as it did. -/
def wordBackUptoRow : OpenClaim := { program := "ytdnfedhecigepaadoor", sum := "9dbe7ad3754504e16832ac971b943a17eb04647ab9e9af20e4b3c8b6db88eebb", func := "futtock/futtocklaw02.WordBack", spec := "wordBack", named := ["futtock/word.recordField", "futtock/word.ownerField", "futtock/word.ageField", "futtock/word.hashField", "futtock/word.slotField", "futtock/word.genField", "futtock/word.epochField", "futtock/word.tagField"], apart := false, laid := [("futtock/word.tagField", laid_futtock_word_tagField), ("futtock/word.ageField", laid_futtock_word_ageField), ("futtock/word.epochField", laid_futtock_word_epochField), ("futtock/word.hashField", laid_futtock_word_hashField), ("futtock/word.ownerField", laid_futtock_word_ownerField), ("futtock/word.recordField", laid_futtock_word_recordField), ("futtock/word.slotField", laid_futtock_word_slotField), ("futtock/word.genField", laid_futtock_word_genField)], narrowed := true }
def WordBackUptoSaid : Prop := wordBackUptoRow.holds Tryd.pinned (OpenSpec.upto wordBackSpec)

/-- 'futtocklaw02.WordOnce', WHERE WHAT IT READS IS OF BULK AT MOST 1048576: true; the input reads as it did. -/
def wordOnceUptoRow : OpenClaim := { program := "ytdnfedhecigepaadoor", sum := "9dbe7ad3754504e16832ac971b943a17eb04647ab9e9af20e4b3c8b6db88eebb", func := "futtock/futtocklaw02.WordOnce", spec := "wordOnce", named := ["futtock/word.ownerField", "futtock/word.ageField", "futtock/word.tagField", "futtock/word.recordField", "futtock/word.hashField", "futtock/word.slotField", "futtock/word.genField", "futtock/word.epochField"], apart := false, laid := [("futtock/word.tagField", laid_futtock_word_tagField), ("futtock/word.ageField", laid_futtock_word_ageField), ("futtock/word.epochField", laid_futtock_word_epochField), ("futtock/word.hashField", laid_futtock_word_hashField), ("futtock/word.ownerField", laid_futtock_word_ownerField), ("futtock/word.recordField", laid_futtock_word_recordField), ("futtock/word.slotField", laid_futtock_word_slotField), ("futtock/word.genField", laid_futtock_word_genField)], narrowed := true }
def WordOnceUptoSaid : Prop := wordOnceUptoRow.holds Tryd.pinned (OpenSpec.upto wordOnceSpec)

/-- 'futtocklaw02.WordOlder', WHERE WHAT IT READS IS OF BULK AT MOST 1048576: true; the input reads as it did. -/
def wordOlderUptoRow : OpenClaim := { program := "ytdnfedhecigepaadoor", sum := "9dbe7ad3754504e16832ac971b943a17eb04647ab9e9af20e4b3c8b6db88eebb", func := "futtock/futtocklaw02.WordOlder", spec := "wordOlder", named := ["futtock/word.ageField", "futtock/word.ownerField", "futtock/word.tagField", "futtock/word.recordField", "futtock/word.hashField", "futtock/word.slotField", "futtock/word.genField", "futtock/word.epochField"], apart := false, laid := [("futtock/word.tagField", laid_futtock_word_tagField), ("futtock/word.ageField", laid_futtock_word_ageField), ("futtock/word.epochField", laid_futtock_word_epochField), ("futtock/word.hashField", laid_futtock_word_hashField), ("futtock/word.ownerField", laid_futtock_word_ownerField), ("futtock/word.recordField", laid_futtock_word_recordField), ("futtock/word.slotField", laid_futtock_word_slotField), ("futtock/word.genField", laid_futtock_word_genField)], narrowed := true }
def WordOlderUptoSaid : Prop := wordOlderUptoRow.holds Tryd.pinned (OpenSpec.upto wordOlderSpec)

end Rows
end Go.Proofs.YtdnfedhecigepaaDoor
