/-
  NARROWER THAN 'FOR EVERY INPUT', by the rows' own cells (each row's printed sentence says how): KlassWords: laid · KlassEpochs: laid · KlassCounts: laid.
  DERIVED. THE GIVEN ROWS OF THIS SEAT. 3 by the template 'for every input the law returns true; each argument reads behind the call as it read before'; 0 by the template 'total and deterministic' (their statements: YtdooakfdaeockaaDoorTotals.lean).
  GIVEN WITH THE SEED: the statements are not yours to turn. If you find one false, say at which input.
  Laid BY PROGRAM, IN A SANDBOX (cutbox-rows.mjs): the forced cells as the released guide's own fill.sh prints them over the translation bc4b486924c973ed… (all of the seat's roots in one cut). By AI agents, Wed Nov 11 2026. No macro, syntax, notation, axiom, sorry.
-/
import Derived.Test.YtdooakfdaeockaaDoorChecked
import GoSem.Claim
import GoSem.ClaimJoined
import GoSem.ClaimMapViews
import Derived.JoinedTies
import Derived.KernelRfl
namespace Go.Proofs.YtdooakfdaeockaaDoor
/- THE CELL 'sum', in the pinned program and in every row, IS THE sha256 OF THE DUMP (.gsa) THAT YtdooakfdaeockaaDoorProg.lean LOADS. Nothing in Lean hashes anything: it is a label: what it is worth is what the hold of that sum in a sandbox is worth. -/
noncomputable def Tryd.pinned : Pinned := { name := "ytdooakfdaeockaadoor", sum := "bc4b486924c973ed26e24217a57dbff6fcd1387f1725e771ef4c23459ceed33a", checked := Tryd.checked }
namespace Rows
def none {H : Type} : Left H := { results := [], args := [] }

/- WHAT THE LISTED PACKAGE-LEVEL VARIABLES READ AS WHEN THE CALL BEGINS. Each datum BY PROGRAM (the guide's laid-datum.mjs) off the statement by which the dump's own 'gosem.cut.vars' lays the variable. In a bare row this is a premise. The card (YtdooakfdaeockaaDoorCards.lean) ties it to the program's text. -/
def laid_futtock_word_tagField {H : Type} : DataW H := .agg [.lit (.int .u8 0), .lit (.int .u8 3)]
def laid_futtock_word_ageField {H : Type} : DataW H := .agg [.lit (.int .u8 3), .lit (.int .u8 4)]
def laid_futtock_word_epochField {H : Type} : DataW H := .agg [.lit (.int .u8 8), .lit (.int .u8 8)]
def laid_futtock_word_hashField {H : Type} : DataW H := .agg [.lit (.int .u8 8), .lit (.int .u8 31)]
def laid_futtock_word_ownerField {H : Type} : DataW H := .agg [.lit (.int .u8 24), .lit (.int .u8 16)]
def laid_futtock_word_recordField {H : Type} : DataW H := .agg [.lit (.int .u8 8), .lit (.int .u8 16)]
def laid_futtock_word_slotField {H : Type} : DataW H := .agg [.lit (.int .u8 8), .lit (.int .u8 16)]
def laid_futtock_word_genField {H : Type} : DataW H := .agg [.lit (.int .u8 24), .lit (.int .u8 24)]

/-- 'futtocklaw06.KlassWords': WHATEVER THE INPUT: true; the input reads as it did. -/
def klassWordsSpec : ChangeSpec := { name := "klassWords", fn := fun _ => fun
  | [d1, d2] => { results := [.lit (.bool true)], args := [d1, d2] }
  | _ => none }
def klassWordsRow : OpenClaim := { program := "ytdooakfdaeockaadoor", sum := "bc4b486924c973ed26e24217a57dbff6fcd1387f1725e771ef4c23459ceed33a", func := "futtock/futtocklaw06.KlassWords", spec := "klassWords", named := ["futtock/word.ownerField", "futtock/word.ageField", "futtock/word.tagField", "futtock/word.recordField", "futtock/word.hashField", "futtock/word.slotField", "futtock/word.genField", "futtock/word.epochField"], apart := false, laid := [("futtock/word.tagField", laid_futtock_word_tagField), ("futtock/word.ageField", laid_futtock_word_ageField), ("futtock/word.epochField", laid_futtock_word_epochField), ("futtock/word.hashField", laid_futtock_word_hashField), ("futtock/word.ownerField", laid_futtock_word_ownerField), ("futtock/word.recordField", laid_futtock_word_recordField), ("futtock/word.slotField", laid_futtock_word_slotField), ("futtock/word.genField", laid_futtock_word_genField)] }
def KlassWordsSaid : Prop := klassWordsRow.holds Tryd.pinned (OpenSpec.ofChange klassWordsSpec)

/-- ITS FALSE NEIGHBOUR: 'it returns false'. Refute it at one input. -/
def klassWordsWrong : ChangeSpec := { name := "klassWords", fn := fun _ => fun
  | [d1, d2] => { results := [.lit (.bool false)], args := [d1, d2] }
  | _ => none }
def KlassWordsWrongFalsely : Prop := klassWordsRow.holds Tryd.pinned (OpenSpec.ofChange klassWordsWrong)

/-- 'futtocklaw06.KlassEpochs': WHATEVER THE INPUT: true; the input reads as it did. -/
def klassEpochsSpec : ChangeSpec := { name := "klassEpochs", fn := fun _ => fun
  | [d1, d2] => { results := [.lit (.bool true)], args := [d1, d2] }
  | _ => none }
def klassEpochsRow : OpenClaim := { program := "ytdooakfdaeockaadoor", sum := "bc4b486924c973ed26e24217a57dbff6fcd1387f1725e771ef4c23459ceed33a", func := "futtock/futtocklaw06.KlassEpochs", spec := "klassEpochs", named := ["futtock/word.recordField", "futtock/word.ownerField", "futtock/word.ageField", "futtock/word.hashField", "futtock/word.slotField", "futtock/word.genField", "futtock/word.epochField", "futtock/word.tagField"], apart := false, laid := [("futtock/word.tagField", laid_futtock_word_tagField), ("futtock/word.ageField", laid_futtock_word_ageField), ("futtock/word.epochField", laid_futtock_word_epochField), ("futtock/word.hashField", laid_futtock_word_hashField), ("futtock/word.ownerField", laid_futtock_word_ownerField), ("futtock/word.recordField", laid_futtock_word_recordField), ("futtock/word.slotField", laid_futtock_word_slotField), ("futtock/word.genField", laid_futtock_word_genField)] }
def KlassEpochsSaid : Prop := klassEpochsRow.holds Tryd.pinned (OpenSpec.ofChange klassEpochsSpec)

/-- ITS FALSE NEIGHBOUR: 'it returns false'. Refute it at one input. -/
def klassEpochsWrong : ChangeSpec := { name := "klassEpochs", fn := fun _ => fun
  | [d1, d2] => { results := [.lit (.bool false)], args := [d1, d2] }
  | _ => none }
def KlassEpochsWrongFalsely : Prop := klassEpochsRow.holds Tryd.pinned (OpenSpec.ofChange klassEpochsWrong)

/-- 'futtocklaw06.KlassCounts': WHATEVER THE INPUT: true; the input reads as it did. -/
def klassCountsSpec : ChangeSpec := { name := "klassCounts", fn := fun _ => fun
  | [d1, d2, d3] => { results := [.lit (.bool true)], args := [d1, d2, d3] }
  | _ => none }
def klassCountsRow : OpenClaim := { program := "ytdooakfdaeockaadoor", sum := "bc4b486924c973ed26e24217a57dbff6fcd1387f1725e771ef4c23459ceed33a", func := "futtock/futtocklaw06.KlassCounts", spec := "klassCounts", named := ["futtock/word.recordField", "futtock/word.ownerField", "futtock/word.ageField", "futtock/word.hashField", "futtock/word.slotField", "futtock/word.genField", "futtock/word.epochField", "futtock/word.tagField"], apart := false, laid := [("futtock/word.tagField", laid_futtock_word_tagField), ("futtock/word.ageField", laid_futtock_word_ageField), ("futtock/word.epochField", laid_futtock_word_epochField), ("futtock/word.hashField", laid_futtock_word_hashField), ("futtock/word.ownerField", laid_futtock_word_ownerField), ("futtock/word.recordField", laid_futtock_word_recordField), ("futtock/word.slotField", laid_futtock_word_slotField), ("futtock/word.genField", laid_futtock_word_genField)] }
def KlassCountsSaid : Prop := klassCountsRow.holds Tryd.pinned (OpenSpec.ofChange klassCountsSpec)

/-- ITS FALSE NEIGHBOUR: 'it returns false'. Refute it at one input. -/
def klassCountsWrong : ChangeSpec := { name := "klassCounts", fn := fun _ => fun
  | [d1, d2, d3] => { results := [.lit (.bool false)], args := [d1, d2, d3] }
  | _ => none }
def KlassCountsWrongFalsely : Prop := klassCountsRow.holds Tryd.pinned (OpenSpec.ofChange klassCountsWrong)

/- THE SECOND FORM. 'bulk': how many values and letters a reading holds, each counted each time it is reached (what is shared counts as often as it is met; a slice's spare places count too). A statement '..UptoSaid' is the law's where the arguments, and the package variables that the reading takes, are together of bulk at most 1048576: NARROWER than '..Said'. Prove '..Said' where nothing that the law and all that it calls make is longer than what came in: it says more and counts as full. Else prove '..UptoSaid'. A law counts once. -/
mutual
def uptoBulk {H : Type} : DataW H → Nat
  | .lit (.string bytes) => bytes.length + 1
  | .lit _ => 1
  | .nil => 1
  | .ptr d => uptoBulk d + 1
  | .slice elems spare => uptoBulkAll elems + uptoBulkAll spare + 1
  | .agg parts => uptoBulkAll parts + 1
  | .iface _ d => uptoBulk d + 1
  | .map entries => uptoBulkEntries entries + 1
  | .held _ => 1
def uptoBulkAll {H : Type} : List (DataW H) → Nat
  | [] => 0
  | d :: r => uptoBulk d + uptoBulkAll r
def uptoBulkEntries {H : Type} : List (Lit × DataW H) → Nat
  | [] => 0
  | x :: r => uptoBulkEntry x + uptoBulkEntries r
def uptoBulkEntry {H : Type} : Lit × DataW H → Nat
  | (.string bytes, d) => bytes.length + uptoBulk d + 1
  | (_, d) => uptoBulk d + 1
 end
def uptoSmall : (H : Type) → List (DataW H) → Bool := fun _ ds => decide (uptoBulkAll ds ≤ 1048576)
def OpenSpec.upto (s : _root_.Go.ChangeSpec) : _root_.Go.OpenSpec := { _root_.Go.OpenSpec.ofChange s with cond := some uptoSmall }

/-- 'futtocklaw06.KlassWords', WHERE WHAT IT READS IS OF BULK AT MOST 1048576: true; the input reads as it did. -/
def klassWordsUptoRow : OpenClaim := { program := "ytdooakfdaeockaadoor", sum := "bc4b486924c973ed26e24217a57dbff6fcd1387f1725e771ef4c23459ceed33a", func := "futtock/futtocklaw06.KlassWords", spec := "klassWords", named := ["futtock/word.ownerField", "futtock/word.ageField", "futtock/word.tagField", "futtock/word.recordField", "futtock/word.hashField", "futtock/word.slotField", "futtock/word.genField", "futtock/word.epochField"], apart := false, laid := [("futtock/word.tagField", laid_futtock_word_tagField), ("futtock/word.ageField", laid_futtock_word_ageField), ("futtock/word.epochField", laid_futtock_word_epochField), ("futtock/word.hashField", laid_futtock_word_hashField), ("futtock/word.ownerField", laid_futtock_word_ownerField), ("futtock/word.recordField", laid_futtock_word_recordField), ("futtock/word.slotField", laid_futtock_word_slotField), ("futtock/word.genField", laid_futtock_word_genField)], narrowed := true }
def KlassWordsUptoSaid : Prop := klassWordsUptoRow.holds Tryd.pinned (OpenSpec.upto klassWordsSpec)

/-- 'futtocklaw06.KlassEpochs', WHERE WHAT IT READS IS OF BULK AT MOST 1048576: true; the input reads as it did. -/
def klassEpochsUptoRow : OpenClaim := { program := "ytdooakfdaeockaadoor", sum := "bc4b486924c973ed26e24217a57dbff6fcd1387f1725e771ef4c23459ceed33a", func := "futtock/futtocklaw06.KlassEpochs", spec := "klassEpochs", named := ["futtock/word.recordField", "futtock/word.ownerField", "futtock/word.ageField", "futtock/word.hashField", "futtock/word.slotField", "futtock/word.genField", "futtock/word.epochField", "futtock/word.tagField"], apart := false, laid := [("futtock/word.tagField", laid_futtock_word_tagField), ("futtock/word.ageField", laid_futtock_word_ageField), ("futtock/word.epochField", laid_futtock_word_epochField), ("futtock/word.hashField", laid_futtock_word_hashField), ("futtock/word.ownerField", laid_futtock_word_ownerField), ("futtock/word.recordField", laid_futtock_word_recordField), ("futtock/word.slotField", laid_futtock_word_slotField), ("futtock/word.genField", laid_futtock_word_genField)], narrowed := true }
def KlassEpochsUptoSaid : Prop := klassEpochsUptoRow.holds Tryd.pinned (OpenSpec.upto klassEpochsSpec)

/-- 'futtocklaw06.KlassCounts', WHERE WHAT IT READS IS OF BULK AT MOST 1048576: true; the input reads as it did. -/
def klassCountsUptoRow : OpenClaim := { program := "ytdooakfdaeockaadoor", sum := "bc4b486924c973ed26e24217a57dbff6fcd1387f1725e771ef4c23459ceed33a", func := "futtock/futtocklaw06.KlassCounts", spec := "klassCounts", named := ["futtock/word.recordField", "futtock/word.ownerField", "futtock/word.ageField", "futtock/word.hashField", "futtock/word.slotField", "futtock/word.genField", "futtock/word.epochField", "futtock/word.tagField"], apart := false, laid := [("futtock/word.tagField", laid_futtock_word_tagField), ("futtock/word.ageField", laid_futtock_word_ageField), ("futtock/word.epochField", laid_futtock_word_epochField), ("futtock/word.hashField", laid_futtock_word_hashField), ("futtock/word.ownerField", laid_futtock_word_ownerField), ("futtock/word.recordField", laid_futtock_word_recordField), ("futtock/word.slotField", laid_futtock_word_slotField), ("futtock/word.genField", laid_futtock_word_genField)], narrowed := true }
def KlassCountsUptoSaid : Prop := klassCountsUptoRow.holds Tryd.pinned (OpenSpec.upto klassCountsSpec)

end Rows
end Go.Proofs.YtdooakfdaeockaaDoor
