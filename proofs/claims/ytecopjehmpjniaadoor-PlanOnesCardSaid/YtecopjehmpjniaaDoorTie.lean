/-
  DERIVED. GIVEN WITH THE SEED: THE PROGRAM's TIES (one call each: nine closed facts by the kernel) AND EACH ROW's TIE, after the 31st guide's Derived/Test/Toyas{Tie, Card}.lean. No idea stands in it: it is a product of the set-up. Laid BY PROGRAM, IN A SANDBOX (cutbox-door.mjs). By AI agents, Wed Nov 11 2026. No macro, syntax, notation, axiom, sorry.
-/
import Derived.Test.YtecopjehmpjniaaDoorRows
import Derived.LaidByTextLater
import Derived.SevenTiedAt
import Derived.LaidSub
import Derived.LaidOnce
namespace Go.Proofs.YtecopjehmpjniaaDoor
open Go
set_option maxRecDepth 100000
theorem seatTie1 : Tryd.prog.laidByTextLater [("futtock/word.tagField", Rows.laid_futtock_word_tagField), ("futtock/word.ageField", Rows.laid_futtock_word_ageField), ("futtock/word.epochField", Rows.laid_futtock_word_epochField), ("futtock/word.hashField", Rows.laid_futtock_word_hashField), ("futtock/word.ownerField", Rows.laid_futtock_word_ownerField), ("futtock/word.recordField", Rows.laid_futtock_word_recordField), ("futtock/word.slotField", Rows.laid_futtock_word_slotField), ("futtock/word.genField", Rows.laid_futtock_word_genField)] [.wider, .wider, .wider, .wider, .wider, .wider, .wider, .wider] true :=
  Program.laidByTextLater_by_one 49 8 3 (by kernel_rfl) (by kernel_rfl) (by kernel_rfl) (by kernel_rfl) (by kernel_rfl) (by kernel_rfl) (fun _ _ => by kernel_rfl)
theorem noOwnUnsafe : Tryd.pinned.checked.prog.headLifts.contains "ownunsafe" = false := by kernel_rfl
theorem tie : Tryd.prog.laidByTextLater [("futtock/word.tagField", Rows.laid_futtock_word_tagField), ("futtock/word.ageField", Rows.laid_futtock_word_ageField), ("futtock/word.epochField", Rows.laid_futtock_word_epochField), ("futtock/word.hashField", Rows.laid_futtock_word_hashField), ("futtock/word.ownerField", Rows.laid_futtock_word_ownerField), ("futtock/word.recordField", Rows.laid_futtock_word_recordField), ("futtock/word.slotField", Rows.laid_futtock_word_slotField), ("futtock/word.genField", Rows.laid_futtock_word_genField)] [.wider, .wider, .wider, .wider, .wider, .wider, .wider, .wider] true :=
  Program.laidByTextLater.sub seatTie1 ["futtock/word.tagField", "futtock/word.ageField", "futtock/word.epochField", "futtock/word.hashField", "futtock/word.ownerField", "futtock/word.recordField", "futtock/word.slotField", "futtock/word.genField"] (by kernel_rfl) (by kernel_rfl)
theorem planOnes_row_tie : Rows.planOnesRow.laidByTextAt .later Tryd.pinned [.wider, .wider, .wider, .wider, .wider, .wider, .wider, .wider] true :=
  OpenClaim.laidByTextAt_later rfl rfl tie noOwnUnsafe
theorem planKeeps_row_tie : Rows.planKeepsRow.laidByTextAt .later Tryd.pinned [.wider, .wider, .wider, .wider, .wider, .wider, .wider, .wider] true :=
  OpenClaim.laidByTextAt_later rfl rfl tie noOwnUnsafe
theorem planSaved_row_tie : Rows.planSavedRow.laidByTextAt .later Tryd.pinned [.wider, .wider, .wider, .wider, .wider, .wider, .wider, .wider] true :=
  OpenClaim.laidByTextAt_later rfl rfl tie noOwnUnsafe
theorem planOnesUpto_row_tie : Rows.planOnesUptoRow.laidByTextAt .later Tryd.pinned [.wider, .wider, .wider, .wider, .wider, .wider, .wider, .wider] true :=
  OpenClaim.laidByTextAt_later rfl rfl tie noOwnUnsafe
theorem planKeepsUpto_row_tie : Rows.planKeepsUptoRow.laidByTextAt .later Tryd.pinned [.wider, .wider, .wider, .wider, .wider, .wider, .wider, .wider] true :=
  OpenClaim.laidByTextAt_later rfl rfl tie noOwnUnsafe
theorem planSavedUpto_row_tie : Rows.planSavedUptoRow.laidByTextAt .later Tryd.pinned [.wider, .wider, .wider, .wider, .wider, .wider, .wider, .wider] true :=
  OpenClaim.laidByTextAt_later rfl rfl tie noOwnUnsafe
end Go.Proofs.YtecopjehmpjniaaDoor
