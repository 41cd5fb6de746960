/-
  DERIVED. GIVEN WITH THE SEED: THE PROGRAM's TIES (one call each: nine closed facts by the kernel) AND EACH ROW's TIE, after the 31st guide's Derived/Test/Toyas{Tie, Card}.lean. No idea stands in it: it is a product of the set-up. Laid BY PROGRAM, IN A SANDBOX (cutbox-door.mjs). By AI agents, Wed Nov 11 2026. No macro, syntax, notation, axiom, sorry.
-/
import Derived.Test.YtlgomkocalieeaaGreatDoorRows
import Derived.LaidByTextLater
import Derived.SevenTiedAt
import Derived.LaidSub
import Derived.LaidOnce
namespace Go.Proofs.YtlgomkocalieeaaGreatDoor
open Go
set_option maxRecDepth 100000
theorem seatTie1 : Tryz.prog.laidByTextLater [("futtock/word.tagField", Rows.laid_futtock_word_tagField), ("futtock/word.ageField", Rows.laid_futtock_word_ageField), ("futtock/word.epochField", Rows.laid_futtock_word_epochField), ("futtock/word.hashField", Rows.laid_futtock_word_hashField), ("futtock/word.ownerField", Rows.laid_futtock_word_ownerField), ("futtock/word.recordField", Rows.laid_futtock_word_recordField), ("futtock/word.slotField", Rows.laid_futtock_word_slotField), ("futtock/word.genField", Rows.laid_futtock_word_genField)] [.wider, .wider, .wider, .wider, .wider, .wider, .wider, .wider] true :=
  Program.laidByTextLater_by_one 49 8 3 (by kernel_rfl) (by kernel_rfl) (by kernel_rfl) (by kernel_rfl) (by kernel_rfl) (by kernel_rfl) (fun _ _ => by kernel_rfl)
theorem noOwnUnsafe : Tryz.pinned.checked.prog.headLifts.contains "ownunsafe" = false := by kernel_rfl
theorem tie : Tryz.prog.laidByTextLater [("futtock/word.tagField", Rows.laid_futtock_word_tagField), ("futtock/word.ageField", Rows.laid_futtock_word_ageField), ("futtock/word.epochField", Rows.laid_futtock_word_epochField), ("futtock/word.hashField", Rows.laid_futtock_word_hashField), ("futtock/word.ownerField", Rows.laid_futtock_word_ownerField), ("futtock/word.recordField", Rows.laid_futtock_word_recordField), ("futtock/word.slotField", Rows.laid_futtock_word_slotField), ("futtock/word.genField", Rows.laid_futtock_word_genField)] [.wider, .wider, .wider, .wider, .wider, .wider, .wider, .wider] true :=
  Program.laidByTextLater.sub seatTie1 ["futtock/word.tagField", "futtock/word.ageField", "futtock/word.epochField", "futtock/word.hashField", "futtock/word.ownerField", "futtock/word.recordField", "futtock/word.slotField", "futtock/word.genField"] (by kernel_rfl) (by kernel_rfl)
theorem scriptLays_row_tie : Rows.scriptLaysRow.laidByTextAt .later Tryz.pinned [.wider, .wider, .wider, .wider, .wider, .wider, .wider, .wider] true :=
  OpenClaim.laidByTextAt_later rfl rfl tie noOwnUnsafe
theorem scriptBack_row_tie : Rows.scriptBackRow.laidByTextAt .later Tryz.pinned [.wider, .wider, .wider, .wider, .wider, .wider, .wider, .wider] true :=
  OpenClaim.laidByTextAt_later rfl rfl tie noOwnUnsafe
theorem scriptOnce_row_tie : Rows.scriptOnceRow.laidByTextAt .later Tryz.pinned [.wider, .wider, .wider, .wider, .wider, .wider, .wider, .wider] true :=
  OpenClaim.laidByTextAt_later rfl rfl tie noOwnUnsafe
theorem scriptLaysUpto_row_tie : Rows.scriptLaysUptoRow.laidByTextAt .later Tryz.pinned [.wider, .wider, .wider, .wider, .wider, .wider, .wider, .wider] true :=
  OpenClaim.laidByTextAt_later rfl rfl tie noOwnUnsafe
theorem scriptBackUpto_row_tie : Rows.scriptBackUptoRow.laidByTextAt .later Tryz.pinned [.wider, .wider, .wider, .wider, .wider, .wider, .wider, .wider] true :=
  OpenClaim.laidByTextAt_later rfl rfl tie noOwnUnsafe
theorem scriptOnceUpto_row_tie : Rows.scriptOnceUptoRow.laidByTextAt .later Tryz.pinned [.wider, .wider, .wider, .wider, .wider, .wider, .wider, .wider] true :=
  OpenClaim.laidByTextAt_later rfl rfl tie noOwnUnsafe
end Go.Proofs.YtlgomkocalieeaaGreatDoor
