/- What the reference's Read answers of every word. -/
import Derived.Test.YtlgomkocalieeaaGreatDoorWdP5
namespace Go.Proofs.YtlgomkocalieeaaGreatDoor.Wd
set_option maxRecDepth 100000
open Go.RowKit
set_option linter.unusedSimpArgs false
set_option linter.unusedVariables false



theorem okZ (k : Int) : OkH k 0 0 0 0 0 0 0 := by constructor <;> decide
theorem gW_0 : gW 0 := by decide
theorem inW_0 : InW 0 := ⟨by decide, by decide⟩

theorem uK_2 {v : Int} (k : uK v = 2) : v % 8 = 1 := by
  unfold uK at k
  (repeat' split at k) <;> first | assumption | (exfalso; omega)
theorem uK_4 {v : Int} (k : uK v = 4) : v % 8 = 5 := by
  unfold uK at k
  (repeat' split at k) <;> first | assumption | (exfalso; omega)
end Go.Proofs.YtlgomkocalieeaaGreatDoor.Wd
