/- What may be done: the parts that read no map. -/
import Derived.Test.YtlgomkocalieeaaGreatDoorMoP1
namespace Go.Proofs.YtlgomkocalieeaaGreatDoor.Mo
set_option maxRecDepth 100000
open Go.RowKit Go.Maps
set_option linter.unusedSimpArgs false
set_option linter.unusedVariables false
set_option maxRecDepth 100000
set_option maxHeartbeats 4000000


end Go.Proofs.YtlgomkocalieeaaGreatDoor.Mo
