import Derived.Test.YtcjokkjepgfinaaGreatDoorQDE
set_option linter.unusedVariables false
set_option linter.unusedSimpArgs false
namespace Go.Proofs.YtcjokkjepgfinaaGreatDoor.Dk
set_option maxRecDepth 8000
open Go.RowKit Mem Go.ChangeMaps
def sector (l : List UInt8) (q : Nat) : List UInt8 := (l.drop (512 * q)).take 512
end Go.Proofs.YtcjokkjepgfinaaGreatDoor.Dk
