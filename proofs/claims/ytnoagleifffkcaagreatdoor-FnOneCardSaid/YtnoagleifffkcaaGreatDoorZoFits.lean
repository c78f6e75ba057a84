/-

-/
import Derived.Test.YtnoagleifffkcaaGreatDoorZoGKd
import Derived.Deep.CutRange
import Derived.Deep.CutBlock
import Derived.Deep.DeepCutAuto
namespace Go.Proofs.YtnoagleifffkcaaGreatDoor.ps
open Go.ChangeShapes Go.WideShapes Go.ChangeAt Go.RowKit
open chars (inR)
open lv (levelOf opLevel box_below Bx)
set_option linter.unusedVariables false
set_option maxRecDepth 20000
end Go.Proofs.YtnoagleifffkcaaGreatDoor.ps
