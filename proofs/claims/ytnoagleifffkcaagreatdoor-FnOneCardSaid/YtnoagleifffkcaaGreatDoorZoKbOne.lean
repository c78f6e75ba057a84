/-

-/
import Derived.Test.YtnoagleifffkcaaGreatDoorCards
import Derived.Test.YtnoagleifffkcaaGreatDoorTie
import Derived.OpenVars
import Derived.Deep.DeepHandedRow
import Derived.Lib.SmallJoins
namespace Go.Proofs.YtnoagleifffkcaaGreatDoor.lawOne
open Go.ChangeShapes Go.WideShapes Go.ChangeAt Go.RowKit
set_option maxRecDepth 20000
theorem named:Tryz.pinned.checked.prog.funcNamed Rows.fnOneRow.func=some 3:=by kernel_rfl
theorem goes:false=Rows.fnOneRow.goesBy Tryz.pinned.checked.prog:=by kernel_rfl
theorem mainis:Tryz.pinned.checked.prog.mainIs=some (Rows.fnOneCard.stood.harness.1,Rows.fnOneCard.stood.harness.2.toList):=by kernel_rfl
end Go.Proofs.YtnoagleifffkcaaGreatDoor.lawOne
