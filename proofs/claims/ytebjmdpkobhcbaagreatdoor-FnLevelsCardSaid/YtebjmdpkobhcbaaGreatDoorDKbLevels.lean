/- A part of the proof; no condition of its own. -/
import Derived.Test.YtebjmdpkobhcbaaGreatDoorCards
import Derived.Test.YtebjmdpkobhcbaaGreatDoorTie
import Derived.OpenVars
import Derived.Deep.DeepHandedRow
import Derived.Lib.SmallJoins
namespace Go.Proofs.YtebjmdpkobhcbaaGreatDoor.lawLevels
open Go.ChangeShapes Go.WideShapes Go.ChangeAt Go.RowKit
set_option maxRecDepth 20000
theorem named:Tryz.pinned.checked.prog.funcNamed Rows.fnLevelsRow.func=some 4:=by kernel_rfl
theorem goes:false=Rows.fnLevelsRow.goesBy Tryz.pinned.checked.prog:=by kernel_rfl
theorem mainis:Tryz.pinned.checked.prog.mainIs=some (Rows.fnLevelsCard.stood.harness.1,Rows.fnLevelsCard.stood.harness.2.toList):=by kernel_rfl
end Go.Proofs.YtebjmdpkobhcbaaGreatDoor.lawLevels
