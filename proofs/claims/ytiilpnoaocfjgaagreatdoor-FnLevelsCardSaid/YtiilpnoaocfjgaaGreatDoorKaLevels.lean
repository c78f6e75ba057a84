/-
  The card of FnLevels: its row fits the program.
-/
import Derived.Test.YtiilpnoaocfjgaaGreatDoorCards
import Derived.Test.YtiilpnoaocfjgaaGreatDoorTie
import Derived.OpenVars
import Derived.Deep.DeepHandedRow
import Derived.Lib.SmallJoins
namespace Go.Proofs.YtiilpnoaocfjgaaGreatDoor.lawLevels
open Go.ChangeShapes Go.WideShapes Go.ChangeAt Go.RowKit
set_option maxRecDepth 20000
set_option maxHeartbeats 3200000 in
theorem closed : joinedFacts Tryz.pinned.checked.prog 8 Tryz.f8 (OpenSpec.ofChange Rows.fnLevelsSpec).bare Rows.fnLevelsRow = true := by
  unfold joinedFacts
  simp only [Bool.and_eq_true]
  and_intros
  all_goals as_aux_lemma => kernel_rfl
end Go.Proofs.YtiilpnoaocfjgaaGreatDoor.lawLevels
