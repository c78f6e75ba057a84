/-
  impl.SameTree by slices.EqualFunc: contracts.
-/
import Derived.Test.YtckeepjfbpphaaaGreatDoorSameTree
namespace Go.Proofs.YtckeepjfbpphaaaGreatDoor.nd
open Go.ChangeShapes Go.WideShapes Go.ChangeAt Go.RowKit
set_option linter.unusedVariables false

theorem cell_over {w : World} {b o : Nat} {v : Value} (z : Obj) (h : w.cell? ⟨b, o, none⟩ = some v) : (w.alloc z).cell? ⟨b, o, none⟩ = some v :=
  (((Below.refl w.heap.size w).alloc (Nat.le_refl _) z).cell (p := ⟨b, o, none⟩) (World.block_lt_of_cell? w _ h)).trans h

end Go.Proofs.YtckeepjfbpphaaaGreatDoor.nd
