/-
  One world that holds what the rows list: impl's two tables of spellings as their initialisers lay them.
-/
import Derived.Test.YtckeepjfbpphaaaGreatDoorCards
import Derived.Test.YtckeepjfbpphaaaGreatDoorTie
import Derived.Test.YtckeepjfbpphaaaGreatDoorSpell
import Derived.Lib.QuietBelow
namespace Go.Proofs.YtckeepjfbpphaaaGreatDoor
open Go.ChangeShapes Go.WideShapes Go.ChangeAt Go.RowKit

noncomputable def laidWorld (os : Os) : World :=
  let w0 := World.holding Tryz.prog os ⟨#[], #[], []⟩
  { w0 with heap := (w0.heap.modify 0 fun
      | .cells _ t frozen => .cells (strCells toks.words) t frozen
      | o => o).modify 1 fun
      | .cells _ t frozen => .cells (strCells toks.signs) t frozen
      | o => o }
end Go.Proofs.YtckeepjfbpphaaaGreatDoor
