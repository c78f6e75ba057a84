/-
  SameTree of both sides: whether two lists of nodes are equal; a contract each.
-/
import Derived.Test.YtckeepjfbpphaaaGreatDoorNdEq
namespace Go.Proofs.YtckeepjfbpphaaaGreatDoor.nd
open Go.ChangeShapes Go.WideShapes Go.ChangeAt Go.RowKit
set_option linter.unusedVariables false

def RelEF (B : Nat) (W : World) (l m : List Nd) (i : Value) (wr : World) : Prop :=
  ∃ I : Nat, I ≤ l.length ∧ i = .int .i64 (I : Int) ∧ Below B W wr ∧ l.take I = m.take I

end Go.Proofs.YtckeepjfbpphaaaGreatDoor.nd
