/-
  The positions of kids: spec.KidPos: its contract.
-/
import Derived.Test.YtiilpnoaocfjgaaGreatDoorKidI
import Derived.Deep.CutRange
import Derived.Deep.CutBlock
import Derived.Deep.DeepCutAuto
namespace Go.Proofs.YtiilpnoaocfjgaaGreatDoor.ps
open Go.ChangeShapes Go.WideShapes Go.ChangeAt Go.RowKit
open chars (inR)
open lv (levelOf opLevel box_below Bx)
set_option linter.unusedVariables false
set_option maxRecDepth 20000

def kidS (k op : Int) (n : Nat) (K L : Int) (d i g s : Bool) : Ps :=
  if posOk L d = true ∧ 0 ≤ K ∧ K < (n : Int) ∧ ¬ levelOf k op = 0 then
    (if k = 15 then ⟨if K = 0 then 14 else 1, false, i, g, s && K == 0⟩
    else if k = 14 then ⟨if K = 0 then 3 else 2, false, i, g, s && K == 0⟩
    else if k = 13 then (if 1 < n then top else ⟨5, false, i, g, s && K == 0⟩)
    else if k = 12 then ⟨if K = 0 then (sdS (opLevel op)).1 else (sdS (opLevel op)).2, false, i, g, if K = 0 then s else op == 99⟩
    else if k = 11 then ⟨11, false, i, g, false⟩
    else if k = 9 ∨ k = 10 then ⟨14, false, i, g, false⟩
    else if k = 6 then ⟨14, true, i, g, false⟩
    else top)
  else zero
theorem B5.other {q h : Nat} {L : Int} {d i g s : Bool} {w : World} (H : B5 q L d i g s w) (hne : q ≠ h) (j : Nat) (v : Value) : B5 q L d i g s (w.setCell ⟨h, j, none⟩ v) := (Below.heap_setCell w ⟨h, j, none⟩ v q hne).trans H
theorem in_of {K : Int} {n : Nat} : inR K 0 ((n : Int) - 1) = true ↔ 0 ≤ K ∧ K < (n : Int) := by
  unfold inR
  simp only [Bool.and_eq_true, decide_eq_true_eq]
  omega
end Go.Proofs.YtiilpnoaocfjgaaGreatDoor.ps
