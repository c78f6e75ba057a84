/-
  The model's ShapeOk and StartOf: contracts.
-/
import Derived.Test.YtldkhdoboieibaaStartsSpec
namespace Go.Proofs.Ytldkhdoboieibaa.nd
open Go.ChangeShapes Go.WideShapes Go.ChangeAt Go.RowKit
set_option linter.unusedVariables false

theorem start_no {l : List Nd} {i : Int} (h : shape l = false ∨ ¬ (0 ≤ i ∧ i ≤ (l.length : Int) - 1)) : startOf l i = -1 := by
  unfold startOf
  rw [if_neg]
  intro ⟨h0, h1⟩
  rcases h with h | h
  · unfold shape at h
    have := of_decide_eq_false h
    omega
  · cases hs : shape l
    · unfold shape at hs
      have := of_decide_eq_false hs
      omega
    · obtain ⟨_, _, _, hl, _⟩ := shape_yes hs
      omega
theorem start_yes {l : List Nd} {I : Nat} (h : shape l = true) (hI : I < l.length) : startOf l (I : Int) = (((stO l).getD I 0 : Nat) : Int) := by
  obtain ⟨_, _, _, hl, _⟩ := shape_yes h
  unfold startOf
  rw [if_pos ⟨by omega, by omega⟩]
  simp
end Go.Proofs.Ytldkhdoboieibaa.nd
