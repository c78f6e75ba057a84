/-
  impl.subtreeStart: where a node's part begins, by a range over slices.Backward.
-/
import Derived.Test.YtldkhdoboieibaaBackward
import Derived.Test.YtldkhdoboieibaaNdTo
namespace Go.Proofs.Ytldkhdoboieibaa.nd
open Go.RowKit Go.Shelf
set_option linter.unusedVariables false
attribute [local go_sem] Oper.semAt_some

theorem back_app (ss : List Nat) (xs ys : List Int) : ∀ (p : Nat), back ss (xs ++ ys) p = (back ss xs p).bind (back ss ys) := by
  induction xs with
  | nil => intro p; rfl
  | cons x xs ih =>
    intro p
    by_cases h : x = (p : Int) - 1 ∧ p ≠ 0
    · rw [List.cons_append, back_yes h.1 h.2, back_yes h.1 h.2, ih]
    · rw [List.cons_append, back_no h, back_no h]; rfl
def subF (ss : List Nat) (zs : List Int) : Int := match back ss zs.reverse ss.length with
  | some s => (s : Int)
  | none => -1
theorem sub_some {ss : List Nat} {zs : List Int} {s : Nat} (h : back ss zs.reverse ss.length = some s) : subF ss zs = (s : Int) := by unfold subF; rw [h]
theorem sub_none {ss : List Nat} {zs : List Int} (h : back ss zs.reverse ss.length = none) : subF ss zs = -1 := by unfold subF; rw [h]
theorem came_back {ss : List Nat} {zs : List Int} (N : Nat) : back ss ((came zs 0).map (·.2)) N = back ss zs.reverse N := by
  rw [came_vals zs.length 0 (by omega)]; rfl
theorem came_none {ss : List Nat} {zs : List Int} {K N : Nat} (hK : K ≤ zs.length) (h : back ss ((came zs K).map (·.2)) N = none) : back ss zs.reverse N = none := by
  rw [came_vals (zs.length - K) K (by omega)] at h
  have e : zs.reverse = (zs.drop K).reverse ++ (zs.take K).reverse := by rw [← List.reverse_append, List.take_append_drop]
  rw [e, back_app, h]
  rfl

end Go.Proofs.Ytldkhdoboieibaa.nd
