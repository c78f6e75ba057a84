/-
  slices.Backward at []int: what the iterator hands to a loop's body ('bw_stops').
-/
import Derived.Test.YtldkhdoboieibaaTreeMath
import Derived.RangeFuncNested
import Derived.RangeFuncBound
import Derived.RangeFuncCalls
import Derived.RangeFuncLeaves
import Derived.RangeFuncBox
import Derived.Shelf.Abstract
import Derived.Shelf.RegionOpen
import Derived.OwnWalkIn
import Derived.TacticsInMore
import Derived.LoopNIn
import Derived.LoopIn
namespace Go.Proofs.Ytldkhdoboieibaa.nd
open Go.RowKit Go.Shelf
set_option linter.unusedVariables false
attribute [local go_sem] Oper.semAt_some

/-- What has come when the first K are still to come: (n - 1, the last), .., (K, number K). -/
def came (zs : List Int) (K : Nat) : List (Int × Int) := (List.range (zs.length - K)).map (fun j => (((zs.length - 1 - j : Nat) : Int), zs.getD (zs.length - 1 - j) 0))
theorem came_len (zs : List Int) (K : Nat) : (came zs K).length = zs.length - K := by simp [came]
theorem came_succ {zs : List Int} {K : Nat} (h : K < zs.length) : came zs K = came zs (K + 1) ++ [((K : Int), zs[K])] := by
  unfold came
  rw [show zs.length - K = (zs.length - (K + 1)) + 1 by omega, List.range_succ, List.map_append]
  simp only [List.map_cons, List.map_nil]
  rw [show zs.length - 1 - (zs.length - (K + 1)) = K by omega]
  simp [h]
theorem came_all (zs : List Int) : came zs zs.length = [] := by simp [came]
theorem came_vals {zs : List Int} : ∀ (d K : Nat), K + d = zs.length → (came zs K).map (·.2) = (zs.drop K).reverse := by
  intro d
  induction d with
  | zero => intro K h; rw [show K = zs.length by omega, came_all, List.drop_length]; rfl
  | succ d ih =>
    intro K h
    have hK : K < zs.length := by omega
    rw [came_succ hK, List.map_append, ih (K + 1) (by omega), List.drop_eq_getElem_cons hK, List.reverse_cons]
    rfl

/-- What a round of the loop's body keeps: what lay below n₀, and the iterator's own box. -/
def BwK (n₀ Bs : Nat) (W W' : World) : Prop := Below n₀ W W' ∧ W'.heap[Bs]? = W.heap[Bs]?
theorem BwK.refl (n₀ Bs : Nat) (W : World) : BwK n₀ Bs W W := ⟨Below.refl _ _, rfl⟩
theorem BwK.trans {n₀ Bs : Nat} {A B C : World} (h : BwK n₀ Bs A B) (k : BwK n₀ Bs B C) : BwK n₀ Bs A C := ⟨h.1.trans k.1, k.2.trans h.2⟩
theorem bwK_b {n₀ Bs : Nat} {w : World} (hn : n₀ ≤ w.heap.size) (hb : Bs < w.heap.size) (W : World) (l : Nat) (o o' : Obj) (hl : w.heap.size ≤ l) (h : W.heap[l]? = some o) (h1 : o.isCells = false) (h2 : o.isWalk = false) : BwK n₀ Bs W (W.putObj l o') := by
  refine ⟨belowK_b hn W l o o' hl h h1 h2, ?_⟩
  have hlt := (Array.getElem?_eq_some_iff.1 h).1
  exact (grownBy_putObj' W l o').block Bs (by omega) (fun e => by cases e; omega)

end Go.Proofs.Ytldkhdoboieibaa.nd
