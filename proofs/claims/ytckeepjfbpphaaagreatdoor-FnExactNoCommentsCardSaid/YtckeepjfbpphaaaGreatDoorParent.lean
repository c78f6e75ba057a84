/-
  ParentOf of both sides: the first node that has i among its kids ('parentF'): contracts; slices.Index, Contains at []int, IndexFunc at []Node.
-/
import Derived.Test.YtckeepjfbpphaaaGreatDoorShapeImpl
import Derived.Test.YtckeepjfbpphaaaGreatDoorSameFunc
namespace Go.Proofs.YtckeepjfbpphaaaGreatDoor.nd
open Go.ChangeShapes Go.WideShapes Go.ChangeAt Go.RowKit
set_option linter.unusedVariables false

/-- The first place of x in a list of integers; -1. -/
def findZ (x : Int) : List Int → Nat → Int
  | [], _ => -1
  | y :: l, k => if y = x then (k : Int) else findZ x l (k + 1)
theorem findZ_step {x : Int} {l : List Int} {K : Nat} (h : K < l.length) : findZ x (l.drop K) K = if l[K] = x then (K : Int) else findZ x (l.drop (K + 1)) (K + 1) := by
  rw [List.drop_eq_getElem_cons h, findZ]
theorem findZ_end {x : Int} {l : List Int} : findZ x (l.drop l.length) l.length = -1 := by rw [List.drop_length]; rfl
theorem findZ_mem (x : Int) : ∀ (l : List Int) (k : Nat), 0 ≤ findZ x l k ↔ x ∈ l := by
  intro l
  induction l with
  | nil => intro k; simp [findZ]
  | cons y l ih =>
    intro k
    unfold findZ
    by_cases h : y = x
    · rw [if_pos h, h]; simp
    · rw [if_neg h, ih, List.mem_cons]
      constructor
      · exact .inr
      · rintro (e | e)
        · exact absurd e.symm h
        · exact e
def RelIx (x : Int) (l : List Int) (i : Value) : Prop :=
  ∃ K : Nat, K ≤ l.length ∧ i = .int .i64 (K : Int) ∧ findZ x (l.drop K) K = findZ x l 0

/-- The first node that has x among its kids. -/
def findN (x : Int) : List Nd → Nat → Int
  | [], _ => -1
  | n :: l, k => if x ∈ n.kids then (k : Int) else findN x l (k + 1)
theorem findN_yes {x : Int} {l : List Nd} {K : Nat} (h : K < l.length) (hx : x ∈ l[K].kids) : findN x (l.drop K) K = (K : Int) := by
  rw [List.drop_eq_getElem_cons h, findN, if_pos hx]
theorem findN_no {x : Int} {l : List Nd} {K : Nat} (h : K < l.length) (hx : ¬ x ∈ l[K].kids) : findN x (l.drop K) K = findN x (l.drop (K + 1)) (K + 1) := by
  rw [List.drop_eq_getElem_cons h, findN, if_neg hx]
theorem findN_end {x : Int} {l : List Nd} : findN x (l.drop l.length) l.length = -1 := by rw [List.drop_length]; rfl
def parentF (x : Int) (l : List Nd) : Int := if shape l = true then findN x l 0 else -1

def RelFN (B g : Nat) (W : World) (x : Int) (l : List Nd) (i : Value) (wr : World) : Prop :=
  ∃ K : Nat, K ≤ l.length ∧ i = .int .i64 (K : Int) ∧ findN x (l.drop K) K = findN x l 0 ∧ Below B W wr

def RelPs (B : Nat) (W : World) (x : Int) (l : List Nd) (i : Value) (wr : World) : Prop :=
  ∃ K : Nat, K ≤ l.length ∧ i = .int .i64 (K : Int) ∧ findN x (l.drop K) K = findN x l 0 ∧ Below B W wr
def RelPj (x : Int) (l : List Int) (j : Value) : Prop :=
  ∃ J : Nat, J ≤ l.length ∧ j = .int .i64 (J : Int) ∧ ¬ x ∈ l.take J

end Go.Proofs.YtckeepjfbpphaaaGreatDoor.nd
