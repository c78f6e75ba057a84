/-
  Where the part of each node begins, the model's text: spec.l6Starts, ShapeOk, StartOf: contracts.
-/
import Derived.Test.YtldkhdoboieibaaTreeMath
import Derived.Test.YtldkhdoboieibaaOwnI
import Derived.Test.YtldkhdoboieibaaNdEq
namespace Go.Proofs.Ytldkhdoboieibaa.nd
open Go.ChangeShapes Go.WideShapes Go.ChangeAt Go.RowKit
set_option linter.unusedVariables false

def RelSt (B : Nat) (W : World) (l : List Nd) (v i : Value) (wr : World) : Prop :=
  ∃ (I : Nat) (ss : List Nat), I ≤ l.length ∧ OwnI B v (ints ss) wr ∧ i = .int .i64 (I : Int) ∧ ss.length = I ∧ Low ss ∧ stF (l.drop I) ss = stF l [] ∧ Below B W wr
def RelBk (ss : List Nat) (kids : List Int) (I : Nat) (p k : Value) : Prop :=
  ∃ (K P : Nat) (kk : Int), K ≤ kids.length ∧ p = .int .i64 (P : Int) ∧ k = .int .i64 kk ∧ kk = (K : Int) - 1 ∧ P ≤ I ∧ back ss (kids.take K).reverse P = back ss kids.reverse I

/-- What l6Starts answers. -/
def StOut (l : List Nd) (w : World) (e : Ending) (w' : World) : Prop :=
  ∃ a' c', e = .returned (.tuple #[.slice a' (stR l).length c', .bool (stB l)]) ∧ Below w.heap.size w w' ∧ Ints w'.heap.size w' a' (ints (stR l))

def inR (n a b : Int) : Bool := decide (a ≤ n) && decide (n ≤ b)
theorem inR_yes {n a b : Int} (h1 : a ≤ n) (h2 : n ≤ b) : inR n a b = true := by simp [inR, h1, h2]
theorem inR_no {n a b : Int} (h : ¬ (a ≤ n ∧ n ≤ b)) : inR n a b = false := by
  unfold inR
  by_cases h1 : a ≤ n
  · have : ¬ n ≤ b := fun h2 => h ⟨h1, h2⟩
    simp [this]
  · simp [h1]
theorem spec_in (n a b : Int) (w : World) : Calls Try.prog 32 #[.int .i64 n, .int .i64 a, .int .i64 b] w fun e w' => e = .returned (.bool (inR n a b)) ∧ w = w' := by
  by_cases h1 : a ≤ n
  · by_cases h2 : n ≤ b
    · have HE := Lib.hid (show inR n a b = true by simp [inR, h1, h2])
      go_enter Try.func32, Try.ntmps32
      go_wp2
      go_ret
      exact ⟨by rw [HE.out]; rfl, rfl⟩
    · have HE := Lib.hid (show inR n a b = false by simp [inR, h1, h2])
      go_enter Try.func32, Try.ntmps32
      go_wp2
      go_ret
      exact ⟨by rw [HE.out]; rfl, rfl⟩
  · have HE := Lib.hid (show inR n a b = false by simp [inR, h1])
    go_enter Try.func32, Try.ntmps32
    go_wp2
    go_ret
    exact ⟨by rw [HE.out]; rfl, rfl⟩
end Go.Proofs.Ytldkhdoboieibaa.nd
