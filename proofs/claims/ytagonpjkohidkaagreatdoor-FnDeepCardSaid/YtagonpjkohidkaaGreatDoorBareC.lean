/-
  Bare over tokens in memory: contracts of both sides.
-/
import Derived.Test.YtagonpjkohidkaaGreatDoorTk
namespace Go.Proofs.YtagonpjkohidkaaGreatDoor.pb
open Go.ChangeShapes Go.WideShapes Go.ChangeAt Go.RowKit
open tk
set_option linter.unusedVariables false

def clB (k : Int) : Bool := k == 33 || k == 35 || k == 31
def opB (k : Int) : Bool := k == 32 || k == 34 || k == 30
def clN (k : Int) : Int := if clB k = true then 1 else 0
def opN (k : Int) : Int := if opB k = true then 1 else 0
def bareF (q : Int) : List Tk → Int → Bool
  | [], _ => false
  | t :: r, d => if t.k = q ∧ d - clN t.k = 0 then true else bareF q r (d - clN t.k + opN t.k)
theorem bare_end (l : List Tk) (q d : Int) : bareF q (l.drop l.length) d = false := by rw [List.drop_length]; rfl
theorem bare_hit {l : List Tk} {q d : Int} {I : Nat} (h : I < l.length) (h1 : l[I].k = q) (h2 : d - clN l[I].k = 0) : bareF q (l.drop I) d = true := by
  rw [List.drop_eq_getElem_cons h]
  unfold bareF
  rw [if_pos ⟨h1, h2⟩]
theorem bare_on {l : List Tk} {q d : Int} {I : Nat} (h : I < l.length) (h1 : ¬ (l[I].k = q ∧ d - clN l[I].k = 0)) : bareF q (l.drop I) d = bareF q (l.drop (I + 1)) (d - clN l[I].k + opN l[I].k) := by
  rw [List.drop_eq_getElem_cons h]
  conv => lhs; unfold bareF
  rw [if_neg h1]
theorem cl_01 (k : Int) : clN k = 0 ∨ clN k = 1 := by unfold clN; split <;> simp
theorem op_01 (k : Int) : opN k = 0 ∨ opN k = 1 := by unfold opN; split <;> simp
theorem both {k : Int} (h : opB k = true) : clB k = false := by
  simp only [opB, Bool.or_eq_true, beq_iff_eq] at h
  rcases h with (h | h) | h <;> subst h <;> rfl
def nest (k : Int) : Int := if opB k = true then 1 else if clB k = true then -1 else 0
theorem nest_3 (k : Int) : nest k = 1 ∨ nest k = -1 ∨ nest k = 0 := by
  unfold nest
  split
  · exact .inl rfl
  · split
    · exact .inr (.inl rfl)
    · exact .inr (.inr rfl)
theorem nest_cl (k : Int) : min (nest k) 0 = - clN k := by
  unfold nest clN
  cases h : opB k
  · cases clB k <;> rfl
  · rw [both h]; rfl
theorem nest_op (k : Int) : max (nest k) 0 = opN k := by
  unfold nest opN
  cases h : opB k
  · cases clB k <;> rfl
  · rfl

theorem spec_close (k : Int) (w : World) : Calls Tryz.prog 46 #[.int .i64 k] w fun e w' => e = .returned (.bool (clB k)) ∧ w = w' := by
  go_enter Tryz.func46, Tryz.ntmps46
  go_wp2
  all_goals
    go_ret
    exact ⟨congrArg (fun b => Ending.returned (Value.bool b)) (by simp_all [clB]), rfl⟩
theorem spec_open (k : Int) (w : World) : Calls Tryz.prog 47 #[.int .i64 k] w fun e w' => e = .returned (.bool (opB k)) ∧ w = w' := by
  go_enter Tryz.func47, Tryz.ntmps47
  go_wp2
  all_goals
    go_ret
    exact ⟨congrArg (fun b => Ending.returned (Value.bool b)) (by simp_all [opB]), rfl⟩
theorem impl_nest (k : Int) (w : World) : Calls Tryz.prog 142 #[.int .i64 k] w fun e w' => e = .returned (.int .i64 (nest k)) ∧ w = w' := by
  go_enter Tryz.func142, Tryz.ntmps142
  go_wp2
  all_goals
    go_ret
    exact ⟨congrArg (fun b => Ending.returned (Value.int .i64 b)) (by simp_all [nest, opB, clB]), rfl⟩

def RelBr (w : World) (l : List Tk) (q : Int) (d i : Value) (wr : World) : Prop :=
  ∃ (I : Nat) (D : Int), I ≤ l.length ∧ i = .int .i64 (I : Int) ∧ d = .int .i64 D ∧ -(I : Int) ≤ D ∧ D ≤ (I : Int) ∧ bareF q (l.drop I) D = bareF q l 0 ∧ Below w.heap.size w wr

end Go.Proofs.YtagonpjkohidkaaGreatDoor.pb
