/-
  The kinds of tokens that end and begin an operand: impl's functions and the model's give the same Bools.
-/
import Derived.Test.YtlbloemmabjmoaaDoorRows
import Derived.Test.YtlbloemmabjmoaaDoorBase
import Derived.WalkKit
import Derived.ProofKit
import Derived.OpenShut
import Derived.ShutString
import Derived.ChangeOld
import Derived.Below
import Derived.Laws.Rows
import Derived.WalkSpells
import Derived.WalkLawsBesides
namespace Go.Proofs.YtlbloemmabjmoaaDoor.operand
open Go.ChangeShapes Go.WideShapes Go.ChangeAt Go.RowKit
set_option linter.unusedVariables false
def ends (n : Int) : Bool := n == 3 || n == 4 || n == 5 || n == 6 || n == 8 || n == 33 || n == 35 || n == 51 || n == 52
theorem spec_ends (n : Int) (w : World) : Calls Tryd.prog 38 #[.int .i64 n] w fun e w' => e = .returned (.bool (ends n)) ∧ w = w' := by
  obtain ⟨v, hv⟩ : ∃ v, v = ends n := ⟨_, rfl⟩
  rw [← hv]
  unfold ends at hv
  have HV := Lib.hid hv
  clear hv
  go_enter Tryd.func38, Tryd.ntmps38
  go_wp2
  all_goals go_ret
  all_goals exact ⟨by rw [HV.out]; simp_all, rfl⟩
theorem impl_ends (n : Int) (w : World) : Calls Tryd.prog 72 #[.int .i64 n] w fun e w' => e = .returned (.bool (ends n)) ∧ w = w' := by
  obtain ⟨v, hv⟩ : ∃ v, v = ends n := ⟨_, rfl⟩
  rw [← hv]
  unfold ends at hv
  have HV := Lib.hid hv
  clear hv
  go_enter Tryd.func72, Tryd.ntmps72
  go_wp2
  all_goals go_ret
  all_goals exact ⟨by rw [HV.out]; simp_all, rfl⟩
def begins (n : Int) : Bool := n == 3 || n == 4 || n == 6 || n == 7 || n == 8 || n == 32 || n == 68
end Go.Proofs.YtlbloemmabjmoaaDoor.operand
