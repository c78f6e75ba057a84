/-
  The kinds of tokens that end and begin an operand: impl's functions and the model's give the same Bools.
-/
import Derived.Test.YtiilpnoaocfjgaaGreatDoorRows
import Derived.Test.YtiilpnoaocfjgaaGreatDoorBase
import Derived.WalkKit
import Derived.ProofKit
import Derived.OpenShut
import Derived.ShutString
import Derived.ChangeOld
import Derived.Below
import Derived.Laws.Rows
import Derived.WalkSpells
import Derived.WalkLawsBesides
namespace Go.Proofs.YtiilpnoaocfjgaaGreatDoor.operand
open Go.ChangeShapes Go.WideShapes Go.ChangeAt Go.RowKit
set_option linter.unusedVariables false
def ends (n : Int) : Bool := n == 3 || n == 4 || n == 5 || n == 6 || n == 8 || n == 33 || n == 35 || n == 51 || n == 52
theorem spec_ends (n : Int) (w : World) : Calls Tryz.prog 120 #[.int .i64 n] w fun e w' => e = .returned (.bool (ends n)) ∧ w = w' := by
  obtain ⟨v, hv⟩ : ∃ v, v = ends n := ⟨_, rfl⟩
  rw [← hv]
  unfold ends at hv
  have HV := Lib.hid hv
  clear hv
  go_enter Tryz.func120, Tryz.ntmps120
  go_wp2
  all_goals go_ret
  all_goals exact ⟨by rw [HV.out]; simp_all, rfl⟩
theorem impl_ends (n : Int) (w : World) : Calls Tryz.prog 225 #[.int .i64 n] w fun e w' => e = .returned (.bool (ends n)) ∧ w = w' := by
  obtain ⟨v, hv⟩ : ∃ v, v = ends n := ⟨_, rfl⟩
  rw [← hv]
  unfold ends at hv
  have HV := Lib.hid hv
  clear hv
  go_enter Tryz.func225, Tryz.ntmps225
  go_wp2
  all_goals go_ret
  all_goals exact ⟨by rw [HV.out]; simp_all, rfl⟩
def begins (n : Int) : Bool := n == 3 || n == 4 || n == 6 || n == 7 || n == 8 || n == 32 || n == 68
theorem spec_begins (n : Int) (w : World) : Calls Tryz.prog 67 #[.int .i64 n] w fun e w' => e = .returned (.bool (begins n)) ∧ w = w' := by
  obtain ⟨v, hv⟩ : ∃ v, v = begins n := ⟨_, rfl⟩
  rw [← hv]
  unfold begins at hv
  have HV := Lib.hid hv
  clear hv
  go_enter Tryz.func67, Tryz.ntmps67
  go_wp2
  all_goals go_ret
  all_goals exact ⟨by rw [HV.out]; simp_all, rfl⟩
theorem impl_begins (n : Int) (w : World) : Calls Tryz.prog 34 #[.int .i64 n] w fun e w' => e = .returned (.bool (begins n)) ∧ w = w' := by
  obtain ⟨v, hv⟩ : ∃ v, v = begins n := ⟨_, rfl⟩
  rw [← hv]
  unfold begins at hv
  have HV := Lib.hid hv
  clear hv
  go_enter Tryz.func34, Tryz.ntmps34
  go_wp2
  all_goals go_ret
  all_goals exact ⟨by rw [HV.out]; simp_all, rfl⟩
end Go.Proofs.YtiilpnoaocfjgaaGreatDoor.operand
