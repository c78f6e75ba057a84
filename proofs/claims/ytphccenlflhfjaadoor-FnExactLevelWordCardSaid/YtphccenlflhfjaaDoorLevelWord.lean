/-
  LevelWord of both sides: contracts; what impl's table of level words holds.
-/
import Derived.Test.YtphccenlflhfjaaDoorRows
import Derived.Test.YtphccenlflhfjaaDoorBase
import Derived.Test.YtphccenlflhfjaaDoorVars
import Derived.Test.YtphccenlflhfjaaDoorChars
import Derived.WalkKit
import Derived.ProofKit
import Derived.OpenShut
import Derived.ShutString
import Derived.ChangeOld
import Derived.Below
import Derived.Laws.Rows
import Derived.WalkSpells
import Derived.WalkLawsBesides
namespace Go.Proofs.YtphccenlflhfjaaDoor.lvw
open Go.ChangeShapes Go.WideShapes Go.ChangeAt Go.RowKit
set_option linter.unusedVariables false
def words : List ByteArray := [⟨#[]⟩, ⟨#[97, 115, 115, 105, 103, 110]⟩, ⟨#[99, 111, 110, 100]⟩, ⟨#[111, 114]⟩, ⟨#[97, 110, 100]⟩, ⟨#[105, 110]⟩, ⟨#[109, 97, 116, 99, 104]⟩, ⟨#[99, 111, 109, 112, 97, 114, 101]⟩, ⟨#[99, 97, 116]⟩, ⟨#[97, 100, 100]⟩, ⟨#[109, 117, 108]⟩, ⟨#[117, 110, 97, 114, 121]⟩, ⟨#[112, 111, 119]⟩, ⟨#[105, 110, 99, 114]⟩, ⟨#[102, 105, 101, 108, 100]⟩, ⟨#[112, 114, 105, 109, 97, 114, 121]⟩]
theorem gL : Tryd.prog.globalNamed "loop.example/g01543/impl.levelWords" = some 0 := by kernel_rfl
theorem gLType : (Tryd.prog.globals[0]?).map (·.type) = some 29 := by kernel_rfl
theorem cellsL : Tryd.prog.cellsOf 29 = 16 := by kernel_rfl
theorem cellsStr : Tryd.prog.cellsOf 9 = 1 := by kernel_rfl
/-- What impl's walk needs of the package-level variable. -/
structure Held (w : World) : Prop where
  lw : w.var? Tryd.prog "loop.example/g01543/impl.levelWords" = some (Go.Proofs.YtphccenlflhfjaaDoor.strCells words)
theorem Held.below {w w' : World} (h : Held w) (hb : Below w.heap.size w w') : Held w' := ⟨var_stays h.lw hb⟩
theorem held {W : World} {rest : List (String × DataW Unit)} (h : laidMet Tryd.prog (("loop.example/g01543/impl.levelWords", Rows.laid_loop_example_g01543_impl_levelWords) :: rest) W) : Held W :=
  ⟨strs_of_head (l := words) gL gLType Tryd.underlying29 Tryd.underlying9 cellsStr cellsL h⟩
theorem box_below (w : World) (o : Obj) : Below w.heap.size w (w.alloc o) := (Below.refl w.heap.size w).alloc (Nat.le_refl _) o
def levelWord (n : Int) : ByteArray := if 0 ≤ n ∧ n < 16 then words.getD n.toNat ⟨#[]⟩ else ⟨#[]⟩

set_option maxHeartbeats 3200000 in
theorem spec_word (n : Int) (w : World) : Calls Tryd.prog 7 #[.int .i64 n] w fun e w' => e = .returned (.string (levelWord n)) ∧ Below w.heap.size w w' := by
  by_cases h : 1 ≤ n ∧ n ≤ 15
  · obtain rfl | rfl | rfl | rfl | rfl | rfl | rfl | rfl | rfl | rfl | rfl | rfl | rfl | rfl | rfl : n = 1 ∨ n = 2 ∨ n = 3 ∨ n = 4 ∨ n = 5 ∨ n = 6 ∨ n = 7 ∨ n = 8 ∨ n = 9 ∨ n = 10 ∨ n = 11 ∨ n = 12 ∨ n = 13 ∨ n = 14 ∨ n = 15 := by omega
    all_goals
      clear h
      go_enter Tryd.func7, Tryd.ntmps7
      go_wp2
      go_ret
      exact ⟨rfl, box_below _ _⟩
  · have hr : chars.inR n 1 15 = false := by simp [chars.inR]; omega
    have HE := Lib.hid (show levelWord n = ⟨#[]⟩ by
      unfold levelWord
      by_cases h0 : n = 0
      · subst h0; rfl
      · rw [if_neg (by omega)])
    clear h
    go_enter Tryd.func7, Tryd.ntmps7
    go_wp2_with (go_at_call 16; refine (chars.spec_in _ _ _ _).mono ?_; rintro e w' ⟨rfl, rfl⟩)
    go_ret
    exact ⟨by rw [HE.out]; rfl, Below.refl _ _⟩

theorem impl_word (n : Int) (w : World) (hh : Held w) : Calls Tryd.prog 8 #[.int .i64 n] w fun e w' => e = .returned (.string (levelWord n)) ∧ w = w' := by
  have HH := Lib.hid hh
  clear hh
  by_cases h : 0 ≤ n ∧ n < 16
  · obtain ⟨K, rfl⟩ : ∃ K : Nat, n = (K : Int) := ⟨n.toNat, by omega⟩
    have hK : K < 16 := by omega
    have HS := Lib.hid (show levelWord (K : Int) = words.getD K ⟨#[]⟩ by unfold levelWord; rw [if_pos h]; rfl)
    have hcell := str_cell (l := words) gL HH.out.lw K hK
    obtain ⟨x, hx⟩ : ∃ x, x = words.getD K ⟨#[]⟩ := ⟨_, rfl⟩
    have HX := Lib.hid hx
    rw [← hx] at hcell
    have h1 : ¬ (K : Int) < 0 := by omega
    have h2 : ¬ (16 : Int) ≤ (K : Int) := by omega
    clear hx h
    go_enter Tryd.func8, Tryd.ntmps8
    go_wp2
    go_ret
    exact ⟨by rw [HS.out, ← HX.out]; rfl, rfl⟩
  · have HE := Lib.hid (show levelWord n = ⟨#[]⟩ by unfold levelWord; rw [if_neg h])
    by_cases h0 : n < 0
    · clear h
      go_enter Tryd.func8, Tryd.ntmps8
      go_wp2
      go_ret
      exact ⟨by rw [HE.out]; rfl, rfl⟩
    · have h1 : (16 : Int) ≤ n := by omega
      clear h
      go_enter Tryd.func8, Tryd.ntmps8
      go_wp2
      go_ret
      exact ⟨by rw [HE.out]; rfl, rfl⟩
end Go.Proofs.YtphccenlflhfjaaDoor.lvw
