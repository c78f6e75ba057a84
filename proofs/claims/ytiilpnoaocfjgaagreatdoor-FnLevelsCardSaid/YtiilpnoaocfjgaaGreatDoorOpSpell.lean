/-
  OpSpell of both sides: contracts.
-/
import Derived.Test.YtiilpnoaocfjgaaGreatDoorLevel
import Derived.Test.YtiilpnoaocfjgaaGreatDoorSpell
namespace Go.Proofs.YtiilpnoaocfjgaaGreatDoor.lv
open Go.ChangeShapes Go.WideShapes Go.ChangeAt Go.RowKit
open spell (Held)
set_option linter.unusedVariables false
def isAsg (op : Int) : Bool := op == 54 || chars.inR op 38 43
def isInc (op : Int) : Bool := op == 51 || op == 52
def opSpell (op : Int) : ByteArray := if opLevel op ≠ 0 ∨ isAsg op = true ∨ isInc op = true ∨ op = 61 then spell.spell op else ⟨#[]⟩

theorem spec_asg (op : Int) (w : World) : Calls Tryz.prog 200 #[.int .i64 op] w fun e w' => e = .returned (.bool (isAsg op)) ∧ w = w' := by
  go_enter Tryz.func200, Tryz.ntmps200
  go_wp2_with (go_at_call 86; refine (chars.spec_in _ _ _ _).mono ?_; rintro e w' ⟨rfl, rfl⟩)
  all_goals
    go_ret
    exact ⟨congrArg (fun b => Ending.returned (Value.bool b)) (by simp_all [isAsg]), rfl⟩
theorem impl_asg (op : Int) (w : World) : Calls Tryz.prog 93 #[.int .i64 op] w fun e w' => e = .returned (.bool (isAsg op)) ∧ w = w' := by
  go_enter Tryz.func93, Tryz.ntmps93
  go_wp2
  all_goals
    go_ret
    exact ⟨congrArg (fun b => Ending.returned (Value.bool b)) (by first | (simp_all [isAsg, chars.inR]; done) | (rw [Bool.eq_iff_iff]; simp_all [isAsg, chars.inR]; omega)), rfl⟩
theorem impl_inc (op : Int) (w : World) : Calls Tryz.prog 94 #[.int .i64 op] w fun e w' => e = .returned (.bool (isInc op)) ∧ w = w' := by
  go_enter Tryz.func94, Tryz.ntmps94
  go_wp2
  all_goals
    go_ret
    exact ⟨congrArg (fun b => Ending.returned (Value.bool b)) (by simp_all [isInc]), rfl⟩
theorem ne_facts {x c : Int} (h : ¬ x = c) : (x == c) = false ∧ (x != c) = true := by simp [h]
theorem eq_facts {x c : Int} (h : x = c) : (x == c) = true ∧ (x != c) = false := by subst h; simp

set_option maxHeartbeats 1600000 in
theorem impl_opSpell (op : Int) (w : World) (hh : Held w) : Calls Tryz.prog 38 #[.int .i64 op] w fun e w' => e = .returned (.string (opSpell op)) ∧ Below w.heap.size w w' := by
  have HH := Lib.hid hh
  clear hh
  obtain ⟨L, hL⟩ : ∃ L, opLevel op = L := ⟨_, rfl⟩
  have hr := lev_range op
  rw [hL] at hr
  have HE0 : opSpell op = if L ≠ 0 ∨ isAsg op = true ∨ isInc op = true ∨ op = 61 then spell.spell op else ⟨#[]⟩ := by unfold opSpell; rw [hL]
  by_cases hz : L = 0
  · subst hz
    have HE1 : opSpell op = if isAsg op = true ∨ isInc op = true ∨ op = 61 then spell.spell op else ⟨#[]⟩ := by rw [HE0]; simp
    clear HE0
    cases hA : isAsg op
    · cases hI : isInc op
      · by_cases h6 : op = 61
        · subst h6
          have HE := Lib.hid (HE1.trans (if_pos (.inr (.inr rfl))))
          clear HE1 hr
          go_enter Tryz.func38, Tryz.ntmps38
          go_wp2_with (first | (go_at_call 37; refine (impl_op _ _).mono ?_; rw [hL]; rintro e w1 ⟨rfl, b1⟩) | (go_at_call 93; refine (impl_asg _ _).mono ?_; rw [hA]; rintro e w2 ⟨rfl, rfl⟩) | (go_at_call 94; refine (impl_inc _ _).mono ?_; rw [hI]; rintro e w3 ⟨rfl, rfl⟩) | (go_at_call 95; refine (spell.impl_spell _ _ (HH.out.below b1)).mono ?_; rintro e w4 ⟨rfl, rfl⟩))
          go_ret
          exact ⟨by rw [HE.out]; rfl, b1⟩
        · obtain ⟨q1, q2⟩ := ne_facts h6
          have HE := Lib.hid (HE1.trans (if_neg (by rw [hA, hI]; simp [h6])))
          clear HE1 hr
          go_enter Tryz.func38, Tryz.ntmps38
          go_wp2_with (first | (go_at_call 37; refine (impl_op _ _).mono ?_; rw [hL]; rintro e w1 ⟨rfl, b1⟩) | (go_at_call 93; refine (impl_asg _ _).mono ?_; rw [hA]; rintro e w2 ⟨rfl, rfl⟩) | (go_at_call 94; refine (impl_inc _ _).mono ?_; rw [hI]; rintro e w3 ⟨rfl, rfl⟩) | (go_at_call 95; refine (spell.impl_spell _ _ (HH.out.below b1)).mono ?_; rintro e w4 ⟨rfl, rfl⟩))
          go_ret
          exact ⟨by rw [HE.out]; rfl, b1⟩
      · have HE := Lib.hid (HE1.trans (if_pos (.inr (.inl hI))))
        clear HE1 hr
        go_enter Tryz.func38, Tryz.ntmps38
        go_wp2_with (first | (go_at_call 37; refine (impl_op _ _).mono ?_; rw [hL]; rintro e w1 ⟨rfl, b1⟩) | (go_at_call 93; refine (impl_asg _ _).mono ?_; rw [hA]; rintro e w2 ⟨rfl, rfl⟩) | (go_at_call 94; refine (impl_inc _ _).mono ?_; rw [hI]; rintro e w3 ⟨rfl, rfl⟩) | (go_at_call 95; refine (spell.impl_spell _ _ (HH.out.below b1)).mono ?_; rintro e w4 ⟨rfl, rfl⟩))
        go_ret
        exact ⟨by rw [HE.out]; rfl, b1⟩
    · have HE := Lib.hid (HE1.trans (if_pos (.inl hA)))
      clear HE1 hr
      go_enter Tryz.func38, Tryz.ntmps38
      go_wp2_with (first | (go_at_call 37; refine (impl_op _ _).mono ?_; rw [hL]; rintro e w1 ⟨rfl, b1⟩) | (go_at_call 93; refine (impl_asg _ _).mono ?_; rw [hA]; rintro e w2 ⟨rfl, rfl⟩) | (go_at_call 94; refine (impl_inc _ _).mono ?_; rw [hI]; rintro e w3 ⟨rfl, rfl⟩) | (go_at_call 95; refine (spell.impl_spell _ _ (HH.out.below b1)).mono ?_; rintro e w4 ⟨rfl, rfl⟩))
      go_ret
      exact ⟨by rw [HE.out]; rfl, b1⟩
  · obtain ⟨z1, z2⟩ := ne_facts hz
    have hz2 : 0 < L := by omega
    have HE := Lib.hid (HE0.trans (if_pos (.inl hz)))
    clear HE0
    go_enter Tryz.func38, Tryz.ntmps38
    go_wp2_with (first | (go_at_call 37; refine (impl_op _ _).mono ?_; rw [hL]; rintro e w1 ⟨rfl, b1⟩) | (go_at_call 93; refine (impl_asg _ _).mono ?_; rw [hA]; rintro e w2 ⟨rfl, rfl⟩) | (go_at_call 94; refine (impl_inc _ _).mono ?_; rw [hI]; rintro e w3 ⟨rfl, rfl⟩) | (go_at_call 95; refine (spell.impl_spell _ _ (HH.out.below b1)).mono ?_; rintro e w4 ⟨rfl, rfl⟩))
    go_ret
    exact ⟨by rw [HE.out]; rfl, b1⟩
end Go.Proofs.YtiilpnoaocfjgaaGreatDoor.lv
