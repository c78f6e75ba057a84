/-
  'laws.FnExactTop' returns true: impl.Top and the model spec.Top give the same position. No condition.
-/
import Derived.Test.YtldkhdoboieibaaRows
import Derived.Test.YtldkhdoboieibaaOpenPs
import Derived.Deep.DeepHandedRow
namespace Go.Proofs.Ytldkhdoboieibaa.lawTop
open Go.ChangeShapes Go.WideShapes Go.ChangeAt Go.RowKit
open Go.ChangeMaps (open_string shut_string)
set_option linter.unusedVariables false
set_option maxRecDepth 20000

/-- THE WALK: the law's own text. -/
theorem walk (w : World) : Calls Try.prog 4 #[] w fun e w' => e = .returned (.bool true) ∧ Below w.heap.size w w' := by
  go_enter Try.func4, Try.ntmps4
  go_wp2_with fail
  refine (ps.spec_top _).mono ?_
  rintro e w1 ⟨rfl, b1⟩
  go_wp2_with fail
  have H1 := Lib.hid (ps.Px.start w1 1 false false false false 28)
  have B1 := Lib.hid (b1.trans ((lv.box_below w1 (.cells #[.int .i64 1, .bool false, .bool false, .bool false, .bool false] 28)).mono b1.size))
  generalize w1.alloc (.cells #[.int .i64 1, .bool false, .bool false, .bool false, .bool false] 28) = W1 at H1 B1 ⊢
  refine (ps.impl_top _).mono ?_
  rintro e w2 ⟨rfl, b2⟩
  have H2 := Lib.hid (H1.out.keep b2)
  have B2 := Lib.hid (B1.out.trans (b2.mono B1.out.size))
  clear b1 b2
  obtain ⟨c0, c1, c2, c3, c4, hlt⟩ := H2.out
  go_wp2_with fail
  refine (ps.eq_same 1 false false false false _).mono ?_
  rintro e w3 ⟨rfl, b3⟩
  have B3 := Lib.hid (B2.out.trans (((lv.box_below w2 (.cells #[.int .i64 1, .bool false, .bool false, .bool false, .bool false] 28)).trans (b3.mono (by simp))).mono B2.out.size))
  clear b3
  go_wp2
  go_ret
  exact ⟨rfl, B3.out⟩
end Go.Proofs.Ytldkhdoboieibaa.lawTop
namespace Go.Proofs.Ytldkhdoboieibaa.lawTop
open Go.ChangeShapes Go.WideShapes Go.ChangeAt Go.RowKit
open Go.ChangeMaps (open_string shut_string)
theorem own : ownKnob Try.prog.godebug = none := by kernel_rfl

set_option maxRecDepth 100000 in
theorem lifted (os : Os) (started : os.Started) (H : Type) (enc : TypeId × Value → H) :
    ReturnsInHanded {} Try.checked os 4 .any (Rows.fnExactTopSpec.pre6 enc Try.prog Try.f4 Rows.fnExactTopRow.domain false) (Rows.fnExactTopSpec.post enc Try.prog Try.f4 false true false false) := by
  refine returnsInHanded_of_change (C := Try.checked) own started (by kernel_rfl) Try.func4
    (ChangeSpec.witness6 (enc := enc) (C := Try.checked) false ⟨#[], #[], []⟩ 8 (by kernel_rfl) (by kernel_rfl) (by kernel_rfl) (by kernel_rfl)) ?_
  intro W base args ds gs before hval0 hW hcnd _
  have hval : ∀ (j : Nat) t v, Try.f4.params[j]? = some t → args[j]? = some v → Value.okWide Try.prog W .any base t v := hval0
  have hW' := hW
  obtain ⟨p, q, hA0, hV, rfl, hfz, hnd⟩ := hW
  have hA : DataW.TrodAll enc Try.prog W 0 (fun _ => true) true Try.f4.params.toList args.toList ds p := hA0
  rw [Try.params4] at hA hval
  obtain ⟨hargs, rfl, rfl⟩ := trodAll_nil hA
  obtain rfl : args = #[] := by cases args; simp_all
  obtain ⟨rfl, rfl⟩ := trodVars_none hV
  clear hA0 hval0
  refine (walk  W).mono fun e W' ⟨he, bel⟩ => ?_
  subst he
  exact ⟨_, rfl, _, _, _, [], _, [], hW', trodAll_mk1 (shut_bool Try.underlying4 _), trodAll_mk0, rfl, bel.frame _, fun h => by cases h⟩

theorem over : Rows.fnExactTopRow.holds Try.pinned (OpenSpec.ofChange Rows.fnExactTopSpec) :=
  OpenClaim.holds_of_wide 4 Try.f4 rfl rfl rfl rfl rfl rfl rfl ⟨rfl, rfl, rfl, rfl, rfl⟩ rfl rfl rfl rfl rfl (by kernel_rfl) Try.func4 (by kernel_rfl)
    (of_decide_eq_true (by kernel_rfl)) (by unfold Func.isWrapper; first | (rw [if_pos (by decide +kernel)]; kernel_rfl) | (rw [if_neg (by decide +kernel)]; exact ⟨rfl, rfl⟩))
    (fun os started H enc _ => lifted os started H enc)
end Go.Proofs.Ytldkhdoboieibaa.lawTop
namespace Go.Proofs.Ytldkhdoboieibaa
/-- The statement. -/
theorem fnExactTop_holds : Rows.FnExactTopSaid := lawTop.over
end Go.Proofs.Ytldkhdoboieibaa
