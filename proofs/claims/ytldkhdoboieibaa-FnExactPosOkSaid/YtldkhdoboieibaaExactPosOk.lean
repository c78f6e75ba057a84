/-
  'laws.FnExactPosOk' returns true at every position: impl.PosOk and the model spec.PosOk say the same. No condition.
-/
import Derived.Test.YtldkhdoboieibaaRows
import Derived.Test.YtldkhdoboieibaaOpenPs
import Derived.Deep.DeepHandedRow
namespace Go.Proofs.Ytldkhdoboieibaa.lawPosOk
open Go.ChangeShapes Go.WideShapes Go.ChangeAt Go.RowKit
open Go.ChangeMaps (open_string shut_string)
set_option linter.unusedVariables false
set_option maxRecDepth 20000

/-- THE WALK: the law's own text. -/
theorem walk (L : Int) (d i g s : Bool) (w : World) : Calls Try.prog 5 #[.agg #[.int .i64 L, .bool d, .bool i, .bool g, .bool s]] w fun e w' => e = .returned (.bool true) ∧ Below w.heap.size w w' := by
  have H0 := Lib.hid (ps.Px.start w L d i g s 37)
  have B0 := Lib.hid (lv.box_below w (.cells #[.int .i64 L, .bool d, .bool i, .bool g, .bool s] 37))
  obtain ⟨V, hV⟩ : ∃ V, ps.posOk L d = V := ⟨_, rfl⟩
  have HV := Lib.hid hV
  clear hV
  have hv : (V != V) = false := by simp
  go_enter Try.func5, Try.ntmps5
  go_wp2_with fail
  refine (ps.to_pos L d i g s _).mono ?_
  rintro e w1 ⟨rfl, b1⟩
  have H1 := Lib.hid (H0.out.keep b1)
  have B1 := Lib.hid (B0.out.trans (b1.mono B0.out.size))
  clear b1
  go_wp2_with fail
  refine (ps.spec_ok L d i g s _).mono ?_
  rw [HV.out]
  rintro e w2 ⟨rfl, b2⟩
  have H2 := Lib.hid (H1.out.keep b2)
  have B2 := Lib.hid (B1.out.trans (b2.mono B1.out.size))
  clear b2
  obtain ⟨c0, c1, c2, c3, c4, hlt⟩ := H2.out
  go_wp2_with fail
  refine (ps.to_pos L d i g s _).mono ?_
  rintro e w3 ⟨rfl, b3⟩
  have B3 := Lib.hid (B2.out.trans (b3.mono B2.out.size))
  clear b3
  go_wp2_with fail
  refine (ps.impl_ok L d i g s _).mono ?_
  rw [HV.out]
  rintro e w4 ⟨rfl, b4⟩
  have B4 := Lib.hid (B3.out.trans (b4.mono B3.out.size))
  clear b4
  go_wp2
  go_ret
  exact ⟨rfl, B4.out⟩
end Go.Proofs.Ytldkhdoboieibaa.lawPosOk
namespace Go.Proofs.Ytldkhdoboieibaa.lawPosOk
open Go.ChangeShapes Go.WideShapes Go.ChangeAt Go.RowKit
open Go.ChangeMaps (open_string shut_string)
theorem laidOut : laidOutB Try.prog = true := by kernel_rfl
theorem own : ownKnob Try.prog.godebug = none := by kernel_rfl

set_option maxRecDepth 100000 in
theorem lifted (os : Os) (started : os.Started) (H : Type) (enc : TypeId × Value → H) :
    ReturnsInHanded {} Try.checked os 5 .any (Rows.fnExactPosOkSpec.pre6 enc Try.prog Try.f5 Rows.fnExactPosOkRow.domain false) (Rows.fnExactPosOkSpec.post enc Try.prog Try.f5 false true false false) := by
  refine returnsInHanded_of_change (C := Try.checked) own started (by kernel_rfl) Try.func5
    (ChangeSpec.witness6 (enc := enc) (C := Try.checked) false ⟨#[], #[.agg #[.int .i64 0, .bool false, .bool false, .bool false, .bool false]], []⟩ 8 (by kernel_rfl) (by kernel_rfl) (by kernel_rfl) (by kernel_rfl)) ?_
  intro W base args ds gs before hval0 hW hcnd _
  have hval : ∀ (j : Nat) t v, Try.f5.params[j]? = some t → args[j]? = some v → Value.okWide Try.prog W .any base t v := hval0
  have hW' := hW
  obtain ⟨p, q, hA0, hV, rfl, hfz, hnd⟩ := hW
  have hA : DataW.TrodAll enc Try.prog W 0 (fun _ => true) true Try.f5.params.toList args.toList ds p := hA0
  rw [Try.params5] at hA hval
  obtain ⟨v0, vs0, d0, ds0, p0, q0, hargs, rfl, rfl, h0, r0⟩ := trodAll_cons hA
  obtain ⟨rfl, rfl, rfl⟩ := trodAll_nil r0
  obtain rfl : args = #[v0] := by cases args; simp_all
  obtain ⟨rfl, rfl⟩ := trodVars_none hV
  have k0 := h0
  have lt0 := nd.places_lt k0
  obtain ⟨a0l, a0d, a0i, a0g, a0s, rfl⟩ := ps.open_pos (hval 0 37 v0 rfl rfl) h0
  clear hA0 hval0
  refine (walk a0l a0d a0i a0g a0s W).mono fun e W' ⟨he, bel⟩ => ?_
  subst he
  exact ⟨_, rfl, _, _, _, [], _, [], hW', trodAll_mk1 (shut_bool Try.underlying4 _), (trodAll_cons_mk (Below.trod laidOut (by kernel_rfl) (of_decide_eq_true (by kernel_rfl)) k0 bel lt0) trodAll_mk0), rfl, bel.frame _, fun h => by cases h⟩

theorem over : Rows.fnExactPosOkRow.holds Try.pinned (OpenSpec.ofChange Rows.fnExactPosOkSpec) :=
  OpenClaim.holds_of_wide 5 Try.f5 rfl rfl rfl rfl rfl rfl rfl ⟨rfl, rfl, rfl, rfl, rfl⟩ rfl rfl rfl rfl rfl (by kernel_rfl) Try.func5 (by kernel_rfl)
    (of_decide_eq_true (by kernel_rfl)) (by unfold Func.isWrapper; first | (rw [if_pos (by decide +kernel)]; kernel_rfl) | (rw [if_neg (by decide +kernel)]; exact ⟨rfl, rfl⟩))
    (fun os started H enc _ => lifted os started H enc)
end Go.Proofs.Ytldkhdoboieibaa.lawPosOk
namespace Go.Proofs.Ytldkhdoboieibaa
/-- The statement. -/
theorem fnExactPosOk_holds : Rows.FnExactPosOkSaid := lawPosOk.over
end Go.Proofs.Ytldkhdoboieibaa
