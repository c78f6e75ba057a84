/-
  'laws.FnExactOperands' returns true at every list of tokens, and leaves it as it was: impl.Operands and the model spec.Operands give the same number. No condition.
-/
import Derived.Test.YtiilpnoaocfjgaaRows
import Derived.Test.YtiilpnoaocfjgaaBase
import Derived.Test.YtiilpnoaocfjgaaTk
import Derived.Test.YtiilpnoaocfjgaaOpenTk
import Derived.Test.YtiilpnoaocfjgaaOperands
namespace Go.Proofs.Ytiilpnoaocfjgaa.lawOperands
open Go.ChangeShapes Go.WideShapes Go.ChangeAt Go.RowKit
open tk
set_option linter.unusedVariables false

theorem sz_fit {l : List Tk} {left : Nat} (h : l.length + tot l ≤ left) : sz l left = ((left - (l.length + tot l) : Nat) : Int) := by
  unfold sz left1
  rw [if_pos h]
  omega
theorem sz_no {l : List Tk} {left : Nat} (h : ¬ l.length + tot l ≤ left) : sz l left = -1 := by
  unfold sz left1
  rw [if_neg h]

set_option maxHeartbeats 1600000 in
/-- THE WALK: the law's own text. -/
theorem walk (l : List Tk) (a : Option Addr) (cap : Nat) (w : World) (hc : Lies w.heap.size w a l) (hn : l.length ≤ maxLen) (hm : ∀ t ∈ l, t.s.size ≤ maxLen) :
    Calls Try.prog 3 #[.slice a l.length cap] w fun e w' => e = .returned (.bool true) ∧ Below w.heap.size w w' := by
  have HC := Lib.hid hc
  have HN := Lib.hid hn
  have HM := Lib.hid hm
  clear hc hm hn
  by_cases h1 : l.length + tot l ≤ 1048576
  · obtain ⟨L, hL⟩ : ∃ L : Nat, L = 1048576 - (l.length + tot l) := ⟨_, rfl⟩
    have H1 := Lib.hid (show sz l 1048576 = (L : Int) by rw [sz_fit h1, ← hL])
    have hlb : l.length ≤ 1048576 := by omega
    have z1 : ¬ (L : Int) < 0 := by omega
    clear h1 hL
    go_enter Try.func3, Try.ntmps3
    go_wp2_with fail
    refine (size_toks l a cap 1048576 _ (by omega) HN.out HC.out HM.out).mono ?_
    rintro e w1 ⟨he, b1⟩
    rw [H1.out] at he
    subst he
    have B1 := Lib.hid b1
    have C1 := Lib.hid ((HC.out.keep b1 (Nat.le_refl _)).up b1.size)
    clear b1
    go_wp2_with fail
    refine (to_toks l a cap _ hlb C1.out).mono ?_
    rintro e w3 ⟨rfl, b3, k3⟩
    have B3 := Lib.hid (B1.out.trans (b3.mono B1.out.size))
    have K3 := Lib.hid k3
    have C3 := Lib.hid ((C1.out.keep b3 (Nat.le_refl _)).up b3.size)
    clear b3 k3
    go_wp2_with fail
    refine (yd.spec_operands l _ _ _ hlb K3.out.lies).mono ?_
    rintro e w5 ⟨rfl, b5⟩
    have B5 := Lib.hid (B3.out.trans (b5.mono B3.out.size))
    have C5 := Lib.hid ((C3.out.keep b5 (Nat.le_refl _)).up b5.size)
    clear b5
    go_wp2_with fail
    refine (to_toks l a cap _ hlb C5.out).mono ?_
    rintro e w6 ⟨rfl, b6, k6⟩
    have B6 := Lib.hid (B5.out.trans (b6.mono B5.out.size))
    have K6 := Lib.hid k6
    have C6 := Lib.hid ((C5.out.keep b6 (Nat.le_refl _)).up b6.size)
    clear b6 k6
    go_wp2_with fail
    refine (yd.impl_operands l _ _ _ hlb K6.out.lies).mono ?_
    rintro e w8 ⟨rfl, b8⟩
    have B8 := Lib.hid (B6.out.trans (b8.mono B6.out.size))
    have L8 := Lib.hid ((K6.out.lies.keep b8 (Nat.le_refl _)).up b8.size)
    have C8 := Lib.hid ((C6.out.keep b8 (Nat.le_refl _)).up b8.size)
    obtain ⟨sm, hsm⟩ : ∃ sm, sm = ((yd.oc l l.length : Nat) : Int) := ⟨_, rfl⟩
    rw [← hsm]
    have hbb : (sm != sm) = false := by simp
    clear b8 hsm
    go_wp2_with fail
    refine (to_toks l a cap _ hlb C8.out).mono ?_
    rintro e w9 ⟨rfl, b9, k9⟩
    have B9 := Lib.hid (B8.out.trans (b9.mono B8.out.size))
    have K9 := Lib.hid k9
    have L9 := Lib.hid ((L8.out.keep b9 (Nat.le_refl _)).up b9.size)
    clear b9 k9
    go_wp2_with fail
    refine (eq_toks l l _ _ _ _ _ hlb hlb L9.out K9.out.lies).mono ?_
    rintro e wa ⟨he, ba⟩
    rw [decide_eq_true rfl] at he
    subst he
    have Ba := Lib.hid (B9.out.trans (ba.mono B9.out.size))
    clear ba
    go_wp2
    go_ret
    exact ⟨rfl, Ba.out⟩
  · have H1 := Lib.hid (show sz l 1048576 = -1 from sz_no h1)
    clear h1
    go_enter Try.func3, Try.ntmps3
    go_wp2_with fail
    refine (size_toks l a cap 1048576 _ (by omega) HN.out HC.out HM.out).mono ?_
    rintro e w1 ⟨he, b1⟩
    rw [H1.out] at he
    subst he
    have B1 := Lib.hid b1
    clear b1
    go_wp2
    go_ret
    exact ⟨rfl, B1.out⟩
end Go.Proofs.Ytiilpnoaocfjgaa.lawOperands
namespace Go.Proofs.Ytiilpnoaocfjgaa.lawOperands
open Go.ChangeShapes Go.WideShapes Go.ChangeAt Go.RowKit
open Go.ChangeMaps (open_string shut_string)
theorem laidOut : laidOutB Try.prog = true := by kernel_rfl
theorem own : ownKnob Try.prog.godebug = none := by kernel_rfl

set_option maxRecDepth 100000 in
theorem lifted (os : Os) (started : os.Started) (H : Type) (enc : TypeId × Value → H) :
    ReturnsInHanded {} Try.checked os 3 .any (Rows.fnExactOperandsSpec.pre6 enc Try.prog Try.f3 Rows.fnExactOperandsRow.domain false) (Rows.fnExactOperandsSpec.post enc Try.prog Try.f3 false true false false) := by
  refine returnsInHanded_of_change (C := Try.checked) own started (by kernel_rfl) Try.func3
    (ChangeSpec.witness6 (enc := enc) (C := Try.checked) false ⟨#[], #[.slice none 0 0], []⟩ 8 (by kernel_rfl) (by kernel_rfl) (by kernel_rfl) (by kernel_rfl)) ?_
  intro W base args ds gs before hval0 hW hcnd _
  have hval : ∀ (j : Nat) t v, Try.f3.params[j]? = some t → args[j]? = some v → Value.okWide Try.prog W .any base t v := hval0
  have hW' := hW
  obtain ⟨p, q, hA0, hV, rfl, hfz, hnd⟩ := hW
  have hA : DataW.TrodAll enc Try.prog W 0 (fun _ => true) true Try.f3.params.toList args.toList ds p := hA0
  rw [Try.params3] at hA hval
  obtain ⟨v0, vs0, d0, ds0, p0, q0, hargs, rfl, rfl, h0, r0⟩ := trodAll_cons hA
  obtain ⟨rfl, rfl, rfl⟩ := trodAll_nil r0
  obtain rfl : args = #[v0] := by cases args; simp_all
  obtain ⟨rfl, rfl⟩ := trodVars_none hV
  have k0 := h0
  have lt0 := tk.places_lt k0
  obtain ⟨c0, cap0, a0, rfl, n0, w0, m0⟩ := tk.open_toks (hval 0 22 v0 rfl rfl) h0
  clear hA0 hval0
  refine (walk a0 c0 cap0 W w0 n0 m0).mono fun e W' ⟨he, bel⟩ => ?_
  subst he
  exact ⟨_, rfl, _, _, _, [], _, [], hW', trodAll_mk1 (shut_bool Try.underlying4 _), (trodAll_cons_mk (Below.trod laidOut (by kernel_rfl) (of_decide_eq_true (by kernel_rfl)) k0 bel lt0) trodAll_mk0), rfl, bel.frame _, fun h => by cases h⟩

theorem over : Rows.fnExactOperandsRow.holds Try.pinned (OpenSpec.ofChange Rows.fnExactOperandsSpec) :=
  OpenClaim.holds_of_wide 3 Try.f3 rfl rfl rfl rfl rfl rfl rfl ⟨rfl, rfl, rfl, rfl, rfl⟩ rfl rfl rfl rfl rfl (by kernel_rfl) Try.func3 (by kernel_rfl)
    (of_decide_eq_true (by kernel_rfl)) (by unfold Func.isWrapper; first | (rw [if_pos (by decide +kernel)]; kernel_rfl) | (rw [if_neg (by decide +kernel)]; exact ⟨rfl, rfl⟩))
    (fun os started H enc _ => lifted os started H enc)
end Go.Proofs.Ytiilpnoaocfjgaa.lawOperands
namespace Go.Proofs.Ytiilpnoaocfjgaa
/-- The statement. -/
theorem fnExactOperands_holds : Rows.FnExactOperandsSaid := lawOperands.over
end Go.Proofs.Ytiilpnoaocfjgaa
