/-
  'laws.FnExactDepthOf' returns true at every list of nodes, and leaves it as it was: impl.DepthOf and the model spec.DepthOf give the same number. No condition.
-/
import Derived.Test.YtajmijbidgfcbaaRows
import Derived.Test.YtajmijbidgfcbaaBase
import Derived.Test.YtajmijbidgfcbaaNdEq
import Derived.Test.YtajmijbidgfcbaaOpenNd
import Derived.Test.YtajmijbidgfcbaaDepth
namespace Go.Proofs.Ytajmijbidgfcbaa.lawDepthOf
open Go.ChangeShapes Go.WideShapes Go.ChangeAt Go.RowKit
open nd
set_option linter.unusedVariables false

set_option maxHeartbeats 1600000 in
/-- THE WALK: the law's own text. -/
theorem walk (l : List Nd) (a : Option Addr) (cap : Nat) (w : World) (hc : Lies w.heap.size w a l) (hn : l.length ≤ maxLen) (hm : ∀ t ∈ l, t.fit) :
    Calls Try.prog 7 #[.slice a l.length cap] w fun e w' => e = .returned (.bool true) ∧ Below w.heap.size w w' := by
  have HC := Lib.hid hc
  have HN := Lib.hid hn
  have HM := Lib.hid hm
  clear hc hm hn
  by_cases h1 : ((l.length + tot l : Nat) : Int) ≤ 1048576
  · obtain ⟨L, hL⟩ : ∃ L : Int, L = 1048576 - ((l.length + tot l : Nat) : Int) := ⟨_, rfl⟩
    have H1 := Lib.hid (show sz l 1048576 = L by rw [hL]; exact left_yes h1)
    have hlb : l.length ≤ 1048576 := by omega
    have HKK := Lib.hid (kids_le (l := l) (by omega))
    have z1 : ¬ L < 0 := by omega
    clear h1 hL
    go_enter Try.func7, Try.ntmps7
    go_wp2_with fail
    refine (size_nodes l a cap 1048576 _ (by omega) (by omega) HN.out HC.out HM.out).mono ?_
    rintro e w1 ⟨he, b1⟩
    rw [H1.out] at he
    subst he
    have B1 := Lib.hid b1
    clear b1
    go_wp2_with fail
    refine (to_nodes l a cap _ hlb HKK.out (HC.out.on B1.out (Nat.le_refl _))).mono ?_
    rintro e w3 ⟨rfl, b3, r3, k3⟩
    have B3 := Lib.hid (B1.out.trans (b3.mono B1.out.size))
    have K3 := Lib.hid k3
    clear b3 k3
    go_wp2_with fail
    refine (spec_depth l _ _ _ hlb HKK.out (K3.out.lies)).mono ?_
    rintro e w5 ⟨rfl, b5⟩
    have B5 := Lib.hid (B3.out.trans (b5.mono B3.out.size))
    clear b5
    go_wp2_with fail
    refine (to_nodes l a cap _ hlb HKK.out (HC.out.on B5.out (Nat.le_refl _))).mono ?_
    rintro e w6 ⟨rfl, b6, r6, k6⟩
    have B6 := Lib.hid (B5.out.trans (b6.mono B5.out.size))
    have K6 := Lib.hid k6
    clear b6 k6
    go_wp2_with fail
    refine (impl_depth l _ _ _ hlb HKK.out (K6.out.lies)).mono ?_
    rintro e w8 ⟨rfl, b8⟩
    have B8 := Lib.hid (B6.out.trans (b8.mono B6.out.size))
    have L8 := Lib.hid (K6.out.lies.on b8 (Nat.le_refl _))
    obtain ⟨sm, hsm⟩ : ∃ sm, sm = (depthF l : Int) := ⟨_, rfl⟩
    rw [← hsm]
    have hbb : (sm != sm) = false := by simp
    clear b8 hsm
    go_wp2_with fail
    refine (to_nodes l a cap _ hlb HKK.out (HC.out.on B8.out (Nat.le_refl _))).mono ?_
    rintro e w9 ⟨rfl, b9, r9, k9⟩
    have B9 := Lib.hid (B8.out.trans (b9.mono B8.out.size))
    have K9 := Lib.hid k9
    have L9 := Lib.hid (L8.out.on b9 (Nat.le_refl _))
    clear b9 k9
    go_wp2_with fail
    refine (eq_nodes l l _ _ _ _ _ hlb hlb HKK.out HKK.out L9.out K9.out.lies).mono ?_
    rintro e wa ⟨he, ba⟩
    rw [decide_eq_true rfl] at he
    subst he
    have Ba := Lib.hid (B9.out.trans (ba.mono B9.out.size))
    clear ba
    go_wp2
    go_ret
    exact ⟨rfl, Ba.out⟩
  · have H1 := Lib.hid (show sz l 1048576 = -1 from left_no h1)
    clear h1
    go_enter Try.func7, Try.ntmps7
    go_wp2_with fail
    refine (size_nodes l a cap 1048576 _ (by omega) (by omega) HN.out HC.out HM.out).mono ?_
    rintro e w1 ⟨he, b1⟩
    rw [H1.out] at he
    subst he
    have B1 := Lib.hid b1
    clear b1
    go_wp2
    go_ret
    exact ⟨rfl, B1.out⟩
end Go.Proofs.Ytajmijbidgfcbaa.lawDepthOf
namespace Go.Proofs.Ytajmijbidgfcbaa.lawDepthOf
open Go.ChangeShapes Go.WideShapes Go.ChangeAt Go.RowKit
open Go.ChangeMaps (open_string shut_string)
theorem laidOut : laidOutB Try.prog = true := by kernel_rfl
theorem own : ownKnob Try.prog.godebug = none := by kernel_rfl

set_option maxRecDepth 100000 in
theorem lifted (os : Os) (started : os.Started) (H : Type) (enc : TypeId × Value → H) :
    ReturnsInHanded {} Try.checked os 7 .any (Rows.fnExactDepthOfSpec.pre6 enc Try.prog Try.f7 Rows.fnExactDepthOfRow.domain false) (Rows.fnExactDepthOfSpec.post enc Try.prog Try.f7 false true false false) := by
  refine returnsInHanded_of_change (C := Try.checked) own started (by kernel_rfl) Try.func7
    (ChangeSpec.witness6 (enc := enc) (C := Try.checked) false ⟨#[], #[.slice none 0 0], []⟩ 8 (by kernel_rfl) (by kernel_rfl) (by kernel_rfl) (by kernel_rfl)) ?_
  intro W base args ds gs before hval0 hW hcnd _
  have hval : ∀ (j : Nat) t v, Try.f7.params[j]? = some t → args[j]? = some v → Value.okWide Try.prog W .any base t v := hval0
  have hW' := hW
  obtain ⟨p, q, hA0, hV, rfl, hfz, hnd⟩ := hW
  have hA : DataW.TrodAll enc Try.prog W 0 (fun _ => true) true Try.f7.params.toList args.toList ds p := hA0
  rw [Try.params7] at hA hval
  obtain ⟨v0, vs0, d0, ds0, p0, q0, hargs, rfl, rfl, h0, r0⟩ := trodAll_cons hA
  obtain ⟨rfl, rfl, rfl⟩ := trodAll_nil r0
  obtain rfl : args = #[v0] := by cases args; simp_all
  obtain ⟨rfl, rfl⟩ := trodVars_none hV
  have k0 := h0
  have lt0 := nd.places_lt k0
  obtain ⟨c0, cap0, a0, rfl, n0, w0, m0⟩ := nd.open_nodes (hval 0 22 v0 rfl rfl) h0
  clear hA0 hval0
  refine (walk a0 c0 cap0 W w0 n0 m0).mono fun e W' ⟨he, bel⟩ => ?_
  subst he
  exact ⟨_, rfl, _, _, _, [], _, [], hW', trodAll_mk1 (shut_bool Try.underlying4 _), (trodAll_cons_mk (Below.trod laidOut (by kernel_rfl) (of_decide_eq_true (by kernel_rfl)) k0 bel lt0) trodAll_mk0), rfl, bel.frame _, fun h => by cases h⟩

theorem over : Rows.fnExactDepthOfRow.holds Try.pinned (OpenSpec.ofChange Rows.fnExactDepthOfSpec) :=
  OpenClaim.holds_of_wide 7 Try.f7 rfl rfl rfl rfl rfl rfl rfl ⟨rfl, rfl, rfl, rfl, rfl⟩ rfl rfl rfl rfl rfl (by kernel_rfl) Try.func7 (by kernel_rfl)
    (of_decide_eq_true (by kernel_rfl)) (by unfold Func.isWrapper; first | (rw [if_pos (by decide +kernel)]; kernel_rfl) | (rw [if_neg (by decide +kernel)]; exact ⟨rfl, rfl⟩))
    (fun os started H enc _ => lifted os started H enc)
end Go.Proofs.Ytajmijbidgfcbaa.lawDepthOf
namespace Go.Proofs.Ytajmijbidgfcbaa
/-- The statement. -/
theorem fnExactDepthOf_holds : Rows.FnExactDepthOfSaid := lawDepthOf.over
end Go.Proofs.Ytajmijbidgfcbaa
