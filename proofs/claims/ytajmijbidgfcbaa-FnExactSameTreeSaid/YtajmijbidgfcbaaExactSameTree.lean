/-
  'laws.FnExactSameTree' returns true at every two lists of nodes, and leaves them as they were: impl.SameTree and the model spec.SameTree give the same bool. No condition.
-/
import Derived.Test.YtajmijbidgfcbaaRows
import Derived.Test.YtajmijbidgfcbaaBase
import Derived.Test.YtajmijbidgfcbaaNdEq
import Derived.Test.YtajmijbidgfcbaaOpenNd
import Derived.Test.YtajmijbidgfcbaaSameFunc
namespace Go.Proofs.Ytajmijbidgfcbaa.lawSameTree
open Go.ChangeShapes Go.WideShapes Go.ChangeAt Go.RowKit
open nd
set_option linter.unusedVariables false

set_option maxHeartbeats 1600000 in
/-- THE WALK: the law's own text. -/
theorem walk (l : List Nd) (a : Option Addr) (cap : Nat) (m : List Nd) (a' : Option Addr) (cap' : Nat) (w : World) (hc : Lies w.heap.size w a l) (hn : l.length ≤ maxLen) (hm : ∀ t ∈ l, t.fit)
    (hc' : Lies w.heap.size w a' m) (hn' : m.length ≤ maxLen) (hm' : ∀ t ∈ m, t.fit) :
    Calls Try.prog 8 #[.slice a l.length cap, .slice a' m.length cap'] w fun e w' => e = .returned (.bool true) ∧ Below w.heap.size w w' := by
  have HC := Lib.hid hc
  have HC' := Lib.hid hc'
  have HN := Lib.hid hn
  have HN' := Lib.hid hn'
  have HM := Lib.hid hm
  have HM' := Lib.hid hm'
  clear hc hc' hm hm' hn hn'
  by_cases h1 : ((l.length + tot l : Nat) : Int) ≤ 1048576
  · obtain ⟨L, hL⟩ : ∃ L : Int, L = 1048576 - ((l.length + tot l : Nat) : Int) := ⟨_, rfl⟩
    have H1 := Lib.hid (show sz l 1048576 = L by rw [hL]; exact left_yes h1)
    have hLb : L ≤ 1048576 := by omega
    have hL0 : 0 ≤ L := by omega
    have hlb : l.length ≤ 1048576 := by omega
    have HKK := Lib.hid (kids_le (l := l) (by omega))
    have z1 : ¬ L < 0 := by omega
    clear h1 hL
    by_cases h2 : ((m.length + tot m : Nat) : Int) ≤ L
    · obtain ⟨M, hM⟩ : ∃ M : Int, M = L - ((m.length + tot m : Nat) : Int) := ⟨_, rfl⟩
      have H2 := Lib.hid (show sz m L = M by rw [hM]; exact left_yes h2)
      have hmb : m.length ≤ 1048576 := by omega
      have HKK' := Lib.hid (kids_le (l := m) (by omega))
      have z2 : ¬ M < 0 := by omega
      clear h2 hM
      go_enter Try.func8, Try.ntmps8
      go_wp2_with fail
      refine (size_nodes l a cap 1048576 _ (by omega) (by omega) HN.out HC.out HM.out).mono ?_
      rintro e w1 ⟨he, b1⟩
      rw [H1.out] at he
      subst he
      have B1 := Lib.hid b1
      clear b1
      go_wp2_with fail
      refine (size_nodes m a' cap' L _ hL0 hLb HN'.out (HC'.out.on B1.out (Nat.le_refl _)) HM'.out).mono ?_
      rintro e w2 ⟨he, b2⟩
      rw [H2.out] at he
      subst he
      have B2 := Lib.hid (B1.out.trans (b2.mono B1.out.size))
      clear b2
      go_wp2_with fail
      refine (to_nodes l a cap _ hlb HKK.out (HC.out.on B2.out (Nat.le_refl _))).mono ?_
      rintro e w3 ⟨rfl, b3, r3, k3⟩
      have B3 := Lib.hid (B2.out.trans (b3.mono B2.out.size))
      have L3 := Lib.hid k3.lies
      clear b3 k3
      go_wp2_with fail
      refine (to_nodes m a' cap' _ hmb HKK'.out (HC'.out.on B3.out (Nat.le_refl _))).mono ?_
      rintro e w4 ⟨rfl, b4, r4, k4⟩
      have B4 := Lib.hid (B3.out.trans (b4.mono B3.out.size))
      have L4 := Lib.hid k4.lies
      have L34 := Lib.hid (L3.out.on b4 (Nat.le_refl _))
      clear b4 k4
      go_wp2_with fail
      refine (spec_same l m _ _ _ _ _ hlb hmb HKK.out HKK'.out L34.out L4.out).mono ?_
      rintro e w5 ⟨rfl, b5⟩
      have B5 := Lib.hid (B4.out.trans (b5.mono B4.out.size))
      clear b5
      go_wp2_with fail
      refine (to_nodes l a cap _ hlb HKK.out (HC.out.on B5.out (Nat.le_refl _))).mono ?_
      rintro e w6 ⟨rfl, b6, r6, k6⟩
      have B6 := Lib.hid (B5.out.trans (b6.mono B5.out.size))
      have L6 := Lib.hid k6.lies
      clear b6 k6
      go_wp2_with fail
      refine (to_nodes m a' cap' _ hmb HKK'.out (HC'.out.on B6.out (Nat.le_refl _))).mono ?_
      rintro e w7 ⟨rfl, b7, r7, k7⟩
      have B7 := Lib.hid (B6.out.trans (b7.mono B6.out.size))
      have L7 := Lib.hid k7.lies
      have L67 := Lib.hid (L6.out.on b7 (Nat.le_refl _))
      clear b7 k7
      go_wp2_with fail
      refine (impl_same l m _ _ _ _ _ hlb hmb HKK.out HKK'.out L67.out L7.out).mono ?_
      rintro e w8 ⟨rfl, b8⟩
      have B8 := Lib.hid (B7.out.trans (b8.mono B7.out.size))
      have L68 := Lib.hid (L67.out.on b8 (Nat.le_refl _))
      have L78 := Lib.hid (L7.out.on b8 (Nat.le_refl _))
      obtain ⟨sm, hsm⟩ : ∃ sm, sm = decide (l = m) := ⟨_, rfl⟩
      rw [← hsm]
      have hbb : (sm != sm) = false := by simp
      clear b8 hsm
      go_wp2_with fail
      refine (to_nodes l a cap _ hlb HKK.out (HC.out.on B8.out (Nat.le_refl _))).mono ?_
      rintro e w9 ⟨rfl, b9, r9, k9⟩
      have B9 := Lib.hid (B8.out.trans (b9.mono B8.out.size))
      have L9 := Lib.hid k9.lies
      have L69 := Lib.hid (L68.out.on b9 (Nat.le_refl _))
      have L79 := Lib.hid (L78.out.on b9 (Nat.le_refl _))
      clear b9 k9
      go_wp2_with fail
      refine (eq_nodes l l _ _ _ _ _ hlb hlb HKK.out HKK.out L69.out L9.out).mono ?_
      rintro e wa ⟨he, ba⟩
      rw [decide_eq_true rfl] at he
      subst he
      have Ba := Lib.hid (B9.out.trans (ba.mono B9.out.size))
      have L7a := Lib.hid (L79.out.on ba (Nat.le_refl _))
      clear ba
      go_wp2_with fail
      refine (to_nodes m a' cap' _ hmb HKK'.out (HC'.out.on Ba.out (Nat.le_refl _))).mono ?_
      rintro e wb ⟨rfl, bb, rb, kb⟩
      have Bb := Lib.hid (Ba.out.trans (bb.mono Ba.out.size))
      have Lb := Lib.hid kb.lies
      have L7b := Lib.hid (L7a.out.on bb (Nat.le_refl _))
      clear bb kb
      go_wp2_with fail
      refine (eq_nodes m m _ _ _ _ _ hmb hmb HKK'.out HKK'.out L7b.out Lb.out).mono ?_
      rintro e wc ⟨he, bc⟩
      rw [decide_eq_true rfl] at he
      subst he
      have Bc := Lib.hid (Bb.out.trans (bc.mono Bb.out.size))
      clear bc
      go_wp2
      go_ret
      exact ⟨rfl, Bc.out⟩
    · have H2 := Lib.hid (show sz m L = -1 from left_no h2)
      clear h2
      go_enter Try.func8, Try.ntmps8
      go_wp2_with fail
      refine (size_nodes l a cap 1048576 _ (by omega) (by omega) HN.out HC.out HM.out).mono ?_
      rintro e w1 ⟨he, b1⟩
      rw [H1.out] at he
      subst he
      have B1 := Lib.hid b1
      clear b1
      go_wp2_with fail
      refine (size_nodes m a' cap' L _ hL0 hLb HN'.out (HC'.out.on B1.out (Nat.le_refl _)) HM'.out).mono ?_
      rintro e w2 ⟨he, b2⟩
      rw [H2.out] at he
      subst he
      have B2 := Lib.hid (B1.out.trans (b2.mono B1.out.size))
      clear b2
      go_wp2
      go_ret
      exact ⟨rfl, B2.out⟩
  · have H1 := Lib.hid (show sz l 1048576 = -1 from left_no h1)
    clear h1
    go_enter Try.func8, Try.ntmps8
    go_wp2_with fail
    refine (size_nodes l a cap 1048576 _ (by omega) (by omega) HN.out HC.out HM.out).mono ?_
    rintro e w1 ⟨he, b1⟩
    rw [H1.out] at he
    subst he
    have B1 := Lib.hid b1
    clear b1
    go_wp2
    go_ret
    exact ⟨rfl, B1.out⟩
end Go.Proofs.Ytajmijbidgfcbaa.lawSameTree
namespace Go.Proofs.Ytajmijbidgfcbaa.lawSameTree
open Go.ChangeShapes Go.WideShapes Go.ChangeAt Go.RowKit
open Go.ChangeMaps (open_string shut_string)
theorem laidOut : laidOutB Try.prog = true := by kernel_rfl
theorem own : ownKnob Try.prog.godebug = none := by kernel_rfl

set_option maxRecDepth 100000 in
theorem lifted (os : Os) (started : os.Started) (H : Type) (enc : TypeId × Value → H) :
    ReturnsInHanded {} Try.checked os 8 .any (Rows.fnExactSameTreeSpec.pre6 enc Try.prog Try.f8 Rows.fnExactSameTreeRow.domain false) (Rows.fnExactSameTreeSpec.post enc Try.prog Try.f8 false true false false) := by
  refine returnsInHanded_of_change (C := Try.checked) own started (by kernel_rfl) Try.func8
    (ChangeSpec.witness6 (enc := enc) (C := Try.checked) false ⟨#[], #[.slice none 0 0, .slice none 0 0], []⟩ 8 (by kernel_rfl) (by kernel_rfl) (by kernel_rfl) (by kernel_rfl)) ?_
  intro W base args ds gs before hval0 hW hcnd _
  have hval : ∀ (j : Nat) t v, Try.f8.params[j]? = some t → args[j]? = some v → Value.okWide Try.prog W .any base t v := hval0
  have hW' := hW
  obtain ⟨p, q, hA0, hV, rfl, hfz, hnd⟩ := hW
  have hA : DataW.TrodAll enc Try.prog W 0 (fun _ => true) true Try.f8.params.toList args.toList ds p := hA0
  rw [Try.params8] at hA hval
  obtain ⟨v0, vs0, d0, ds0, p0, q0, hargs, rfl, rfl, h0, r0⟩ := trodAll_cons hA
  obtain ⟨v1, vs1, d1, ds1, p1, q1, rfl, rfl, rfl, h1, r1⟩ := trodAll_cons r0
  obtain ⟨rfl, rfl, rfl⟩ := trodAll_nil r1
  obtain rfl : args = #[v0, v1] := by cases args; simp_all
  obtain ⟨rfl, rfl⟩ := trodVars_none hV
  have k0 := h0
  have lt0 := nd.places_lt k0
  obtain ⟨c0, cap0, a0, rfl, n0, w0, m0⟩ := nd.open_nodes (hval 0 22 v0 rfl rfl) h0
  have k1 := h1
  have lt1 := nd.places_lt k1
  obtain ⟨c1, cap1, a1, rfl, n1, w1, m1⟩ := nd.open_nodes (hval 1 22 v1 rfl rfl) h1
  clear hA0 hval0
  refine (walk a0 c0 cap0 a1 c1 cap1 W w0 n0 m0 w1 n1 m1).mono fun e W' ⟨he, bel⟩ => ?_
  subst he
  exact ⟨_, rfl, _, _, _, [], _, [], hW', trodAll_mk1 (shut_bool Try.underlying4 _), (trodAll_cons_mk (Below.trod laidOut (by kernel_rfl) (of_decide_eq_true (by kernel_rfl)) k0 bel lt0) (trodAll_cons_mk (Below.trod laidOut (by kernel_rfl) (of_decide_eq_true (by kernel_rfl)) k1 bel lt1) trodAll_mk0)), rfl, bel.frame _, fun h => by cases h⟩

theorem over : Rows.fnExactSameTreeRow.holds Try.pinned (OpenSpec.ofChange Rows.fnExactSameTreeSpec) :=
  OpenClaim.holds_of_wide 8 Try.f8 rfl rfl rfl rfl rfl rfl rfl ⟨rfl, rfl, rfl, rfl, rfl⟩ rfl rfl rfl rfl rfl (by kernel_rfl) Try.func8 (by kernel_rfl)
    (of_decide_eq_true (by kernel_rfl)) (by unfold Func.isWrapper; first | (rw [if_pos (by decide +kernel)]; kernel_rfl) | (rw [if_neg (by decide +kernel)]; exact ⟨rfl, rfl⟩))
    (fun os started H enc _ => lifted os started H enc)
end Go.Proofs.Ytajmijbidgfcbaa.lawSameTree
namespace Go.Proofs.Ytajmijbidgfcbaa
/-- The statement. -/
theorem fnExactSameTree_holds : Rows.FnExactSameTreeSaid := lawSameTree.over
end Go.Proofs.Ytajmijbidgfcbaa
