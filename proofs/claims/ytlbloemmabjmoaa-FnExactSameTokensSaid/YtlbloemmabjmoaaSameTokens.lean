/-
  'laws.FnExactSameTokens' returns true at every two lists of tokens, and leaves them as they were: impl.SameTokens and the model spec.SameTokens give the same bool. No condition.
-/
import Derived.Test.YtlbloemmabjmoaaRows
import Derived.Test.YtlbloemmabjmoaaBase
import Derived.Test.YtlbloemmabjmoaaTk
import Derived.Test.YtlbloemmabjmoaaOpenTk
import Derived.Test.YtlbloemmabjmoaaSame
namespace Go.Proofs.Ytlbloemmabjmoaa.lawSameTokens
open Go.ChangeShapes Go.WideShapes Go.ChangeAt Go.RowKit
open tk
set_option linter.unusedVariables false

theorem sz_fit {l : List Tk} {left : Nat} (h : l.length + tot l ≤ left) : sz l left = ((left - (l.length + tot l) : Nat) : Int) := by
  unfold sz left1
  rw [if_pos h]
  omega
theorem sz_no {l : List Tk} {left : Nat} (h : ¬ l.length + tot l ≤ left) : sz l left = -1 := by
  unfold sz left1
  rw [if_neg h]

set_option maxHeartbeats 1600000 in
/-- THE WALK: the law's own text. -/
theorem walk (l : List Tk) (a : Option Addr) (cap : Nat) (m : List Tk) (a' : Option Addr) (cap' : Nat) (w : World) (hc : Lies w.heap.size w a l) (hn : l.length ≤ maxLen) (hm : ∀ t ∈ l, t.s.size ≤ maxLen)
    (hc' : Lies w.heap.size w a' m) (hn' : m.length ≤ maxLen) (hm' : ∀ t ∈ m, t.s.size ≤ maxLen) :
    Calls Try.prog 3 #[.slice a l.length cap, .slice a' m.length cap'] w fun e w' => e = .returned (.bool true) ∧ Below w.heap.size w w' := by
  have HC := Lib.hid hc
  have HC' := Lib.hid hc'
  have HN := Lib.hid hn
  have HN' := Lib.hid hn'
  have HM := Lib.hid hm
  have HM' := Lib.hid hm'
  clear hc hc' hm hm' hn hn'
  by_cases h1 : l.length + tot l ≤ 1048576
  · obtain ⟨L, hL⟩ : ∃ L : Nat, L = 1048576 - (l.length + tot l) := ⟨_, rfl⟩
    have H1 := Lib.hid (show sz l 1048576 = (L : Int) by rw [sz_fit h1, ← hL])
    have hLb : L ≤ 1048576 := by omega
    have hlb : l.length ≤ 1048576 := by omega
    clear h1 hL
    by_cases h2 : m.length + tot m ≤ L
    · obtain ⟨M, hM⟩ : ∃ M : Nat, M = L - (m.length + tot m) := ⟨_, rfl⟩
      have H2 := Lib.hid (show sz m L = (M : Int) by rw [sz_fit h2, ← hM])
      have hmb : m.length ≤ 1048576 := by omega
      have z1 : ¬ (L : Int) < 0 := by omega
      have z2 : ¬ (M : Int) < 0 := by omega
      have HSM := Lib.hid (show ((same l m) != (same l m)) = false by simp)
      clear h2 hM
      go_enter Try.func3, Try.ntmps3
      go_wp2_with fail
      refine (size_toks l a cap 1048576 _ (by omega) HN.out HC.out HM.out).mono ?_
      rintro e w1 ⟨he, b1⟩
      rw [H1.out] at he
      subst he
      have B1 := Lib.hid b1
      have HC1 := Lib.hid (HC'.out.keep b1 (Nat.le_refl _))
      clear b1
      go_wp2_with fail
      refine (size_toks m a' cap' L _ hLb HN'.out (HC1.out.up B1.out.size) HM'.out).mono ?_
      rintro e w2 ⟨he, b2⟩
      rw [H2.out] at he
      subst he
      have B2 := Lib.hid (B1.out.trans (b2.mono B1.out.size))
      clear b2
      go_wp2_with fail
      refine (to_toks l a cap _ hlb ((HC.out.keep B2.out (Nat.le_refl _)).up B2.out.size)).mono ?_
      rintro e w3 ⟨rfl, b3, k3⟩
      have B3 := Lib.hid (B2.out.trans (b3.mono B2.out.size))
      have K3 := Lib.hid k3
      clear b3 k3
      go_wp2_with fail
      refine (to_toks m a' cap' _ hmb ((HC'.out.keep B3.out (Nat.le_refl _)).up B3.out.size)).mono ?_
      rintro e w4 ⟨rfl, b4, k4⟩
      have B4 := Lib.hid (B3.out.trans (b4.mono B3.out.size))
      have K4 := Lib.hid k4
      have K34 := Lib.hid (K3.out.keep b4 K3.out.lt)
      clear b4 k4
      go_wp2_with fail
      refine (spec_same l m _ _ _ _ _ hlb hmb K34.out.lies K4.out.lies).mono ?_
      rintro e w5 ⟨rfl, b5⟩
      have B5 := Lib.hid (B4.out.trans (b5.mono B4.out.size))
      clear b5
      go_wp2_with fail
      refine (to_toks l a cap _ hlb ((HC.out.keep B5.out (Nat.le_refl _)).up B5.out.size)).mono ?_
      rintro e w6 ⟨rfl, b6, k6⟩
      have B6 := Lib.hid (B5.out.trans (b6.mono B5.out.size))
      have K6 := Lib.hid k6
      clear b6 k6
      go_wp2_with fail
      refine (to_toks m a' cap' _ hmb ((HC'.out.keep B6.out (Nat.le_refl _)).up B6.out.size)).mono ?_
      rintro e w7 ⟨rfl, b7, k7⟩
      have B7 := Lib.hid (B6.out.trans (b7.mono B6.out.size))
      have K7 := Lib.hid k7
      have K67 := Lib.hid (K6.out.keep b7 K6.out.lt)
      clear b7 k7
      go_wp2_with fail
      refine (impl_same l m _ _ _ _ _ hlb hmb K67.out.lies K7.out.lies).mono ?_
      rintro e w8 ⟨rfl, b8⟩
      have B8 := Lib.hid (B7.out.trans (b8.mono B7.out.size))
      have K68 := Lib.hid (K67.out.keep b8 K67.out.lt)
      have K78 := Lib.hid (K7.out.keep b8 K7.out.lt)
      obtain ⟨sm, hsm⟩ : ∃ sm, sm = same l m := ⟨_, rfl⟩
      rw [← hsm]
      have hbb : (sm != sm) = false := by simp
      clear b8 hsm
      go_wp2_with fail
      refine (to_toks l a cap _ hlb ((HC.out.keep B8.out (Nat.le_refl _)).up B8.out.size)).mono ?_
      rintro e w9 ⟨rfl, b9, k9⟩
      have B9 := Lib.hid (B8.out.trans (b9.mono B8.out.size))
      have K9 := Lib.hid k9
      have K69 := Lib.hid (K68.out.keep b9 K68.out.lt)
      have K79 := Lib.hid (K78.out.keep b9 K78.out.lt)
      clear b9 k9
      go_wp2_with fail
      refine (eq_toks l l _ _ _ _ _ hlb hlb K69.out.lies K9.out.lies).mono ?_
      rintro e wa ⟨he, ba⟩
      rw [decide_eq_true rfl] at he
      subst he
      have Ba := Lib.hid (B9.out.trans (ba.mono B9.out.size))
      have K7a := Lib.hid (K79.out.keep ba K79.out.lt)
      clear ba
      go_wp2_with fail
      refine (to_toks m a' cap' _ hmb ((HC'.out.keep Ba.out (Nat.le_refl _)).up Ba.out.size)).mono ?_
      rintro e wb ⟨rfl, bb, kb⟩
      have Bb := Lib.hid (Ba.out.trans (bb.mono Ba.out.size))
      have Kb := Lib.hid kb
      have K7b := Lib.hid (K7a.out.keep bb K7a.out.lt)
      clear bb kb
      go_wp2_with fail
      refine (eq_toks m m _ _ _ _ _ hmb hmb K7b.out.lies Kb.out.lies).mono ?_
      rintro e wc ⟨he, bc⟩
      rw [decide_eq_true rfl] at he
      subst he
      have Bc := Lib.hid (Bb.out.trans (bc.mono Bb.out.size))
      clear bc
      go_wp2
      go_ret
      exact ⟨rfl, Bc.out⟩
    · have H2 := Lib.hid (sz_no h2)
      have z1 : ¬ (L : Int) < 0 := by omega
      clear h2
      go_enter Try.func3, Try.ntmps3
      go_wp2_with fail
      refine (size_toks l a cap 1048576 _ (by omega) HN.out HC.out HM.out).mono ?_
      rintro e w1 ⟨he, b1⟩
      rw [H1.out] at he
      subst he
      have B1 := Lib.hid b1
      have HC1 := Lib.hid (HC'.out.keep b1 (Nat.le_refl _))
      clear b1
      go_wp2_with fail
      refine (size_toks m a' cap' L _ hLb HN'.out (HC1.out.up B1.out.size) HM'.out).mono ?_
      rintro e w2 ⟨he, b2⟩
      rw [H2.out] at he
      subst he
      have B2 := Lib.hid (B1.out.trans (b2.mono B1.out.size))
      clear b2
      go_wp2
      go_ret
      exact ⟨rfl, B2.out⟩
  · have H1 := Lib.hid (sz_no h1)
    clear h1
    go_enter Try.func3, Try.ntmps3
    go_wp2_with fail
    refine (size_toks l a cap 1048576 _ (by omega) HN.out HC.out HM.out).mono ?_
    rintro e w1 ⟨he, b1⟩
    rw [H1.out] at he
    subst he
    have B1 := Lib.hid b1
    clear b1
    go_wp2
    go_ret
    exact ⟨rfl, B1.out⟩
end Go.Proofs.Ytlbloemmabjmoaa.lawSameTokens
namespace Go.Proofs.Ytlbloemmabjmoaa.lawSameTokens
open Go.ChangeShapes Go.WideShapes Go.ChangeAt Go.RowKit
open Go.ChangeMaps (open_string shut_string)
theorem laidOut : laidOutB Try.prog = true := by kernel_rfl
theorem own : ownKnob Try.prog.godebug = none := by kernel_rfl

set_option maxRecDepth 100000 in
theorem lifted (os : Os) (started : os.Started) (H : Type) (enc : TypeId × Value → H) :
    ReturnsInHanded {} Try.checked os 3 .any (Rows.fnExactSameTokensSpec.pre6 enc Try.prog Try.f3 Rows.fnExactSameTokensRow.domain false) (Rows.fnExactSameTokensSpec.post enc Try.prog Try.f3 false true false false) := by
  refine returnsInHanded_of_change (C := Try.checked) own started (by kernel_rfl) Try.func3
    (ChangeSpec.witness6 (enc := enc) (C := Try.checked) false ⟨#[], #[.slice none 0 0, .slice none 0 0], []⟩ 8 (by kernel_rfl) (by kernel_rfl) (by kernel_rfl) (by kernel_rfl)) ?_
  intro W base args ds gs before hval0 hW hcnd _
  have hval : ∀ (j : Nat) t v, Try.f3.params[j]? = some t → args[j]? = some v → Value.okWide Try.prog W .any base t v := hval0
  have hW' := hW
  obtain ⟨p, q, hA0, hV, rfl, hfz, hnd⟩ := hW
  have hA : DataW.TrodAll enc Try.prog W 0 (fun _ => true) true Try.f3.params.toList args.toList ds p := hA0
  rw [Try.params3] at hA hval
  obtain ⟨v0, vs0, d0, ds0, p0, q0, hargs, rfl, rfl, h0, r0⟩ := trodAll_cons hA
  obtain ⟨v1, vs1, d1, ds1, p1, q1, rfl, rfl, rfl, h1, r1⟩ := trodAll_cons r0
  obtain ⟨rfl, rfl, rfl⟩ := trodAll_nil r1
  obtain rfl : args = #[v0, v1] := by cases args; simp_all
  obtain ⟨rfl, rfl⟩ := trodVars_none hV
  have k0 := h0
  have lt0 := tk.places_lt k0
  obtain ⟨c0, cap0, a0, rfl, n0, w0, m0⟩ := tk.open_toks (hval 0 22 v0 rfl rfl) h0
  have k1 := h1
  have lt1 := tk.places_lt k1
  obtain ⟨c1, cap1, a1, rfl, n1, w1, m1⟩ := tk.open_toks (hval 1 22 v1 rfl rfl) h1
  clear hA0 hval0
  refine (walk a0 c0 cap0 a1 c1 cap1 W w0 n0 m0 w1 n1 m1).mono fun e W' ⟨he, bel⟩ => ?_
  subst he
  exact ⟨_, rfl, _, _, _, [], _, [], hW', trodAll_mk1 (shut_bool Try.underlying4 _), (trodAll_cons_mk (Below.trod laidOut (by kernel_rfl) (of_decide_eq_true (by kernel_rfl)) k0 bel lt0) (trodAll_cons_mk (Below.trod laidOut (by kernel_rfl) (of_decide_eq_true (by kernel_rfl)) k1 bel lt1) trodAll_mk0)), rfl, bel.frame _, fun h => by cases h⟩

theorem over : Rows.fnExactSameTokensRow.holds Try.pinned (OpenSpec.ofChange Rows.fnExactSameTokensSpec) :=
  OpenClaim.holds_of_wide 3 Try.f3 rfl rfl rfl rfl rfl rfl rfl ⟨rfl, rfl, rfl, rfl, rfl⟩ rfl rfl rfl rfl rfl (by kernel_rfl) Try.func3 (by kernel_rfl)
    (of_decide_eq_true (by kernel_rfl)) (by unfold Func.isWrapper; first | (rw [if_pos (by decide +kernel)]; kernel_rfl) | (rw [if_neg (by decide +kernel)]; exact ⟨rfl, rfl⟩))
    (fun os started H enc _ => lifted os started H enc)
end Go.Proofs.Ytlbloemmabjmoaa.lawSameTokens
namespace Go.Proofs.Ytlbloemmabjmoaa
/-- The statement. -/
theorem fnExactSameTokens_holds : Rows.FnExactSameTokensSaid := lawSameTokens.over
end Go.Proofs.Ytlbloemmabjmoaa
