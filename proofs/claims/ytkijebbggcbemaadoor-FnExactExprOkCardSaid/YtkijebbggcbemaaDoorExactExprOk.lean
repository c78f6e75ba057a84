/-
  'laws.FnExactExprOk' returns true at every list of nodes, and leaves it as it was: impl.ExprOk and the model spec.ExprOk give the same bool. The row lists impl's two tables of spellings (keywords, operators), tied to the program's text (the card), and says that they read behind the call as before. No other condition. What is listed is tied to the copy of the project that the seat holds (its packages impl, spec and laws, no test): of code elsewhere that could write these variables the card says nothing.
-/
import Derived.Test.YtkijebbggcbemaaDoorCards
import Derived.Test.YtkijebbggcbemaaDoorTie
import Derived.Test.YtkijebbggcbemaaDoorLaidKw
import Derived.Test.YtkijebbggcbemaaDoorOpenNd
import Derived.Test.YtkijebbggcbemaaDoorNdEq
import Derived.Test.YtkijebbggcbemaaDoorTreeOk
import Derived.OpenVars
import Derived.Deep.DeepHandedRow
import Derived.Lib.SmallJoins
import Derived.Stop.LaidErr
namespace Go.Proofs.YtkijebbggcbemaaDoor.lawExprOk
open Go.ChangeShapes Go.WideShapes Go.ChangeAt Go.RowKit
open Go.ChangeMaps (open_string shut_string)
open spell (Held held)
open nd
set_option linter.unusedVariables false

set_option maxHeartbeats 1600000 in
/-- THE WALK: the law's own text. -/
theorem walk (l : List Nd) (a : Option Addr) (cap : Nat) (w : World) (hc : Lies w.heap.size w a l) (hn : l.length ≤ maxLen) (hm : ∀ t ∈ l, t.fit) (hh : Held w) :
    Calls Tryd.prog 5 #[.slice a l.length cap] w fun e w' => e = .returned (.bool true) ∧ Below w.heap.size w w' := by
  have HC := Lib.hid hc
  have HN := Lib.hid hn
  have HM := Lib.hid hm
  have HH := Lib.hid hh
  clear hc hm hn hh
  by_cases h1 : ((l.length + tot l : Nat) : Int) ≤ 1048576
  · obtain ⟨L, hL⟩ : ∃ L : Int, L = 1048576 - ((l.length + tot l : Nat) : Int) := ⟨_, rfl⟩
    have H1 := Lib.hid (show sz l 1048576 = L by rw [hL]; exact left_yes h1)
    have hlb : l.length ≤ 1048576 := by omega
    have HKK := Lib.hid (kids_le (l := l) (by omega))
    have HSS := Lib.hid (show ∀ t ∈ l, t.s.size ≤ 1048576 ∧ t.t.size ≤ 1048576 from fun t ht => by have := rt.mem_tot ht; omega)
    have z1 : ¬ L < 0 := by omega
    clear h1 hL
    go_enter Tryd.func5, Tryd.ntmps5
    go_wp2_with fail
    refine (size_nodes l a cap 1048576 _ (by omega) (by omega) HN.out HC.out HM.out).mono ?_
    rintro e w1 ⟨he, b1⟩
    rw [H1.out] at he
    subst he
    have B1 := Lib.hid b1
    clear b1
    go_wp2_with fail
    refine (to_nodes l a cap _ hlb HKK.out (HC.out.on B1.out (Nat.le_refl _))).mono ?_
    rintro e w3 ⟨rfl, b3, r3, k3⟩
    have B3 := Lib.hid (B1.out.trans (b3.mono B1.out.size))
    have K3 := Lib.hid k3
    clear b3 k3
    go_wp2_with fail
    refine (rt.spec_expr l _ _ _ hlb HKK.out HSS.out K3.out.lies).mono ?_
    rintro e w5 ⟨rfl, b5⟩
    have B5 := Lib.hid (B3.out.trans (b5.mono B3.out.size))
    clear b5
    go_wp2_with fail
    refine (to_nodes l a cap _ hlb HKK.out (HC.out.on B5.out (Nat.le_refl _))).mono ?_
    rintro e w6 ⟨rfl, b6, r6, k6⟩
    have B6 := Lib.hid (B5.out.trans (b6.mono B5.out.size))
    have K6 := Lib.hid k6
    clear b6 k6
    go_wp2_with fail
    refine (rt.impl_expr l _ _ _ hlb HKK.out HSS.out K6.out.lies (HH.out.below B6.out)).mono ?_
    rintro e w8 ⟨rfl, b8⟩
    have B8 := Lib.hid (B6.out.trans (b8.mono B6.out.size))
    have L8 := Lib.hid (K6.out.lies.on b8 (Nat.le_refl _))
    obtain ⟨sm, hsm⟩ : ∃ sm, sm = rt.exprOk l := ⟨_, rfl⟩
    rw [← hsm]
    have hbb : (sm != sm) = false := by simp
    clear b8 hsm
    go_wp2_with fail
    refine (to_nodes l a cap _ hlb HKK.out (HC.out.on B8.out (Nat.le_refl _))).mono ?_
    rintro e w9 ⟨rfl, b9, r9, k9⟩
    have B9 := Lib.hid (B8.out.trans (b9.mono B8.out.size))
    have K9 := Lib.hid k9
    have L9 := Lib.hid (L8.out.on b9 (Nat.le_refl _))
    clear b9 k9
    go_wp2_with fail
    refine (eq_nodes l l _ _ _ _ _ hlb hlb HKK.out HKK.out L9.out K9.out.lies).mono ?_
    rintro e wa ⟨he, ba⟩
    rw [decide_eq_true rfl] at he
    subst he
    have Ba := Lib.hid (B9.out.trans (ba.mono B9.out.size))
    clear ba
    go_wp2
    go_ret
    exact ⟨rfl, Ba.out⟩
  · have H1 := Lib.hid (show sz l 1048576 = -1 from left_no h1)
    clear h1
    go_enter Tryd.func5, Tryd.ntmps5
    go_wp2_with fail
    refine (size_nodes l a cap 1048576 _ (by omega) (by omega) HN.out HC.out HM.out).mono ?_
    rintro e w1 ⟨he, b1⟩
    rw [H1.out] at he
    subst he
    have B1 := Lib.hid b1
    clear b1
    go_wp2
    go_ret
    exact ⟨rfl, B1.out⟩
end Go.Proofs.YtkijebbggcbemaaDoor.lawExprOk
namespace Go.Proofs.YtkijebbggcbemaaDoor.lawExprOk
open Go.ChangeShapes Go.WideShapes Go.ChangeAt Go.RowKit
open Go.ChangeMaps (open_string shut_string)
theorem own : ownKnob Tryd.prog.godebug = none := by kernel_rfl
theorem laidOut : laidOutB Tryd.prog = true := by kernel_rfl

set_option maxRecDepth 100000 in
theorem contract (H : Type) (enc : TypeId × Value → H) (W : World) (base : Nat) (args : Array Value) (ds gs : List (DataW H)) (before : List MemPlace)
    (hval : ∀ (j : Nat) t v, Tryd.f5.params[j]? = some t → args[j]? = some v → Value.okWide Tryd.prog W .any base t v)
    (hW : DataW.Whole enc Tryd.prog Tryd.f5.params.toList Rows.fnExactExprOkSpec.vars false W args.toList ds gs before) (hL0 : laidMetH Tryd.prog Rows.fnExactExprOkRow.laid W) :
    Calls Tryd.prog 5 args W fun e W' => ∃ v, e = .returned v ∧ Rows.fnExactExprOkSpec.post enc Tryd.prog Tryd.f5 false true false false W args v W' := by
  have hL : laidMet Tryd.prog Rows.fnExactExprOkRow.laid W := hL0
  have hW' := hW
  obtain ⟨p, q, hA0, hV, rfl, hfz, hnd⟩ := hW
  have hA : DataW.TrodAll enc Tryd.prog W 0 (fun _ => true) true Tryd.f5.params.toList args.toList ds p := hA0
  rw [Tryd.params5] at hA hval
  obtain ⟨v0, vs0, d0, ds0, p0, q0, hargs, rfl, rfl, h0, r0⟩ := trodAll_cons hA
  obtain ⟨rfl, rfl, rfl⟩ := trodAll_nil r0
  obtain rfl : args = #[v0] := by cases args; simp_all
  obtain ⟨e0, e1, rfl⟩ : ∃ e0 e1, gs = [e0, e1] := by
    have hlen := trodVars_len hV
    match gs, hlen with
    | [x0, x1], _ => exact ⟨x0, x1, rfl⟩
  have k0 := h0
  have lt0 := nd.places_lt k0
  obtain ⟨c0, cap0, a0, rfl, n0, w0, m0⟩ := nd.open_nodes (hval 0 31 v0 rfl rfl) h0
  clear hA0
  refine (walk a0 c0 cap0 W w0 n0 m0 (spell.held hL)).mono fun e W' ⟨he, bel⟩ => ?_
  subst he
  exact ⟨_, rfl, _, _, _, [], _, _, hW', trodAll_mk1 (shut_bool Tryd.underlying4 _), (trodAll_cons_mk (Below.trod laidOut (by kernel_rfl) (of_decide_eq_true (by kernel_rfl)) k0 bel lt0) trodAll_mk0), Below.trodVars laidOut bel (by kernel_rfl) hV, bel.frame _, fun h => by cases h⟩

theorem laid_met (os : Os) : laidMet Tryd.prog Rows.fnExactExprOkRow.laid ((laidWorld os).forCall (fun _ _ => 0) ⟨#[], #[.slice none 0 0], []⟩).memory :=
  laidMet_of_run' 8 (by kernel_rfl) (by kernel_rfl)
theorem reads (os : Os) {H : Type} (enc : TypeId × Value → H) : ∃ places, DataW.whole enc Tryd.prog ((laidWorld os).forCall (fun _ _ => 0) ⟨#[], #[.slice none 0 0], []⟩).memory Tryd.f5.params.toList Rows.fnExactExprOkSpec.vars false #[Value.slice none 0 0].toList 8 = some ([.nil], [Rows.laid_loop_example_g01543_impl_keywords, Rows.laid_loop_example_g01543_impl_operators], places) :=
  ⟨MemPlace.row ⟨0, 0, none⟩ 17 ++ MemPlace.row ⟨1, 0, none⟩ 39, by kernel_rfl⟩

set_option maxRecDepth 100000 in
theorem lifted (os : Os) (started : os.Started) (H : Type) (enc : TypeId × Value → H) (F : Stop.Interp) :
    ReturnsInHanded {} Tryd.checked os 5 .any ((OpenSpec.ofChange Rows.fnExactExprOkSpec).preRow enc Tryd.prog Tryd.f5 Rows.fnExactExprOkRow.domain false Rows.fnExactExprOkRow.laid) (((OpenSpec.ofChange Rows.fnExactExprOkSpec).at F).post enc Tryd.prog Tryd.f5 false true false false) := by
  obtain ⟨places, hx⟩ := reads os enc
  refine returnsInHanded_of_row (C := Tryd.checked) (s := OpenSpec.ofChange Rows.fnExactExprOkSpec) own started (by kernel_rfl) Tryd.func5
    (witness_row_at (enc := enc) (C := Tryd.checked) false (laidWorld os) #[.slice none 0 0] rfl (by kernel_rfl) (by kernel_rfl) (by kernel_rfl)
      (OpenSpec.preRow_of_cond 8 hx (by kernel_rfl) (fun k hk => by cases hk) (by kernel_rfl) (laid_met os))) ?_
  intro W base args ds gs before hval hW _ _ _ hL _ _
  exact contract H enc W base args ds gs before hval hW hL

theorem said : Rows.FnExactExprOkSaid :=
  OpenClaim.holds_of_cond 5 Tryd.f5 rfl rfl rfl rfl rfl rfl rfl ⟨rfl, rfl, rfl, rfl, rfl⟩ rfl rfl rfl rfl rfl (by kernel_rfl) Tryd.func5 (by kernel_rfl)
    (of_decide_eq_true (by kernel_rfl)) (by unfold Func.isWrapper; first | (rw [if_pos (by decide +kernel)]; kernel_rfl) | (rw [if_neg (by decide +kernel)]; exact ⟨rfl, rfl⟩))
    (fun os started H enc _ F => by rw [OpenClaim.pre_eq_preRow]; exact lifted os started H enc F)

/-- No parameter wants a stand-in; the program's own looks are as the card says. -/
theorem plain (f : FuncId) (fn : Func) (hf : Tryd.pinned.checked.prog.funcNamed "loop.example/g01543/laws.FnExactExprOk" = some f) (hfn : Tryd.pinned.checked.prog.funcs[f]? = some fn) :
    Rows.fnExactExprOkCard.stood.looks = Tryd.pinned.checked.prog.looks [] ∧ ∀ (j : Nat) t, fn.params[j]? = some t → Tryd.pinned.checked.prog.wantsStandIn t = false := by
  obtain rfl : f = 5 := Option.some.inj ((show Tryd.prog.funcNamed "loop.example/g01543/laws.FnExactExprOk" = some 5 by kernel_rfl).symm.trans hf) |>.symm
  obtain rfl : fn = Tryd.f5 := (Option.some.inj (Tryd.func5.symm.trans hfn)).symm
  refine ⟨by kernel_rfl, fun j t ht => ?_⟩
  rw [Tryd.params5] at ht
  have hm := Array.mem_of_getElem? ht
  simp only [List.mem_toArray, List.mem_cons, List.not_mem_nil, or_false] at hm
  rcases hm with rfl
  · exact (show Tryd.prog.wantsStandIn 31 = false by kernel_rfl)

end Go.Proofs.YtkijebbggcbemaaDoor.lawExprOk
namespace Go.Proofs.YtkijebbggcbemaaDoor
/-- The card. -/
theorem fnExactExprOk_card : Rows.FnExactExprOkCardSaid :=
  Claim7.holds_tied_plain_at .later [] _ _ _ _ lawExprOk.said (fun _ h => by cases h) (by kernel_rfl) (fun _ h => by cases h) fnExactExprOk_row_tie rfl ⟨rfl, rfl⟩ (by kernel_rfl) rfl lawExprOk.plain (by kernel_rfl)
end Go.Proofs.YtkijebbggcbemaaDoor
