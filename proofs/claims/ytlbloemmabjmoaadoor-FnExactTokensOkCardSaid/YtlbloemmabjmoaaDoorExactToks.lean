/-
  'laws.FnExactTokensOk' returns true at every list of tokens, and leaves it as it was: impl.TokensOk and the model spec.TokensOk give the same bool. The row lists impl's two tables of spellings (keywords, operators), tied to the program's text (the card), and says that they read behind the call as before. No other condition. What is listed is tied to the copy of the project that the seat holds (its packages impl, spec and laws, no test): of code elsewhere that could write these variables the card says nothing.
-/
import Derived.Test.YtlbloemmabjmoaaDoorCards
import Derived.Test.YtlbloemmabjmoaaDoorTie
import Derived.Test.YtlbloemmabjmoaaDoorLaidKw
import Derived.Test.YtlbloemmabjmoaaDoorOpenTk
import Derived.Test.YtlbloemmabjmoaaDoorToksSpec
import Derived.OpenVars
import Derived.Deep.DeepHandedRow
import Derived.Lib.SmallJoins
import Derived.Stop.LaidErr
namespace Go.Proofs.YtlbloemmabjmoaaDoor.lawToks
open Go.ChangeShapes Go.WideShapes Go.ChangeAt Go.RowKit
open Go.ChangeMaps (open_string shut_string)
open spell (Held held)
open tk
set_option linter.unusedVariables false

theorem mem_tot {l : List Tk} {t : Tk} (h : t ∈ l) : t.s.size ≤ tot l := by
  induction l with
  | nil => cases h
  | cons u l ih =>
    unfold tot
    rcases List.mem_cons.1 h with rfl | h
    · omega
    · have := ih h; omega

set_option maxHeartbeats 3200000 in
/-- THE WALK: the law's own text. -/
theorem walk (l : List Tk) (a : Option Addr) (cap : Nat) (w : World) (hc : Lies w.heap.size w a l) (hn : l.length ≤ maxLen) (hm : ∀ t ∈ l, t.s.size ≤ maxLen) (hh : Held w) :
    Calls Tryd.prog 6 #[.slice a l.length cap] w fun e w' => e = .returned (.bool true) ∧ Below w.heap.size w w' := by
  have HC := Lib.hid hc
  have HN := Lib.hid hn
  have HM := Lib.hid hm
  have HH := Lib.hid hh
  clear hc hm hn hh
  by_cases h1 : l.length + tot l ≤ 1048576
  · obtain ⟨L, hL⟩ : ∃ L : Nat, L = 1048576 - (l.length + tot l) := ⟨_, rfl⟩
    have H1 := Lib.hid (show sz l 1048576 = (L : Int) by unfold sz left1; rw [if_pos h1]; omega)
    have hlb : l.length ≤ 1048576 := by omega
    have HT := Lib.hid (show ∀ t ∈ l, t.s.size ≤ 1048576 from fun t ht => by have := mem_tot ht; omega)
    have HTT := Lib.hid h1
    have z1 : ¬ (L : Int) < 0 := by omega
    obtain ⟨G, hG⟩ : ∃ G, G = tksok.tokensOk l := ⟨_, rfl⟩
    have HG := Lib.hid hG
    have hgg : (G != G) = false := by simp
    clear h1 hL hG
    go_enter Tryd.func6, Tryd.ntmps6
    go_wp2_with fail
    refine (size_toks l a cap 1048576 _ (by omega) HN.out HC.out HM.out).mono ?_
    rintro e w1 ⟨he, b1⟩
    rw [H1.out] at he
    subst he
    have B1 := Lib.hid b1
    clear b1
    go_wp2_with fail
    refine (to_toks l a cap _ hlb ((HC.out.keep B1.out (Nat.le_refl _)).up B1.out.size)).mono ?_
    rintro e w2 ⟨rfl, b2, k2⟩
    have B2 := Lib.hid (B1.out.trans (b2.mono B1.out.size))
    have K2 := Lib.hid k2
    clear b2 k2
    go_wp2_with fail
    refine (tksok.spec_toksOk l _ _ _ hlb K2.out.lies HT.out).mono ?_
    rintro e w3 ⟨he, b3⟩
    rw [← HG.out] at he
    subst he
    have B3 := Lib.hid (B2.out.trans (b3.mono B2.out.size))
    clear b3
    go_wp2_with fail
    refine (to_toks l a cap _ hlb ((HC.out.keep B3.out (Nat.le_refl _)).up B3.out.size)).mono ?_
    rintro e w4 ⟨rfl, b4, k4⟩
    have B4 := Lib.hid (B3.out.trans (b4.mono B3.out.size))
    have K4 := Lib.hid k4
    clear b4 k4
    go_wp2_with fail
    refine (tksok.impl_toksOk l _ _ _ hlb K4.out.lies HT.out (HH.out.below B4.out)).mono ?_
    rintro e w5 ⟨he, b5⟩
    rw [← HG.out] at he
    subst he
    have B5 := Lib.hid (B4.out.trans (b5.mono B4.out.size))
    have K5 := Lib.hid (K4.out.keep b5 K4.out.lt)
    clear b5
    go_wp2_with fail
    refine (to_toks l a cap _ hlb ((HC.out.keep B5.out (Nat.le_refl _)).up B5.out.size)).mono ?_
    rintro e w6 ⟨rfl, b6, k6⟩
    have B6 := Lib.hid (B5.out.trans (b6.mono B5.out.size))
    have K6 := Lib.hid k6
    have K56 := Lib.hid (K5.out.keep b6 K5.out.lt)
    clear b6 k6
    go_wp2_with fail
    refine (eq_toks l l _ _ _ _ _ hlb hlb K56.out.lies K6.out.lies).mono ?_
    rintro e w7 ⟨he, b7⟩
    rw [decide_eq_true rfl] at he
    subst he
    have B7 := Lib.hid (B6.out.trans (b7.mono B6.out.size))
    clear b7
    go_wp2
    go_ret
    exact ⟨rfl, B7.out⟩
  · have H1 := Lib.hid (show sz l 1048576 = -1 by unfold sz left1; rw [if_neg h1])
    clear h1
    go_enter Tryd.func6, Tryd.ntmps6
    go_wp2_with fail
    refine (size_toks l a cap 1048576 _ (by omega) HN.out HC.out HM.out).mono ?_
    rintro e w1 ⟨he, b1⟩
    rw [H1.out] at he
    subst he
    have B1 := Lib.hid b1
    clear b1
    go_wp2
    go_ret
    exact ⟨rfl, B1.out⟩
end Go.Proofs.YtlbloemmabjmoaaDoor.lawToks
namespace Go.Proofs.YtlbloemmabjmoaaDoor.lawToks
open Go.ChangeShapes Go.WideShapes Go.ChangeAt Go.RowKit
open Go.ChangeMaps (open_string shut_string)
theorem own : ownKnob Tryd.prog.godebug = none := by kernel_rfl
theorem laidOut : laidOutB Tryd.prog = true := by kernel_rfl

set_option maxRecDepth 100000 in
theorem contract (H : Type) (enc : TypeId × Value → H) (W : World) (base : Nat) (args : Array Value) (ds gs : List (DataW H)) (before : List MemPlace)
    (hval : ∀ (j : Nat) t v, Tryd.f6.params[j]? = some t → args[j]? = some v → Value.okWide Tryd.prog W .any base t v)
    (hW : DataW.Whole enc Tryd.prog Tryd.f6.params.toList Rows.fnExactTokensOkSpec.vars false W args.toList ds gs before) (hL0 : laidMetH Tryd.prog Rows.fnExactTokensOkRow.laid W) :
    Calls Tryd.prog 6 args W fun e W' => ∃ v, e = .returned v ∧ Rows.fnExactTokensOkSpec.post enc Tryd.prog Tryd.f6 false true false false W args v W' := by
  have hL : laidMet Tryd.prog Rows.fnExactTokensOkRow.laid W := hL0
  have hW' := hW
  obtain ⟨p, q, hA0, hV, rfl, hfz, hnd⟩ := hW
  have hA : DataW.TrodAll enc Tryd.prog W 0 (fun _ => true) true Tryd.f6.params.toList args.toList ds p := hA0
  rw [Tryd.params6] at hA hval
  obtain ⟨v0, vs0, d0, ds0, p0, q0, hargs, rfl, rfl, h0, r0⟩ := trodAll_cons hA
  obtain ⟨rfl, rfl, rfl⟩ := trodAll_nil r0
  obtain rfl : args = #[v0] := by cases args; simp_all
  obtain ⟨e0, e1, rfl⟩ : ∃ e0 e1, gs = [e0, e1] := by
    have hlen := trodVars_len hV
    match gs, hlen with
    | [x0, x1], _ => exact ⟨x0, x1, rfl⟩
  have k0 := h0
  have lt0 := tk.places_lt k0
  obtain ⟨c0, cap0, a0, rfl, n0, w0, m0⟩ := tk.open_toks (hval 0 40 v0 rfl rfl) h0
  clear hA0
  refine (walk a0 c0 cap0 W w0 n0 m0 (spell.held hL)).mono fun e W' ⟨he, bel⟩ => ?_
  subst he
  exact ⟨_, rfl, _, _, _, [], _, _, hW', trodAll_mk1 (shut_bool Tryd.underlying4 _), (trodAll_cons_mk (Below.trod laidOut (by kernel_rfl) (of_decide_eq_true (by kernel_rfl)) k0 bel lt0) trodAll_mk0), Below.trodVars laidOut bel (by kernel_rfl) hV, bel.frame _, fun h => by cases h⟩

theorem laid_met (os : Os) : laidMet Tryd.prog Rows.fnExactTokensOkRow.laid ((laidWorld os).forCall (fun _ _ => 0) ⟨#[], #[.slice none 0 0], []⟩).memory :=
  laidMet_of_run' 8 (by kernel_rfl) (by kernel_rfl)
theorem reads (os : Os) {H : Type} (enc : TypeId × Value → H) : ∃ places, DataW.whole enc Tryd.prog ((laidWorld os).forCall (fun _ _ => 0) ⟨#[], #[.slice none 0 0], []⟩).memory Tryd.f6.params.toList Rows.fnExactTokensOkSpec.vars false #[Value.slice none 0 0].toList 8 = some ([.nil], [Rows.laid_loop_example_g01543_impl_keywords, Rows.laid_loop_example_g01543_impl_operators], places) :=
  ⟨MemPlace.row ⟨0, 0, none⟩ 17 ++ MemPlace.row ⟨1, 0, none⟩ 39, by kernel_rfl⟩

set_option maxRecDepth 100000 in
theorem lifted (os : Os) (started : os.Started) (H : Type) (enc : TypeId × Value → H) (F : Stop.Interp) :
    ReturnsInHanded {} Tryd.checked os 6 .any ((OpenSpec.ofChange Rows.fnExactTokensOkSpec).preRow enc Tryd.prog Tryd.f6 Rows.fnExactTokensOkRow.domain false Rows.fnExactTokensOkRow.laid) (((OpenSpec.ofChange Rows.fnExactTokensOkSpec).at F).post enc Tryd.prog Tryd.f6 false true false false) := by
  obtain ⟨places, hx⟩ := reads os enc
  refine returnsInHanded_of_row (C := Tryd.checked) (s := OpenSpec.ofChange Rows.fnExactTokensOkSpec) own started (by kernel_rfl) Tryd.func6
    (witness_row_at (enc := enc) (C := Tryd.checked) false (laidWorld os) #[.slice none 0 0] rfl (by kernel_rfl) (by kernel_rfl) (by kernel_rfl)
      (OpenSpec.preRow_of_cond 8 hx (by kernel_rfl) (fun k hk => by cases hk) (by kernel_rfl) (laid_met os))) ?_
  intro W base args ds gs before hval hW _ _ _ hL _ _
  exact contract H enc W base args ds gs before hval hW hL

theorem said : Rows.FnExactTokensOkSaid :=
  OpenClaim.holds_of_cond 6 Tryd.f6 rfl rfl rfl rfl rfl rfl rfl ⟨rfl, rfl, rfl, rfl, rfl⟩ rfl rfl rfl rfl rfl (by kernel_rfl) Tryd.func6 (by kernel_rfl)
    (of_decide_eq_true (by kernel_rfl)) (by unfold Func.isWrapper; first | (rw [if_pos (by decide +kernel)]; kernel_rfl) | (rw [if_neg (by decide +kernel)]; exact ⟨rfl, rfl⟩))
    (fun os started H enc _ F => by rw [OpenClaim.pre_eq_preRow]; exact lifted os started H enc F)

/-- No parameter wants a stand-in; the program's own looks are as the card says. -/
theorem plain (f : FuncId) (fn : Func) (hf : Tryd.pinned.checked.prog.funcNamed "loop.example/g01543/laws.FnExactTokensOk" = some f) (hfn : Tryd.pinned.checked.prog.funcs[f]? = some fn) :
    Rows.fnExactTokensOkCard.stood.looks = Tryd.pinned.checked.prog.looks [] ∧ ∀ (j : Nat) t, fn.params[j]? = some t → Tryd.pinned.checked.prog.wantsStandIn t = false := by
  obtain rfl : f = 6 := Option.some.inj ((show Tryd.prog.funcNamed "loop.example/g01543/laws.FnExactTokensOk" = some 6 by kernel_rfl).symm.trans hf) |>.symm
  obtain rfl : fn = Tryd.f6 := (Option.some.inj (Tryd.func6.symm.trans hfn)).symm
  refine ⟨by kernel_rfl, fun j t ht => ?_⟩
  rw [Tryd.params6] at ht
  have hm := Array.mem_of_getElem? ht
  simp only [List.mem_toArray, List.mem_cons, List.not_mem_nil, or_false] at hm
  rcases hm with rfl
  · exact (show Tryd.prog.wantsStandIn 40 = false by kernel_rfl)

end Go.Proofs.YtlbloemmabjmoaaDoor.lawToks
namespace Go.Proofs.YtlbloemmabjmoaaDoor
/-- The card. -/
theorem fnExactTokensOk_card : Rows.FnExactTokensOkCardSaid :=
  Claim7.holds_tied_plain_at .later [] _ _ _ _ lawToks.said (fun _ h => by cases h) (by kernel_rfl) (fun _ h => by cases h) fnExactTokensOk_row_tie rfl ⟨rfl, rfl⟩ (by kernel_rfl) rfl lawToks.plain (by kernel_rfl)
end Go.Proofs.YtlbloemmabjmoaaDoor
