/-
  'laws.FnExactNeedsGap' returns true at every two tokens, and leaves them as they were: impl.NeedsGap and the model spec.NeedsGap give the same bool. The row lists impl's two tables of spellings (keywords, operators), tied to the program's text (the card), and says that they read behind the call as before. No other condition. What is listed is tied to the copy of the project that the seat holds (its packages impl, spec and laws, no test): of code elsewhere that could write these variables the card says nothing.
-/
import Derived.Test.YtlbloemmabjmoaaDoorCards
import Derived.Test.YtlbloemmabjmoaaDoorTie
import Derived.Test.YtlbloemmabjmoaaDoorLaidKw
import Derived.Test.YtlbloemmabjmoaaDoorGapSpec
import Derived.OpenVars
import Derived.Deep.DeepHandedRow
import Derived.Lib.SmallJoins
import Derived.Stop.LaidErr
namespace Go.Proofs.YtlbloemmabjmoaaDoor.lawGap
open Go.ChangeShapes Go.WideShapes Go.ChangeAt Go.RowKit
open Go.ChangeMaps (open_string shut_string)
open spell (Held held)
open tk
set_option linter.unusedVariables false

theorem at_box {w : World} {g : Nat} {t : Tk} (h : w.heap[g]? = some (.cells #[.int .i64 t.k, .string t.s, .int .i64 t.a] 44 (0, 0))) : At w g 0 t :=
  ⟨by rw [cell_of_row w g 0 _ _ _ h]; rfl, by rw [cell_of_row w g (0 + 1) _ _ _ h]; rfl, by rw [cell_of_row w g (0 + 2) _ _ _ h]; rfl⟩

set_option maxHeartbeats 3200000 in
/-- THE WALK: the law's own text. -/
theorem walk (xk xa : Int) (xs : ByteArray) (yk ya : Int) (ys : ByteArray) (w : World) (hx : xs.size ≤ maxLen) (hy : ys.size ≤ maxLen) (hh : Held w) :
    Calls Tryd.prog 7 #[.agg #[.int .i64 xk, .string xs, .int .i64 xa], .agg #[.int .i64 yk, .string ys, .int .i64 ya]] w fun e w' => e = .returned (.bool true) ∧ Below w.heap.size w w' := by
  have HH := Lib.hid hh
  clear hh
  obtain ⟨W0, hW0⟩ : ∃ W0, W0 = (w.alloc (.cells #[.int .i64 xk, .string xs, .int .i64 xa] 44)).alloc (.cells #[.int .i64 yk, .string ys, .int .i64 ya] 44) := ⟨_, rfl⟩
  have B0 := Lib.hid (show Below w.heap.size w W0 by rw [hW0]; exact below_two w _ _)
  have S0 := Lib.hid (show W0.heap.size = w.heap.size + 1 + 1 by rw [hW0]; simp)
  have X0 := Lib.hid (show At W0 w.heap.size 0 ⟨xk, xs, xa⟩ by
    rw [hW0]
    exact at_box (t := ⟨xk, xs, xa⟩) ((Below.heap_alloc _ _ _ (by simp)).trans (heap_alloc_new w _)))
  have Y0 := Lib.hid (show At W0 (w.heap.size + 1) 0 ⟨yk, ys, ya⟩ by
    rw [hW0]
    have := heap_alloc_new (w.alloc (.cells #[.int .i64 xk, .string xs, .int .i64 xa] 44)) (.cells #[.int .i64 yk, .string ys, .int .i64 ya] 44)
    rw [show (w.alloc (.cells #[.int .i64 xk, .string xs, .int .i64 xa] 44)).heap.size = w.heap.size + 1 by simp] at this
    exact at_box (t := ⟨yk, ys, ya⟩) this)
  have HW0 := Lib.hid hW0
  clear hW0
  by_cases h1 : xs.size ≤ 1048576
  · obtain ⟨L, hL⟩ : ∃ L : Nat, L = 1048576 - xs.size := ⟨_, rfl⟩
    have H1 := Lib.hid (show left1 xs.size 1048576 = (L : Int) by unfold left1; rw [if_pos h1]; omega)
    have hLb : L ≤ 1048576 := by omega
    have z1 : ¬ (L : Int) < 0 := by omega
    by_cases h2 : ys.size ≤ L
    · obtain ⟨M, hM⟩ : ∃ M : Nat, M = L - ys.size := ⟨_, rfl⟩
      have H2 := Lib.hid (show left1 ys.size L = (M : Int) by unfold left1; rw [if_pos h2]; omega)
      have hsum : xs.size + ys.size ≤ 1048576 := by omega
      have z2 : ¬ (M : Int) < 0 := by omega
      obtain ⟨G, hG⟩ : ∃ G, G = gap.needsGap ⟨xk, xs, xa⟩ ⟨yk, ys, ya⟩ := ⟨_, rfl⟩
      have HG := Lib.hid hG
      have hgg : (G != G) = false := by simp
      clear hL hM h1 h2 hG
      go_enter Tryd.func7, Tryd.ntmps7
      go_wp2_with fail
      rw [← HW0.out]
      refine (size_tok xk xa xs 1048576 W0 (by omega) hx).mono ?_
      rintro e w1 ⟨he, b1⟩
      rw [H1.out] at he
      subst he
      have X1 := Lib.hid (X0.out.keep b1 (by rw [S0.out]; omega))
      have Y1 := Lib.hid (Y0.out.keep b1 (by rw [S0.out]; omega))
      have B1 := Lib.hid (B0.out.trans (b1.mono B0.out.size))
      have S1 := Lib.hid (show w.heap.size + 1 + 1 ≤ w1.heap.size by rw [← S0.out]; exact b1.size)
      obtain ⟨y0, y1, y2⟩ := Y1.out
      clear b1
      go_wp2_with fail
      refine (size_tok yk ya ys L w1 hLb hy).mono ?_
      rintro e w2 ⟨he, b2⟩
      rw [H2.out] at he
      subst he
      have X2 := Lib.hid (X1.out.keep b2 (by have := S1.out; omega))
      have Y2 := Lib.hid (Y1.out.keep b2 (by have := S1.out; omega))
      have B2 := Lib.hid (B1.out.trans (b2.mono B1.out.size))
      have hb : w.heap.size < w2.heap.size := by have := S1.out; have := b2.size; omega
      have hb' : w.heap.size + 1 < w2.heap.size := by have := S1.out; have := b2.size; omega
      have HS0 := Lib.hid (six_start X2.out Y2.out (Below.refl w2.heap.size w2))
      clear b2 y0 y1 y2
      go_wp2
      go_region_held3 (fun w' => w'.cell? ⟨w.heap.size, 0, none⟩ = some (.int .i64 xk) ∧ w'.cell? ⟨w.heap.size, 1, none⟩ = some (.string xs) ∧ w'.cell? ⟨w.heap.size, 2, none⟩ = some (.int .i64 xa) ∧ w'.cell? ⟨w.heap.size + 1, 0, none⟩ = some (.int .i64 yk) ∧ w'.cell? ⟨w.heap.size + 1, 1, none⟩ = some (.string ys) ∧ w'.cell? ⟨w.heap.size + 1, 2, none⟩ = some (.int .i64 ya) ∧ Below w2.heap.size w2 w')
        (first | exact six_drew HS0.out | exact HS0.out | exact six_keep (o := 0) (o' := 0) (x := ⟨xk, xs, xa⟩) (y := ⟨yk, ys, ya⟩) hb hb' (by assumption) (by assumption) | exact six_drew (o := 0) (o' := 0) (x := ⟨xk, xs, xa⟩) (y := ⟨yk, ys, ya⟩) (by assumption))
        (first | (go_at_call 29; refine (to_token _ _ _ _).mono ?_; rintro e w3 ⟨rfl, b3⟩) | (go_at_call 28; refine (gap.spec_gap xk xa yk ya xs ys _ hsum).mono ?_; rintro e w3 ⟨he, b3⟩; rw [← HG.out] at he; subst he))
      have HS3 := Lib.hid (by assumption : _ ∧ _ ∧ _ ∧ _ ∧ _ ∧ _ ∧ Below w2.heap.size w2 _)
      go_wp2
      go_region_held3 (fun w' => w'.cell? ⟨w.heap.size, 0, none⟩ = some (.int .i64 xk) ∧ w'.cell? ⟨w.heap.size, 1, none⟩ = some (.string xs) ∧ w'.cell? ⟨w.heap.size, 2, none⟩ = some (.int .i64 xa) ∧ w'.cell? ⟨w.heap.size + 1, 0, none⟩ = some (.int .i64 yk) ∧ w'.cell? ⟨w.heap.size + 1, 1, none⟩ = some (.string ys) ∧ w'.cell? ⟨w.heap.size + 1, 2, none⟩ = some (.int .i64 ya) ∧ Below w2.heap.size w2 w')
        (first | exact six_drew (o := 0) (o' := 0) (x := ⟨xk, xs, xa⟩) (y := ⟨yk, ys, ya⟩) HS3.out | exact HS3.out | exact six_keep (o := 0) (o' := 0) (x := ⟨xk, xs, xa⟩) (y := ⟨yk, ys, ya⟩) hb hb' (by assumption) (by assumption) | exact six_drew (o := 0) (o' := 0) (x := ⟨xk, xs, xa⟩) (y := ⟨yk, ys, ya⟩) (by assumption))
        (first | (go_at_call 29; refine (to_token _ _ _ _).mono ?_; rintro e w4 ⟨rfl, b4⟩) | (go_at_call 30; refine (gap.impl_gap xk xa yk ya xs ys _ hsum (HH.out.below (B2.out.trans ((by assumption : _ ∧ _ ∧ _ ∧ _ ∧ _ ∧ _ ∧ Below w2.heap.size w2 _).2.2.2.2.2.2.mono B2.out.size)))).mono ?_; rintro e w4 ⟨he, b4⟩; rw [← HG.out] at he; subst he))
      have HS4 := Lib.hid (by assumption : _ ∧ _ ∧ _ ∧ _ ∧ _ ∧ _ ∧ Below w2.heap.size w2 _)
      go_wp2
      go_ret
      exact ⟨rfl, B2.out.trans (HS4.out.2.2.2.2.2.2.mono B2.out.size)⟩
    · have H2 := Lib.hid (show left1 ys.size L = -1 from if_neg h2)
      clear hL h1 h2
      go_enter Tryd.func7, Tryd.ntmps7
      go_wp2_with fail
      rw [← HW0.out]
      refine (size_tok xk xa xs 1048576 W0 (by omega) hx).mono ?_
      rintro e w1 ⟨he, b1⟩
      rw [H1.out] at he
      subst he
      have Y1 := Lib.hid (Y0.out.keep b1 (by rw [S0.out]; omega))
      have B1 := Lib.hid (B0.out.trans (b1.mono B0.out.size))
      obtain ⟨y0, y1, y2⟩ := Y1.out
      clear b1
      go_wp2_with fail
      refine (size_tok yk ya ys L w1 hLb hy).mono ?_
      rintro e w2 ⟨he, b2⟩
      rw [H2.out] at he
      subst he
      have B2 := Lib.hid (B1.out.trans (b2.mono B1.out.size))
      clear b2
      go_wp2
      go_ret
      exact ⟨rfl, B2.out⟩
  · have H1 := Lib.hid (show left1 xs.size 1048576 = -1 from if_neg h1)
    clear h1
    go_enter Tryd.func7, Tryd.ntmps7
    go_wp2_with fail
    rw [← HW0.out]
    refine (size_tok xk xa xs 1048576 W0 (by omega) hx).mono ?_
    rintro e w1 ⟨he, b1⟩
    rw [H1.out] at he
    subst he
    have B1 := Lib.hid (B0.out.trans (b1.mono B0.out.size))
    clear b1
    go_wp2
    go_ret
    exact ⟨rfl, B1.out⟩
end Go.Proofs.YtlbloemmabjmoaaDoor.lawGap
namespace Go.Proofs.YtlbloemmabjmoaaDoor.lawGap
open Go.ChangeShapes Go.WideShapes Go.ChangeAt Go.RowKit
open Go.ChangeMaps (open_string shut_string)
theorem own : ownKnob Tryd.prog.godebug = none := by kernel_rfl
theorem cellsToken : Tryd.prog.cellsOf 44 = 3 := by kernel_rfl
theorem laidOut : laidOutB Tryd.prog = true := by kernel_rfl

set_option maxRecDepth 100000 in
theorem contract (H : Type) (enc : TypeId × Value → H) (W : World) (base : Nat) (args : Array Value) (ds gs : List (DataW H)) (before : List MemPlace)
    (hval : ∀ (j : Nat) t v, Tryd.f7.params[j]? = some t → args[j]? = some v → Value.okWide Tryd.prog W .any base t v)
    (hW : DataW.Whole enc Tryd.prog Tryd.f7.params.toList Rows.fnExactNeedsGapSpec.vars false W args.toList ds gs before) (hL0 : laidMetH Tryd.prog Rows.fnExactNeedsGapRow.laid W) :
    Calls Tryd.prog 7 args W fun e W' => ∃ v, e = .returned v ∧ Rows.fnExactNeedsGapSpec.post enc Tryd.prog Tryd.f7 false true false false W args v W' := by
  have hL : laidMet Tryd.prog Rows.fnExactNeedsGapRow.laid W := hL0
  have hW' := hW
  obtain ⟨p, q, hA0, hV, rfl, hfz, hnd⟩ := hW
  have hA : DataW.TrodAll enc Tryd.prog W 0 (fun _ => true) true Tryd.f7.params.toList args.toList ds p := hA0
  rw [Tryd.params7] at hA hval
  obtain ⟨v0, vs0, d0, ds0, p0, q0, hargs, rfl, rfl, h0, r0⟩ := trodAll_cons hA
  obtain ⟨v1, vs1, d1, ds1, p1, q1, rfl, rfl, rfl, h1, r1⟩ := trodAll_cons r0
  obtain ⟨rfl, rfl, rfl⟩ := trodAll_nil r1
  obtain rfl : args = #[v0, v1] := by cases args; simp_all
  obtain ⟨e0, e1, rfl⟩ : ∃ e0 e1, gs = [e0, e1] := by
    have hlen := trodVars_len hV
    match gs, hlen with
    | [x0, x1], _ => exact ⟨x0, x1, rfl⟩
  obtain ⟨c0a, c0b, c0c, y0a, y0b, y0c, m0, rfl, rfl, rfl, hy0a, hy0b, hy0c⟩ := Joins.open_agg3 Tryd.underlying44 (by kernel_rfl) cellsToken (hval 0 44 v0 rfl rfl) h0
  obtain ⟨a0k, e0a, rfl, w0a⟩ := DataW.trod_int Tryd.underlying3 hy0a
  obtain ⟨a0s, e0b, rfl, w0b⟩ := DataW.trod_string Tryd.underlying9 hy0b
  obtain ⟨a0a, e0c, rfl, w0c⟩ := DataW.trod_int Tryd.underlying3 hy0c
  simp at e0a e0b e0c
  subst e0a e0b e0c
  obtain ⟨c1a, c1b, c1c, y1a, y1b, y1c, m1, rfl, rfl, rfl, hy1a, hy1b, hy1c⟩ := Joins.open_agg3 Tryd.underlying44 (by kernel_rfl) cellsToken (hval 1 44 v1 rfl rfl) h1
  obtain ⟨a1k, e1a, rfl, w1a⟩ := DataW.trod_int Tryd.underlying3 hy1a
  obtain ⟨a1s, e1b, rfl, w1b⟩ := DataW.trod_string Tryd.underlying9 hy1b
  obtain ⟨a1a, e1c, rfl, w1c⟩ := DataW.trod_int Tryd.underlying3 hy1c
  simp at e1a e1b e1c
  subst e1a e1b e1c
  clear hA0
  refine (walk a0k a0a a0s a1k a1a a1s W w0b w1b (spell.held hL)).mono fun e W' ⟨he, bel⟩ => ?_
  subst he
  exact ⟨_, rfl, _, _, _, [], _, _, hW', trodAll_mk1 (shut_bool Tryd.underlying4 _), (trodAll_cons_mk (Joins.shut_agg3 (y0 := (.lit (.int .i64 a0k), [])) (y1 := (.lit (.string a0s.data.toList), [])) (y2 := (.lit (.int .i64 a0a), [])) Tryd.underlying44 (by kernel_rfl) cellsToken ⟨1, by simp [DataW.trod, Tryd.underlying3, w0a]⟩ ⟨1, by simp [DataW.trod, Tryd.underlying9, w0b]⟩ ⟨1, by simp [DataW.trod, Tryd.underlying3, w0c]⟩) (trodAll_cons_mk (Joins.shut_agg3 (y0 := (.lit (.int .i64 a1k), [])) (y1 := (.lit (.string a1s.data.toList), [])) (y2 := (.lit (.int .i64 a1a), [])) Tryd.underlying44 (by kernel_rfl) cellsToken ⟨1, by simp [DataW.trod, Tryd.underlying3, w1a]⟩ ⟨1, by simp [DataW.trod, Tryd.underlying9, w1b]⟩ ⟨1, by simp [DataW.trod, Tryd.underlying3, w1c]⟩) trodAll_mk0)), Below.trodVars laidOut bel (by kernel_rfl) hV, bel.frame _, fun h => by cases h⟩

theorem laid_met (os : Os) : laidMet Tryd.prog Rows.fnExactNeedsGapRow.laid ((laidWorld os).forCall (fun _ _ => 0) ⟨#[], #[.agg #[.int .i64 0, .string ⟨#[]⟩, .int .i64 0], .agg #[.int .i64 0, .string ⟨#[]⟩, .int .i64 0]], []⟩).memory :=
  laidMet_of_run' 8 (by kernel_rfl) (by kernel_rfl)
theorem reads (os : Os) {H : Type} (enc : TypeId × Value → H) : ∃ places, DataW.whole enc Tryd.prog ((laidWorld os).forCall (fun _ _ => 0) ⟨#[], #[.agg #[.int .i64 0, .string ⟨#[]⟩, .int .i64 0], .agg #[.int .i64 0, .string ⟨#[]⟩, .int .i64 0]], []⟩).memory Tryd.f7.params.toList Rows.fnExactNeedsGapSpec.vars false #[Value.agg #[.int .i64 0, .string ⟨#[]⟩, .int .i64 0], .agg #[.int .i64 0, .string ⟨#[]⟩, .int .i64 0]].toList 8 = some ([.agg [.lit (.int .i64 0), .lit (.string []), .lit (.int .i64 0)], .agg [.lit (.int .i64 0), .lit (.string []), .lit (.int .i64 0)]], [Rows.laid_loop_example_g01543_impl_keywords, Rows.laid_loop_example_g01543_impl_operators], places) :=
  ⟨MemPlace.row ⟨0, 0, none⟩ 17 ++ MemPlace.row ⟨1, 0, none⟩ 39, by kernel_rfl⟩

set_option maxRecDepth 100000 in
theorem lifted (os : Os) (started : os.Started) (H : Type) (enc : TypeId × Value → H) (F : Stop.Interp) :
    ReturnsInHanded {} Tryd.checked os 7 .any ((OpenSpec.ofChange Rows.fnExactNeedsGapSpec).preRow enc Tryd.prog Tryd.f7 Rows.fnExactNeedsGapRow.domain false Rows.fnExactNeedsGapRow.laid) (((OpenSpec.ofChange Rows.fnExactNeedsGapSpec).at F).post enc Tryd.prog Tryd.f7 false true false false) := by
  obtain ⟨places, hx⟩ := reads os enc
  refine returnsInHanded_of_row (C := Tryd.checked) (s := OpenSpec.ofChange Rows.fnExactNeedsGapSpec) own started (by kernel_rfl) Tryd.func7
    (witness_row_at (enc := enc) (C := Tryd.checked) false (laidWorld os) #[.agg #[.int .i64 0, .string ⟨#[]⟩, .int .i64 0], .agg #[.int .i64 0, .string ⟨#[]⟩, .int .i64 0]] rfl (by kernel_rfl) (by kernel_rfl) (by kernel_rfl)
      (OpenSpec.preRow_of_cond 8 hx (by kernel_rfl) (fun k hk => by cases hk) (by kernel_rfl) (laid_met os))) ?_
  intro W base args ds gs before hval hW _ _ _ hL _ _
  exact contract H enc W base args ds gs before hval hW hL

theorem said : Rows.FnExactNeedsGapSaid :=
  OpenClaim.holds_of_cond 7 Tryd.f7 rfl rfl rfl rfl rfl rfl rfl ⟨rfl, rfl, rfl, rfl, rfl⟩ rfl rfl rfl rfl rfl (by kernel_rfl) Tryd.func7 (by kernel_rfl)
    (of_decide_eq_true (by kernel_rfl)) (by unfold Func.isWrapper; first | (rw [if_pos (by decide +kernel)]; kernel_rfl) | (rw [if_neg (by decide +kernel)]; exact ⟨rfl, rfl⟩))
    (fun os started H enc _ F => by rw [OpenClaim.pre_eq_preRow]; exact lifted os started H enc F)

/-- No parameter wants a stand-in; the program's own looks are as the card says. -/
theorem plain (f : FuncId) (fn : Func) (hf : Tryd.pinned.checked.prog.funcNamed "loop.example/g01543/laws.FnExactNeedsGap" = some f) (hfn : Tryd.pinned.checked.prog.funcs[f]? = some fn) :
    Rows.fnExactNeedsGapCard.stood.looks = Tryd.pinned.checked.prog.looks [] ∧ ∀ (j : Nat) t, fn.params[j]? = some t → Tryd.pinned.checked.prog.wantsStandIn t = false := by
  obtain rfl : f = 7 := Option.some.inj ((show Tryd.prog.funcNamed "loop.example/g01543/laws.FnExactNeedsGap" = some 7 by kernel_rfl).symm.trans hf) |>.symm
  obtain rfl : fn = Tryd.f7 := (Option.some.inj (Tryd.func7.symm.trans hfn)).symm
  refine ⟨by kernel_rfl, fun j t ht => ?_⟩
  rw [Tryd.params7] at ht
  have hm := Array.mem_of_getElem? ht
  simp only [List.mem_toArray, List.mem_cons, List.not_mem_nil, or_false] at hm
  rcases hm with rfl | rfl
  · exact (show Tryd.prog.wantsStandIn 44 = false by kernel_rfl)
  · exact (show Tryd.prog.wantsStandIn 44 = false by kernel_rfl)

end Go.Proofs.YtlbloemmabjmoaaDoor.lawGap
namespace Go.Proofs.YtlbloemmabjmoaaDoor
/-- The card. -/
theorem fnExactNeedsGap_card : Rows.FnExactNeedsGapCardSaid :=
  Claim7.holds_tied_plain_at .later [] _ _ _ _ lawGap.said (fun _ h => by cases h) (by kernel_rfl) (fun _ h => by cases h) fnExactNeedsGap_row_tie rfl ⟨rfl, rfl⟩ (by kernel_rfl) rfl lawGap.plain (by kernel_rfl)
end Go.Proofs.YtlbloemmabjmoaaDoor
