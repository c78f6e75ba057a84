/-
  'laws.FnExactFieldsOk' returns true at every node, and leaves it as it was: impl.FieldsOk and the model spec.FieldsOk give the same bool. The row lists impl's two tables of spellings (keywords, operators), tied to the program's text (the card), and says that they read behind the call as before. No other condition. What is listed is tied to the copy of the project that the seat holds (its packages impl, spec and laws, no test): of code elsewhere that could write these variables the card says nothing.
-/
import Derived.Test.YtkijebbggcbemaaDoorCards
import Derived.Test.YtkijebbggcbemaaDoorTie
import Derived.Test.YtkijebbggcbemaaDoorLaidKw
import Derived.Test.YtkijebbggcbemaaDoorOpenNd
import Derived.Test.YtkijebbggcbemaaDoorNdEq
import Derived.Test.YtkijebbggcbemaaDoorTreeOk
import Derived.OpenVars
import Derived.Deep.DeepHandedRow
import Derived.Lib.SmallJoins
import Derived.Stop.LaidErr
namespace Go.Proofs.YtkijebbggcbemaaDoor.lawFieldsOk
open Go.ChangeShapes Go.WideShapes Go.ChangeAt Go.RowKit
open Go.ChangeMaps (open_string shut_string)
open spell (Held held)
open nd
set_option linter.unusedVariables false

/-- Both boxes of the last comparison, with the rows of their kids. -/
structure Fin (w v W : World) (t : Nd) (a : Option Addr) (cap b : Nat) : Prop where
  x : rt.Bx w W t.k t.op t.s t.t (.slice a t.kids.length cap)
  y : rt.Bx v W t.k t.op t.s t.t (.slice (some ⟨b, 0, none⟩) t.kids.length t.kids.length)
  xi : Ints W.heap.size W a t.kids
  yi : Ints W.heap.size W (some ⟨b, 0, none⟩) t.kids
theorem Fin.drew {w v W : World} {t : Nd} {a : Option Addr} {cap b : Nat} (h : Fin w v W t a cap b) : Fin w v W.drew t a cap b :=
  ⟨⟨h.x.c0, h.x.c1, h.x.c2, h.x.c3, h.x.c4, h.x.b.drew, h.x.lt⟩, ⟨h.y.c0, h.y.c1, h.y.c2, h.y.c3, h.y.c4, h.y.b.drew, h.y.lt⟩, h.xi, h.yi⟩
theorem Fin.keep {w v W w1 : World} {t : Nd} {a : Option Addr} {cap b : Nat} (h : Fin w v W t a cap b) (hk : Below W.heap.size W w1) : Fin w v w1 t a cap b :=
  ⟨h.x.keep hk, h.y.keep hk, (h.xi.keep hk (Nat.le_refl _)).up hk.size, (h.yi.keep hk (Nat.le_refl _)).up hk.size⟩
theorem fin_start {w v W : World} {t : Nd} {a : Option Addr} {cap b : Nat} (h : Fin w v W t a cap b) :
    (W.cell? ⟨w.heap.size, 0, none⟩ = some (.int .i64 t.k) ∧ W.cell? ⟨w.heap.size, 1, none⟩ = some (.int .i64 t.op) ∧ W.cell? ⟨w.heap.size, 2, none⟩ = some (.string t.s) ∧ W.cell? ⟨w.heap.size, 3, none⟩ = some (.string t.t) ∧ W.cell? ⟨w.heap.size, 4, none⟩ = some (.slice a t.kids.length cap) ∧ W.cell? ⟨v.heap.size, 0, none⟩ = some (.int .i64 t.k) ∧ W.cell? ⟨v.heap.size, 1, none⟩ = some (.int .i64 t.op) ∧ W.cell? ⟨v.heap.size, 2, none⟩ = some (.string t.s) ∧ W.cell? ⟨v.heap.size, 3, none⟩ = some (.string t.t) ∧ W.cell? ⟨v.heap.size, 4, none⟩ = some (.slice (some ⟨b, 0, none⟩) t.kids.length t.kids.length)) ∧ Fin w v W t a cap b :=
  ⟨⟨h.x.c0, h.x.c1, h.x.c2, h.x.c3, h.x.c4, h.y.c0, h.y.c1, h.y.c2, h.y.c3, h.y.c4⟩, h⟩
theorem on {w W : World} {k op : Int} {s t : ByteArray} {v : Value} {a : Option Addr} {l : List Int} (h : Ints w.heap.size w a l) (x : rt.Bx w W k op s t v) : Ints W.heap.size W a l :=
  (h.keep x.b (Nat.le_refl _)).up x.b.size

set_option maxHeartbeats 3200000 in
/-- THE WALK: the law's own text. -/
theorem walk (t : Nd) (a : Option Addr) (cap : Nat) (w : World) (hf : t.fit) (hi : Ints w.heap.size w a t.kids) (hh : Held w) :
    Calls Tryd.prog 3 #[.agg #[.int .i64 t.k, .int .i64 t.op, .string t.s, .string t.t, .slice a t.kids.length cap]] w fun e w' => e = .returned (.bool true) ∧ Below w.heap.size w w' := by
  have HI := Lib.hid hi
  have HF := Lib.hid hf
  have HH := Lib.hid hh
  have HX := Lib.hid (rt.Bx.start w t.k t.op t.s t.t (.slice a t.kids.length cap) 24)
  clear hi hf hh
  by_cases h1 : ((t.s.size + t.t.size + t.kids.length : Nat) : Int) ≤ 1048576
  · obtain ⟨L, hL⟩ : ∃ L : Int, L = 1048576 - ((t.s.size + t.t.size + t.kids.length : Nat) : Int) := ⟨_, rfl⟩
    have H1 := Lib.hid (show leftI (t.s.size + t.t.size + t.kids.length) 1048576 = L by rw [hL]; exact left_yes h1)
    have hs : t.s.size ≤ 1048576 := by omega
    have ht : t.t.size ≤ 1048576 := by omega
    have hk : t.kids.length ≤ 1048576 := by omega
    have z1 : ¬ L < 0 := by omega
    obtain ⟨G, hG⟩ : ∃ G, G = rt.fieldsOk t.k t.op t.s t.t t.kids.length := ⟨_, rfl⟩
    have HG := Lib.hid hG
    have hgg : (G != G) = false := by simp
    clear h1 hL hG
    go_enter Tryd.func3, Tryd.ntmps3
    go_wp2_with fail
    refine (size_node t.k t.op t.s t.t a t.kids.length cap 1048576 _ (by omega) (by omega) HF.out.1 HF.out.2.1 HF.out.2.2).mono ?_
    rintro e w1 ⟨he, b1⟩
    rw [H1.out] at he
    subst he
    have X1 := Lib.hid (HX.out.keep b1)
    obtain ⟨c10, c11, c12, c13, c14, -, -⟩ := X1.out
    clear b1
    go_wp2_with fail
    refine (to_node t a cap _ hk (on HI.out X1.out)).mono ?_
    rintro e w2 ⟨p2, q2, rfl, b2, k2⟩
    have X2 := Lib.hid (X1.out.keep b2)
    clear b2 k2
    obtain ⟨c20, c21, c22, c23, c24, -, -⟩ := X2.out
    go_wp2_with fail
    refine (rt.spec_fields t.k t.op t.s t.t _ _ _ _ hs ht hk).mono ?_
    rw [← HG.out]
    rintro e w3 ⟨rfl, b3⟩
    have X3 := Lib.hid (X2.out.keep b3)
    clear b3
    obtain ⟨c30, c31, c32, c33, c34, -, -⟩ := X3.out
    go_wp2_with fail
    refine (to_node t a cap _ hk (on HI.out X3.out)).mono ?_
    rintro e w4 ⟨p4, q4, rfl, b4, k4⟩
    have X4 := Lib.hid (X3.out.keep b4)
    have K4 := Lib.hid k4.ints
    clear b4 k4
    go_wp2_with fail
    have Y4 := Lib.hid (rt.Bx.start w4 t.k t.op t.s t.t (.slice (some ⟨p4, 0, none⟩) t.kids.length t.kids.length) 27)
    have X5 := Lib.hid (X4.out.keep (tok.below_box w4 (.cells #[.int .i64 t.k, .int .i64 t.op, .string t.s, .string t.t, .slice (some ⟨p4, 0, none⟩) t.kids.length t.kids.length] 27)))
    refine (rt.impl_fields t.k t.op t.s t.t _ _ _ _ hs ht hk (HH.out.below X5.out.b)).mono ?_
    rw [← HG.out]
    rintro e w8 ⟨rfl, b8⟩
    have F8 := Lib.hid (Fin.mk (X5.out.keep b8) (Y4.out.keep b8) (on HI.out (X5.out.keep b8)) (on K4.out (Y4.out.keep b8)))
    clear b8
    go_wp2
    go_region_held3 (fun w' => (w'.cell? ⟨w.heap.size, 0, none⟩ = some (.int .i64 t.k) ∧ w'.cell? ⟨w.heap.size, 1, none⟩ = some (.int .i64 t.op) ∧ w'.cell? ⟨w.heap.size, 2, none⟩ = some (.string t.s) ∧ w'.cell? ⟨w.heap.size, 3, none⟩ = some (.string t.t) ∧ w'.cell? ⟨w.heap.size, 4, none⟩ = some (.slice a t.kids.length cap) ∧ w'.cell? ⟨w4.heap.size, 0, none⟩ = some (.int .i64 t.k) ∧ w'.cell? ⟨w4.heap.size, 1, none⟩ = some (.int .i64 t.op) ∧ w'.cell? ⟨w4.heap.size, 2, none⟩ = some (.string t.s) ∧ w'.cell? ⟨w4.heap.size, 3, none⟩ = some (.string t.t) ∧ w'.cell? ⟨w4.heap.size, 4, none⟩ = some (.slice (some ⟨p4, 0, none⟩) t.kids.length t.kids.length)) ∧ Fin w w4 w' t a cap p4)
      (first | exact fin_start F8.out.drew | exact fin_start F8.out | exact fin_start ((by assumption : _ ∧ Fin _ _ _ _ _ _ _).2.keep (by assumption)) | exact fin_start (by assumption : _ ∧ Fin _ _ _ _ _ _ _).2.drew)
      (first | (go_at_call 9; refine (to_node t a cap _ hk (by assumption : _ ∧ Fin _ _ _ _ _ _ _).2.xi).mono ?_; rintro e w9 ⟨p9, q9, rfl, b9, k9⟩; have K9 := Lib.hid k9.ints; clear k9) | (go_at_call 11; refine (eq_node t t _ _ _ _ _ hk hk (by assumption : _ ∧ Fin _ _ _ _ _ _ _).2.yi K9.out).mono ?_; rintro e wa ⟨he, ba⟩; rw [decide_eq_true rfl] at he; subst he))
    have HBZ := Lib.hid (by assumption : _ ∧ Fin _ _ _ _ _ _ _).2.x.b
    go_wp2
    go_ret
    exact ⟨rfl, HBZ.out⟩
  · have H1 := Lib.hid (show leftI (t.s.size + t.t.size + t.kids.length) 1048576 = -1 from left_no h1)
    clear h1
    go_enter Tryd.func3, Tryd.ntmps3
    go_wp2_with fail
    refine (size_node t.k t.op t.s t.t a t.kids.length cap 1048576 _ (by omega) (by omega) HF.out.1 HF.out.2.1 HF.out.2.2).mono ?_
    rintro e w1 ⟨he, b1⟩
    rw [H1.out] at he
    subst he
    have X1 := Lib.hid (HX.out.keep b1)
    clear b1
    go_wp2
    go_ret
    exact ⟨rfl, X1.out.b⟩
end Go.Proofs.YtkijebbggcbemaaDoor.lawFieldsOk
namespace Go.Proofs.YtkijebbggcbemaaDoor.lawFieldsOk
open Go.ChangeShapes Go.WideShapes Go.ChangeAt Go.RowKit
open Go.ChangeMaps (open_string shut_string)
theorem own : ownKnob Tryd.prog.godebug = none := by kernel_rfl
theorem laidOut : laidOutB Tryd.prog = true := by kernel_rfl

set_option maxRecDepth 100000 in
theorem contract (H : Type) (enc : TypeId × Value → H) (W : World) (base : Nat) (args : Array Value) (ds gs : List (DataW H)) (before : List MemPlace)
    (hval : ∀ (j : Nat) t v, Tryd.f3.params[j]? = some t → args[j]? = some v → Value.okWide Tryd.prog W .any base t v)
    (hW : DataW.Whole enc Tryd.prog Tryd.f3.params.toList Rows.fnExactFieldsOkSpec.vars false W args.toList ds gs before) (hL0 : laidMetH Tryd.prog Rows.fnExactFieldsOkRow.laid W) :
    Calls Tryd.prog 3 args W fun e W' => ∃ v, e = .returned v ∧ Rows.fnExactFieldsOkSpec.post enc Tryd.prog Tryd.f3 false true false false W args v W' := by
  have hL : laidMet Tryd.prog Rows.fnExactFieldsOkRow.laid W := hL0
  have hW' := hW
  obtain ⟨p, q, hA0, hV, rfl, hfz, hnd⟩ := hW
  have hA : DataW.TrodAll enc Tryd.prog W 0 (fun _ => true) true Tryd.f3.params.toList args.toList ds p := hA0
  rw [Tryd.params3] at hA hval
  obtain ⟨v0, vs0, d0, ds0, p0, q0, hargs, rfl, rfl, h0, r0⟩ := trodAll_cons hA
  obtain ⟨rfl, rfl, rfl⟩ := trodAll_nil r0
  obtain rfl : args = #[v0] := by cases args; simp_all
  obtain ⟨e0, e1, rfl⟩ : ∃ e0 e1, gs = [e0, e1] := by
    have hlen := trodVars_len hV
    match gs, hlen with
    | [x0, x1], _ => exact ⟨x0, x1, rfl⟩
  have k0 := h0
  have lt0 := nd.places_lt k0
  obtain ⟨a0, c0, cap0, rfl, n0, w0⟩ := nd.open_node (hval 0 24 v0 rfl rfl) h0
  clear hA0
  refine (walk a0 c0 cap0 W n0 w0 (spell.held hL)).mono fun e W' ⟨he, bel⟩ => ?_
  subst he
  exact ⟨_, rfl, _, _, _, [], _, _, hW', trodAll_mk1 (shut_bool Tryd.underlying4 _), (trodAll_cons_mk (Below.trod laidOut (by kernel_rfl) (of_decide_eq_true (by kernel_rfl)) k0 bel lt0) trodAll_mk0), Below.trodVars laidOut bel (by kernel_rfl) hV, bel.frame _, fun h => by cases h⟩

theorem laid_met (os : Os) : laidMet Tryd.prog Rows.fnExactFieldsOkRow.laid ((laidWorld os).forCall (fun _ _ => 0) ⟨#[], #[.agg #[.int .i64 0, .int .i64 0, .string ⟨#[]⟩, .string ⟨#[]⟩, .slice none 0 0]], []⟩).memory :=
  laidMet_of_run' 8 (by kernel_rfl) (by kernel_rfl)
theorem reads (os : Os) {H : Type} (enc : TypeId × Value → H) : ∃ places, DataW.whole enc Tryd.prog ((laidWorld os).forCall (fun _ _ => 0) ⟨#[], #[.agg #[.int .i64 0, .int .i64 0, .string ⟨#[]⟩, .string ⟨#[]⟩, .slice none 0 0]], []⟩).memory Tryd.f3.params.toList Rows.fnExactFieldsOkSpec.vars false #[Value.agg #[.int .i64 0, .int .i64 0, .string ⟨#[]⟩, .string ⟨#[]⟩, .slice none 0 0]].toList 8 = some ([.agg [.lit (.int .i64 0), .lit (.int .i64 0), .lit (.string []), .lit (.string []), .nil]], [Rows.laid_loop_example_g01543_impl_keywords, Rows.laid_loop_example_g01543_impl_operators], places) :=
  ⟨MemPlace.row ⟨0, 0, none⟩ 17 ++ MemPlace.row ⟨1, 0, none⟩ 39, by kernel_rfl⟩

set_option maxRecDepth 100000 in
theorem lifted (os : Os) (started : os.Started) (H : Type) (enc : TypeId × Value → H) (F : Stop.Interp) :
    ReturnsInHanded {} Tryd.checked os 3 .any ((OpenSpec.ofChange Rows.fnExactFieldsOkSpec).preRow enc Tryd.prog Tryd.f3 Rows.fnExactFieldsOkRow.domain false Rows.fnExactFieldsOkRow.laid) (((OpenSpec.ofChange Rows.fnExactFieldsOkSpec).at F).post enc Tryd.prog Tryd.f3 false true false false) := by
  obtain ⟨places, hx⟩ := reads os enc
  refine returnsInHanded_of_row (C := Tryd.checked) (s := OpenSpec.ofChange Rows.fnExactFieldsOkSpec) own started (by kernel_rfl) Tryd.func3
    (witness_row_at (enc := enc) (C := Tryd.checked) false (laidWorld os) #[.agg #[.int .i64 0, .int .i64 0, .string ⟨#[]⟩, .string ⟨#[]⟩, .slice none 0 0]] rfl (by kernel_rfl) (by kernel_rfl) (by kernel_rfl)
      (OpenSpec.preRow_of_cond 8 hx (by kernel_rfl) (fun k hk => by cases hk) (by kernel_rfl) (laid_met os))) ?_
  intro W base args ds gs before hval hW _ _ _ hL _ _
  exact contract H enc W base args ds gs before hval hW hL

theorem said : Rows.FnExactFieldsOkSaid :=
  OpenClaim.holds_of_cond 3 Tryd.f3 rfl rfl rfl rfl rfl rfl rfl ⟨rfl, rfl, rfl, rfl, rfl⟩ rfl rfl rfl rfl rfl (by kernel_rfl) Tryd.func3 (by kernel_rfl)
    (of_decide_eq_true (by kernel_rfl)) (by unfold Func.isWrapper; first | (rw [if_pos (by decide +kernel)]; kernel_rfl) | (rw [if_neg (by decide +kernel)]; exact ⟨rfl, rfl⟩))
    (fun os started H enc _ F => by rw [OpenClaim.pre_eq_preRow]; exact lifted os started H enc F)

/-- No parameter wants a stand-in; the program's own looks are as the card says. -/
theorem plain (f : FuncId) (fn : Func) (hf : Tryd.pinned.checked.prog.funcNamed "loop.example/g01543/laws.FnExactFieldsOk" = some f) (hfn : Tryd.pinned.checked.prog.funcs[f]? = some fn) :
    Rows.fnExactFieldsOkCard.stood.looks = Tryd.pinned.checked.prog.looks [] ∧ ∀ (j : Nat) t, fn.params[j]? = some t → Tryd.pinned.checked.prog.wantsStandIn t = false := by
  obtain rfl : f = 3 := Option.some.inj ((show Tryd.prog.funcNamed "loop.example/g01543/laws.FnExactFieldsOk" = some 3 by kernel_rfl).symm.trans hf) |>.symm
  obtain rfl : fn = Tryd.f3 := (Option.some.inj (Tryd.func3.symm.trans hfn)).symm
  refine ⟨by kernel_rfl, fun j t ht => ?_⟩
  rw [Tryd.params3] at ht
  have hm := Array.mem_of_getElem? ht
  simp only [List.mem_toArray, List.mem_cons, List.not_mem_nil, or_false] at hm
  rcases hm with rfl
  · exact (show Tryd.prog.wantsStandIn 24 = false by kernel_rfl)

end Go.Proofs.YtkijebbggcbemaaDoor.lawFieldsOk
namespace Go.Proofs.YtkijebbggcbemaaDoor
/-- The card. -/
theorem fnExactFieldsOk_card : Rows.FnExactFieldsOkCardSaid :=
  Claim7.holds_tied_plain_at .later [] _ _ _ _ lawFieldsOk.said (fun _ h => by cases h) (by kernel_rfl) (fun _ h => by cases h) fnExactFieldsOk_row_tie rfl ⟨rfl, rfl⟩ (by kernel_rfl) rfl lawFieldsOk.plain (by kernel_rfl)
end Go.Proofs.YtkijebbggcbemaaDoor
