/-
  'laws.FnExactLex' returns true at every text, and leaves it as it was: impl.Lex and the model spec.Lex give the same tokens and the same fault, and the tokens that impl.Lex hands back lie in memory of their own: what is written into them stands through a second call and turns nothing else. The row lists impl's two tables of spellings (keywords, operators), tied to the program's text (the card), and says that they read behind the call as before. No other condition. What is listed is tied to the copy of the project that the seat holds (its packages impl, spec and laws, no test): of code elsewhere that could write these variables the card says nothing.
-/
import Derived.Test.YtlbloemmabjmoaaDoorCards
import Derived.Test.YtlbloemmabjmoaaDoorTie
import Derived.Test.YtlbloemmabjmoaaDoorLaidKw
import Derived.Test.YtlbloemmabjmoaaDoorLexSpec
import Derived.Test.YtlbloemmabjmoaaDoorMark
import Derived.OpenVars
import Derived.Deep.DeepHandedRow
import Derived.Lib.SmallJoins
import Derived.Stop.LaidErr
namespace Go.Proofs.YtlbloemmabjmoaaDoor.lawLex
open Go.ChangeShapes Go.WideShapes Go.ChangeAt Go.RowKit
open Go.ChangeMaps (open_string shut_string)
open spell (Held held)
open tk own lex mark
set_option linter.unusedVariables false

/-- A fault in its box. -/
def FB (g : Nat) (k a : Int) (w : World) : Prop := w.heap[g]? = some (.cells #[.int .i64 k, .int .i64 a] 28 (0, 0))
theorem FB.lt {g : Nat} {k a : Int} {w : World} (h : FB g k a w) : g < w.heap.size := by
  rcases Nat.lt_or_ge g w.heap.size with h' | h'
  · exact h'
  · unfold FB at h; rw [Array.getElem?_eq_none h'] at h; cases h
theorem FB.c {g : Nat} {k a : Int} {w : World} (h : FB g k a w) : w.cell? ⟨g, 0, none⟩ = some (.int .i64 k) ∧ w.cell? ⟨g, 1, none⟩ = some (.int .i64 a) :=
  ⟨by rw [cell_of_row w g 0 _ _ _ h]; rfl, by rw [cell_of_row w g 1 _ _ _ h]; rfl⟩
theorem FB.keep {B g : Nat} {k a : Int} {w w' : World} (h : FB g k a w) (hb : Below B w w') (hg : g < B) : FB g k a w' := (hb.block g hg).trans h

set_option maxHeartbeats 3200000 in
/-- THE WALK: the law's own text. -/
theorem walk (s : ByteArray) (w : World) (hs : s.size ≤ maxLen) (hh : Held w) :
    Calls Tryd.prog 5 #[.string s] w fun e w' => e = .returned (.bool true) ∧ Below w.heap.size w w' := by
  have HH := Lib.hid hh
  clear hh
  by_cases hbig : 1048576 < s.size
  · go_enter Tryd.func5, Tryd.ntmps5
    go_wp2
    go_ret
    exact ⟨rfl, Below.refl _ _⟩
  have hs2 : s.size ≤ 1048576 := by omega
  have hgt : decide (1048576 < s.size) = false := by rw [decide_eq_false_iff_not]; exact hbig
  obtain ⟨F, hF⟩ : ∃ F, F = lexF s := ⟨_, rfl⟩
  have hlen := lexF_len s
  rw [← hF] at hlen
  obtain ⟨l, k, f⟩ := F
  simp only at hlen
  have HF := Lib.hid hF
  clear hbig hF
  go_enter Tryd.func5, Tryd.ntmps5
  go_wp2_with fail
  refine (spec_lex s _ hs2).mono ?_
  rintro e w1 ⟨v0, he, b1, o1⟩
  rw [← HF.out] at he o1
  simp only at he o1
  subst he
  obtain ⟨a0, c0, rfl⟩ := o1.form
  -- behind spec.Lex and its fault's box
  obtain ⟨W1, hW1⟩ : ∃ W1, W1 = w1.alloc (.cells #[.int .i64 k, .int .i64 f] 28) := ⟨_, rfl⟩
  have X1 := Lib.hid (show FB w1.heap.size k f W1 by rw [hW1]; exact heap_alloc_new w1 _)
  have L1 := Lib.hid (show Lies W1.heap.size W1 a0 l by rw [hW1]; exact ((o1.lies rfl).keep ((Below.refl w1.heap.size w1).alloc (Nat.le_refl _) _) (Nat.le_refl _)).up (by simp))
  have B1 := Lib.hid (show Below w.heap.size w W1 by rw [hW1]; exact b1.alloc b1.size _)
  have S1 := Lib.hid (show W1.heap.size = w1.heap.size + 1 by rw [hW1]; simp)
  have HW1 := Lib.hid hW1
  clear b1 o1 hW1
  go_wp2_with fail
  rw [← HW1.out]
  refine (impl_lex s W1 hs2 (HH.out.below B1.out)).mono ?_
  rintro e w2 ⟨v1, he, b2, o2⟩
  rw [← HF.out] at he o2
  simp only at he o2
  subst he
  obtain ⟨a1, c1, rfl⟩ := o2.form
  obtain ⟨W2, hW2⟩ : ∃ W2, W2 = w2.alloc (.cells #[.int .i64 k, .int .i64 f] 28) := ⟨_, rfl⟩
  have X2 := Lib.hid (show FB w2.heap.size k f W2 by rw [hW2]; exact heap_alloc_new w2 _)
  have B12 := Lib.hid (show Below W1.heap.size W1 W2 by rw [hW2]; exact b2.alloc b2.size _)
  have O2 := Lib.hid (show Own W1.heap.size (.slice a1 l.length c1) l W2 by rw [hW2]; exact o2.keep ((Below.refl w2.heap.size w2).alloc (Nat.le_refl _) _) (Nat.le_refl _))
  have S2 := Lib.hid (show W2.heap.size = w2.heap.size + 1 by rw [hW2]; simp)
  have S12 := Lib.hid (show W1.heap.size ≤ w2.heap.size from b2.size)
  have HW2 := Lib.hid hW2
  clear b2 o2 hW2
  go_wp2_with fail
  rw [← HW2.out]
  refine (eq_toks l l a1 a0 c1 c0 W2 (by omega) (by omega) (O2.out.lies rfl) ((L1.out.keep B12.out (Nat.le_refl _)).up B12.out.size)).mono ?_
  rintro e w3 ⟨he, b3⟩
  rw [decide_eq_true rfl] at he
  subst he
  have B3 := Lib.hid b3
  have B13 := Lib.hid (B12.out.trans (b3.mono B12.out.size))
  have X23 := Lib.hid (X2.out.keep b3 X2.out.lt)
  have X13 := Lib.hid (X1.out.keep B13.out X1.out.lt)
  obtain ⟨x0, x1⟩ := X13.out.c
  obtain ⟨y0, y1⟩ := X23.out.c
  clear b3
  go_wp2_with fail
  refine (eq_fault k f _).mono ?_
  rintro e w4 ⟨rfl, b4⟩
  have B14 := Lib.hid (B13.out.trans (b4.mono B13.out.size))
  have O4 := Lib.hid ((O2.out.keep B3.out (Nat.le_refl _)).keep b4 (Nat.le_refl _))
  clear b4 x0 x1 y0 y1
  go_wp2_with fail
  obtain ⟨m, hm⟩ : ∃ m : Nat, m = 1 + 3 * l.length := ⟨_, rfl⟩
  have HM := Lib.hid hm
  have z1 : ¬ (m : Int) < 0 := by omega
  have z2 : ((m : Int) != (m : Int)) = false := by simp
  clear hm
  refine (mark_own O4.out hlen B14.out.size).mono ?_
  rintro e w5 ⟨he, b5, l5⟩
  rw [← HM.out] at he
  subst he
  have B15 := Lib.hid (B14.out.trans b5)
  have L5 := Lib.hid l5
  clear b5 l5
  go_wp2_with fail
  refine (held_toks a1 c1 l.length 1 w5 (by omega) (by omega) (by omega) L5.out).mono ?_
  rintro e w6 ⟨he, b6⟩
  rw [← HM.out] at he
  subst he
  have B16 := Lib.hid (B15.out.trans (b6.mono B15.out.size))
  have L6 := Lib.hid ((L5.out.keep b6 (Nat.le_refl _)).up b6.size)
  clear b6
  go_wp2_with fail
  refine (impl_lex s w6 hs2 (HH.out.below (B1.out.trans (B16.out.mono B1.out.size)))).mono ?_
  rintro e w7 ⟨v2, he, b7, o7⟩
  rw [← HF.out] at he o7
  simp only at he o7
  subst he
  obtain ⟨a2, c2, rfl⟩ := o7.form
  obtain ⟨W7, hW7⟩ : ∃ W7, W7 = w7.alloc (.cells #[.int .i64 k, .int .i64 f] 28) := ⟨_, rfl⟩
  have X7 := Lib.hid (show FB w7.heap.size k f W7 by rw [hW7]; exact heap_alloc_new w7 _)
  have B67 := Lib.hid (show Below w6.heap.size w6 W7 by rw [hW7]; exact b7.alloc b7.size _)
  have B17 := Lib.hid (B16.out.trans (B67.out.mono B16.out.size))
  have O7 := Lib.hid (show Own w6.heap.size (.slice a2 l.length c2) l W7 by rw [hW7]; exact o7.keep ((Below.refl w7.heap.size w7).alloc (Nat.le_refl _) _) (Nat.le_refl _))
  have HW7 := Lib.hid hW7
  clear b7 o7 hW7
  go_wp2_with fail
  rw [← HW7.out]
  refine (eq_toks l l a2 a0 c2 c0 W7 (by omega) (by omega) (O7.out.lies rfl) ((L1.out.keep B17.out (Nat.le_refl _)).up B17.out.size)).mono ?_
  rintro e w8 ⟨he, b8⟩
  rw [decide_eq_true rfl] at he
  subst he
  have B18 := Lib.hid (B17.out.trans (b8.mono B17.out.size))
  have X78 := Lib.hid (X7.out.keep b8 X7.out.lt)
  have X18 := Lib.hid (X1.out.keep B18.out X1.out.lt)
  have L8 := Lib.hid (((L6.out.keep B67.out (Nat.le_refl _)).keep b8 B67.out.size).up (Nat.le_trans B67.out.size b8.size))
  obtain ⟨x0, x1⟩ := X18.out.c
  obtain ⟨y0, y1⟩ := X78.out.c
  clear b8
  go_wp2_with fail
  refine (eq_fault k f _).mono ?_
  rintro e w9 ⟨rfl, b9⟩
  have B19 := Lib.hid (B18.out.trans (b9.mono B18.out.size))
  have L9 := Lib.hid ((L8.out.keep b9 (Nat.le_refl _)).up b9.size)
  clear b9 x0 x1 y0 y1
  go_wp2_with fail
  refine (held_toks a1 c1 l.length 1 w9 (by omega) (by omega) (by omega) L9.out).mono ?_
  rintro e wa ⟨he, ba⟩
  rw [← HM.out] at he
  subst he
  have Ba := Lib.hid (B1.out.trans ((B19.out.trans (ba.mono B19.out.size)).mono B1.out.size))
  clear ba
  go_wp2
  go_ret
  exact ⟨rfl, Ba.out⟩
end Go.Proofs.YtlbloemmabjmoaaDoor.lawLex
namespace Go.Proofs.YtlbloemmabjmoaaDoor.lawLex
open Go.ChangeShapes Go.WideShapes Go.ChangeAt Go.RowKit
open Go.ChangeMaps (open_string shut_string)
theorem own : ownKnob Tryd.prog.godebug = none := by kernel_rfl
theorem laidOut : laidOutB Tryd.prog = true := by kernel_rfl

set_option maxRecDepth 100000 in
theorem contract (H : Type) (enc : TypeId × Value → H) (W : World) (base : Nat) (args : Array Value) (ds gs : List (DataW H)) (before : List MemPlace)
    (hval : ∀ (j : Nat) t v, Tryd.f5.params[j]? = some t → args[j]? = some v → Value.okWide Tryd.prog W .any base t v)
    (hW : DataW.Whole enc Tryd.prog Tryd.f5.params.toList Rows.fnExactLexSpec.vars false W args.toList ds gs before) (hL0 : laidMetH Tryd.prog Rows.fnExactLexRow.laid W) :
    Calls Tryd.prog 5 args W fun e W' => ∃ v, e = .returned v ∧ Rows.fnExactLexSpec.post enc Tryd.prog Tryd.f5 false true false false W args v W' := by
  have hL : laidMet Tryd.prog Rows.fnExactLexRow.laid W := hL0
  have hW' := hW
  obtain ⟨p, q, hA0, hV, rfl, hfz, hnd⟩ := hW
  have hA : DataW.TrodAll enc Tryd.prog W 0 (fun _ => true) true Tryd.f5.params.toList args.toList ds p := hA0
  rw [Tryd.params5] at hA hval
  obtain ⟨v0, vs0, d0, ds0, p0, q0, hargs, rfl, rfl, h0, r0⟩ := trodAll_cons hA
  obtain ⟨rfl, rfl, rfl⟩ := trodAll_nil r0
  obtain rfl : args = #[v0] := by cases args; simp_all
  obtain ⟨e0, e1, rfl⟩ : ∃ e0 e1, gs = [e0, e1] := by
    have hlen := trodVars_len hV
    match gs, hlen with
    | [x0, x1], _ => exact ⟨x0, x1, rfl⟩
  obtain ⟨a0, rfl, rfl, rfl, w0⟩ := open_string Tryd.underlying9 (hval 0 9 v0 rfl rfl) h0
  clear hA0
  refine (walk a0 W w0 (spell.held hL)).mono fun e W' ⟨he, bel⟩ => ?_
  subst he
  exact ⟨_, rfl, _, _, _, [], _, _, hW', trodAll_mk1 (shut_bool Tryd.underlying4 _), (trodAll_cons_mk (shut_string Tryd.underlying9 w0) trodAll_mk0), Below.trodVars laidOut bel (by kernel_rfl) hV, bel.frame _, fun h => by cases h⟩

theorem laid_met (os : Os) : laidMet Tryd.prog Rows.fnExactLexRow.laid ((laidWorld os).forCall (fun _ _ => 0) ⟨#[], #[.string ⟨#[]⟩], []⟩).memory :=
  laidMet_of_run' 8 (by kernel_rfl) (by kernel_rfl)
theorem reads (os : Os) {H : Type} (enc : TypeId × Value → H) : ∃ places, DataW.whole enc Tryd.prog ((laidWorld os).forCall (fun _ _ => 0) ⟨#[], #[.string ⟨#[]⟩], []⟩).memory Tryd.f5.params.toList Rows.fnExactLexSpec.vars false #[Value.string ⟨#[]⟩].toList 8 = some ([.lit (.string [])], [Rows.laid_loop_example_g01543_impl_keywords, Rows.laid_loop_example_g01543_impl_operators], places) :=
  ⟨MemPlace.row ⟨0, 0, none⟩ 17 ++ MemPlace.row ⟨1, 0, none⟩ 39, by kernel_rfl⟩

set_option maxRecDepth 100000 in
theorem lifted (os : Os) (started : os.Started) (H : Type) (enc : TypeId × Value → H) (F : Stop.Interp) :
    ReturnsInHanded {} Tryd.checked os 5 .any ((OpenSpec.ofChange Rows.fnExactLexSpec).preRow enc Tryd.prog Tryd.f5 Rows.fnExactLexRow.domain false Rows.fnExactLexRow.laid) (((OpenSpec.ofChange Rows.fnExactLexSpec).at F).post enc Tryd.prog Tryd.f5 false true false false) := by
  obtain ⟨places, hx⟩ := reads os enc
  refine returnsInHanded_of_row (C := Tryd.checked) (s := OpenSpec.ofChange Rows.fnExactLexSpec) own started (by kernel_rfl) Tryd.func5
    (witness_row_at (enc := enc) (C := Tryd.checked) false (laidWorld os) #[.string ⟨#[]⟩] rfl (by kernel_rfl) (by kernel_rfl) (by kernel_rfl)
      (OpenSpec.preRow_of_cond 8 hx (by kernel_rfl) (fun k hk => by cases hk) (by kernel_rfl) (laid_met os))) ?_
  intro W base args ds gs before hval hW _ _ _ hL _ _
  exact contract H enc W base args ds gs before hval hW hL

theorem said : Rows.FnExactLexSaid :=
  OpenClaim.holds_of_cond 5 Tryd.f5 rfl rfl rfl rfl rfl rfl rfl ⟨rfl, rfl, rfl, rfl, rfl⟩ rfl rfl rfl rfl rfl (by kernel_rfl) Tryd.func5 (by kernel_rfl)
    (of_decide_eq_true (by kernel_rfl)) (by unfold Func.isWrapper; first | (rw [if_pos (by decide +kernel)]; kernel_rfl) | (rw [if_neg (by decide +kernel)]; exact ⟨rfl, rfl⟩))
    (fun os started H enc _ F => by rw [OpenClaim.pre_eq_preRow]; exact lifted os started H enc F)

/-- No parameter wants a stand-in; the program's own looks are as the card says. -/
theorem plain (f : FuncId) (fn : Func) (hf : Tryd.pinned.checked.prog.funcNamed "loop.example/g01543/laws.FnExactLex" = some f) (hfn : Tryd.pinned.checked.prog.funcs[f]? = some fn) :
    Rows.fnExactLexCard.stood.looks = Tryd.pinned.checked.prog.looks [] ∧ ∀ (j : Nat) t, fn.params[j]? = some t → Tryd.pinned.checked.prog.wantsStandIn t = false := by
  obtain rfl : f = 5 := Option.some.inj ((show Tryd.prog.funcNamed "loop.example/g01543/laws.FnExactLex" = some 5 by kernel_rfl).symm.trans hf) |>.symm
  obtain rfl : fn = Tryd.f5 := (Option.some.inj (Tryd.func5.symm.trans hfn)).symm
  refine ⟨by kernel_rfl, fun j t ht => ?_⟩
  rw [Tryd.params5] at ht
  have hm := Array.mem_of_getElem? ht
  simp only [List.mem_toArray, List.mem_cons, List.not_mem_nil, or_false] at hm
  rcases hm with rfl
  · exact (show Tryd.prog.wantsStandIn 9 = false by kernel_rfl)

end Go.Proofs.YtlbloemmabjmoaaDoor.lawLex
namespace Go.Proofs.YtlbloemmabjmoaaDoor
/-- The card. -/
theorem fnExactLex_card : Rows.FnExactLexCardSaid :=
  Claim7.holds_tied_plain_at .later [] _ _ _ _ lawLex.said (fun _ h => by cases h) (by kernel_rfl) (fun _ h => by cases h) fnExactLex_row_tie rfl ⟨rfl, rfl⟩ (by kernel_rfl) rfl lawLex.plain (by kernel_rfl)
end Go.Proofs.YtlbloemmabjmoaaDoor
