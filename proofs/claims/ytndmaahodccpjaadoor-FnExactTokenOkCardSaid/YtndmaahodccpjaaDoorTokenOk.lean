/-
  'laws.FnExactTokenOk' returns true at every token, and leaves it as it was: impl.TokenOk and the model spec.TokenOk give the same bool. The row lists impl's two tables of spellings (keywords, operators), tied to the program's text (the card), and says that they read behind the call as before. No other condition. What is listed is tied to the copy of the project that the seat holds (its packages impl, spec and laws, no test): of code elsewhere that could write these variables the card says nothing.
-/
import Derived.Test.YtndmaahodccpjaaDoorCards
import Derived.Test.YtndmaahodccpjaaDoorTie
import Derived.Test.YtndmaahodccpjaaDoorBase
import Derived.Test.YtndmaahodccpjaaDoorVars
import Derived.Test.YtndmaahodccpjaaDoorSpell
import Derived.Test.YtndmaahodccpjaaDoorLaidKw
import Derived.Test.YtndmaahodccpjaaDoorTok
import Derived.WalkKit
import Derived.ProofKit
import Derived.OpenShut
import Derived.OpenVars
import Derived.ShutString
import Derived.ChangeOld
import Derived.Below
import Derived.WalkSpells
import Derived.WalkLawsBesides
import Derived.Deep.DeepHandedRow
import Derived.Lib.SmallJoins
import Derived.Stop.LaidErr
namespace Go.Proofs.YtndmaahodccpjaaDoor.lawTokenOk
open Go.ChangeShapes Go.WideShapes Go.ChangeAt Go.RowKit
open Go.ChangeMaps (open_string shut_string)
open spell (Held held)
set_option linter.unusedVariables false

theorem size_ok (k a : Int) (s : ByteArray) (w : World) (hs : s.size ≤ 1048576) :
    Calls Tryd.prog 30 #[.agg #[.int .i64 k, .string s, .int .i64 a], .int .i64 1048576] w fun e w' => e = .returned (.int .i64 (1048576 - (s.size : Int))) ∧ Below w.heap.size w w' := by
  have h1 : ¬ (1048576 - (s.size : Int)) < 0 := by omega
  go_enter Tryd.func30, Tryd.ntmps30
  go_wp2
  go_ret
  exact ⟨rfl, (Below.refl _ _).alloc (Nat.le_refl _) _⟩
theorem size_no (k a : Int) (s : ByteArray) (w : World) (hs : 1048576 < s.size) (hm : s.size ≤ maxLen) :
    Calls Tryd.prog 30 #[.agg #[.int .i64 k, .string s, .int .i64 a], .int .i64 1048576] w fun e w' => e = .returned (.int .i64 (-1)) ∧ Below w.heap.size w w' := by
  unfold maxLen at hm
  have h1 : (1048576 - (s.size : Int)) < 0 := by omega
  go_enter Tryd.func30, Tryd.ntmps30
  go_wp2
  go_ret
  exact ⟨rfl, (Below.refl _ _).alloc (Nat.le_refl _) _⟩

theorem to_token (k a : Int) (s : ByteArray) (w : World) :
    Calls Tryd.prog 32 #[.agg #[.int .i64 k, .string s, .int .i64 a]] w fun e w' => e = .returned (.agg #[.int .i64 k, .string s, .int .i64 a]) ∧ Below w.heap.size w w' := by
  go_enter Tryd.func32, Tryd.ntmps32
  go_wp2
  refine bodyPost_ret (v := .agg #[.int .i64 k, .string s, .int .i64 a]) (by simp [results, Tryd.results32, go_sem]) rfl ⟨rfl, ?_⟩
  exact (((Below.refl _ _).alloc (Nat.le_refl _) _).alloc (by simp) _).alloc (by simp; omega) _

/-- The box of the law's own token. -/
def Box (w : World) (k a : Int) (s : ByteArray) (W : World) : Prop := W.heap[w.heap.size]? = some (.cells #[.int .i64 k, .string s, .int .i64 a] 39 (0, 0))
theorem Box.start (w : World) (k a : Int) (s : ByteArray) : Box w k a s (w.alloc (.cells #[.int .i64 k, .string s, .int .i64 a] 39)) := heap_alloc_new w _
theorem Box.lt {w W : World} {k a : Int} {s : ByteArray} (h : Box w k a s W) : w.heap.size < W.heap.size := by
  rcases Nat.lt_or_ge w.heap.size W.heap.size with h' | h'
  · exact h'
  · unfold Box at h; rw [Array.getElem?_eq_none h'] at h; cases h
theorem Box.keep {w W W' : World} {k a : Int} {s : ByteArray} (h : Box w k a s W) (hb : Below W.heap.size W W') : Box w k a s W' := (hb.block _ h.lt).trans h
theorem Box.cells {w W : World} {k a : Int} {s : ByteArray} (h : Box w k a s W) : W.cell? ⟨w.heap.size, 0, none⟩ = some (.int .i64 k) ∧ W.cell? ⟨w.heap.size, 1, none⟩ = some (.string s) ∧ W.cell? ⟨w.heap.size, 2, none⟩ = some (.int .i64 a) :=
  ⟨by rw [cell_of_row W _ 0 _ _ _ h]; rfl, by rw [cell_of_row W _ 1 _ _ _ h]; rfl, by rw [cell_of_row W _ 2 _ _ _ h]; rfl⟩

set_option maxHeartbeats 1600000 in
/-- THE WALK: the law's own text. -/
theorem walk (k a : Int) (s : ByteArray) (w : World) (hs : s.size ≤ maxLen) (hh : Held w) :
    Calls Tryd.prog 6 #[.agg #[.int .i64 k, .string s, .int .i64 a]] w fun e w' => e = .returned (.bool true) ∧ Below w.heap.size w w' := by
  have HH := Lib.hid hh
  have B0 := Lib.hid (Box.start w k a s)
  have b0 := Lib.hid ((Below.refl w.heap.size w).alloc (Nat.le_refl _) (.cells #[.int .i64 k, .string s, .int .i64 a] 39))
  clear hh
  by_cases hbig : 1048576 < s.size
  · go_enter Tryd.func6, Tryd.ntmps6
    go_wp2_with fail
    refine (size_no k a s _ hbig hs).mono ?_
    rintro e w1 ⟨rfl, b1⟩
    have B1 := Lib.hid (b0.out.trans (b1.mono (Nat.le_of_lt B0.out.lt)))
    clear b1
    go_wp2
    go_ret
    exact ⟨rfl, B1.out⟩
  · go_enter Tryd.func6, Tryd.ntmps6
    go_wp2_with fail
    refine (size_ok k a s _ (by omega)).mono ?_
    rintro e w1 ⟨rfl, b1⟩
    have h1 : ¬ (1048576 - (s.size : Int)) < 0 := by omega
    have X1 := Lib.hid (B0.out.keep b1)
    have b1' := Lib.hid (b0.out.trans (b1.mono (Nat.le_of_lt B0.out.lt)))
    obtain ⟨c0, c1, c2⟩ := X1.out.cells
    clear b1
    go_wp2_with fail
    refine (to_token k a s _).mono ?_
    rintro e w2 ⟨rfl, b2⟩
    have X2 := Lib.hid (X1.out.keep b2)
    have b2' := Lib.hid (b1'.out.trans (b2.mono (Nat.le_of_lt X1.out.lt)))
    clear b2 c0 c1 c2
    go_wp2_with fail
    refine (tok.spec_tok k a s _ (by omega)).mono ?_
    rintro e w3 ⟨rfl, b3⟩
    have X3 := Lib.hid (X2.out.keep b3)
    have b3' := Lib.hid (b2'.out.trans (b3.mono (Nat.le_of_lt X2.out.lt)))
    obtain ⟨c0, c1, c2⟩ := X3.out.cells
    clear b3
    go_wp2_with fail
    refine (to_token k a s _).mono ?_
    rintro e w4 ⟨rfl, b4⟩
    have b4' := Lib.hid (b3'.out.trans (b4.mono (Nat.le_of_lt X3.out.lt)))
    have X4 := Lib.hid (X3.out.keep b4)
    clear b4 c0 c1 c2
    go_wp2_with fail
    refine (tok.impl_tok k a s _ (by omega) (HH.out.below b4'.out)).mono ?_
    rintro e w5 ⟨rfl, b5⟩
    have b5' := Lib.hid (b4'.out.trans (b5.mono (Nat.le_of_lt X4.out.lt)))
    clear b5
    go_wp2
    go_ret
    exact ⟨rfl, b5'.out⟩
end Go.Proofs.YtndmaahodccpjaaDoor.lawTokenOk
namespace Go.Proofs.YtndmaahodccpjaaDoor.lawTokenOk
open Go.ChangeShapes Go.WideShapes Go.ChangeAt Go.RowKit
open Go.ChangeMaps (open_string shut_string)
theorem own : ownKnob Tryd.prog.godebug = none := by kernel_rfl
theorem cellsToken : Tryd.prog.cellsOf 39 = 3 := by kernel_rfl
theorem laidOut : laidOutB Tryd.prog = true := by kernel_rfl

set_option maxRecDepth 100000 in
theorem contract (H : Type) (enc : TypeId × Value → H) (W : World) (base : Nat) (args : Array Value) (ds gs : List (DataW H)) (before : List MemPlace)
    (hval : ∀ (j : Nat) t v, Tryd.f6.params[j]? = some t → args[j]? = some v → Value.okWide Tryd.prog W .any base t v)
    (hW : DataW.Whole enc Tryd.prog Tryd.f6.params.toList Rows.fnExactTokenOkSpec.vars false W args.toList ds gs before) (hL0 : laidMetH Tryd.prog Rows.fnExactTokenOkRow.laid W) :
    Calls Tryd.prog 6 args W fun e W' => ∃ v, e = .returned v ∧ Rows.fnExactTokenOkSpec.post enc Tryd.prog Tryd.f6 false true false false W args v W' := by
  have hL : laidMet Tryd.prog Rows.fnExactTokenOkRow.laid W := hL0
  have hW' := hW
  obtain ⟨p, q, hA0, hV, rfl, hfz, hnd⟩ := hW
  have hA : DataW.TrodAll enc Tryd.prog W 0 (fun _ => true) true Tryd.f6.params.toList args.toList ds p := hA0
  rw [Tryd.params6] at hA hval
  obtain ⟨v0, vs0, d0, ds0, p0, q0, hargs, rfl, rfl, h0, r0⟩ := trodAll_cons hA
  obtain ⟨rfl, rfl, rfl⟩ := trodAll_nil r0
  obtain rfl : args = #[v0] := by cases args; simp_all
  obtain ⟨e0, e1, rfl⟩ : ∃ e0 e1, gs = [e0, e1] := by
    have hlen := trodVars_len hV
    match gs, hlen with
    | [x0, x1], _ => exact ⟨x0, x1, rfl⟩
  obtain ⟨c0a, c0b, c0c, y0a, y0b, y0c, m0, rfl, rfl, rfl, hy0a, hy0b, hy0c⟩ := Joins.open_agg3 Tryd.underlying39 (by kernel_rfl) cellsToken (hval 0 39 v0 rfl rfl) h0
  obtain ⟨a0k, e0a, rfl, w0a⟩ := DataW.trod_int Tryd.underlying3 hy0a
  obtain ⟨a0s, e0b, rfl, w0b⟩ := DataW.trod_string Tryd.underlying9 hy0b
  obtain ⟨a0a, e0c, rfl, w0c⟩ := DataW.trod_int Tryd.underlying3 hy0c
  simp at e0a e0b e0c
  subst e0a e0b e0c
  clear hA0
  refine (walk a0k a0a a0s W w0b (spell.held hL)).mono fun e W' ⟨he, bel⟩ => ?_
  subst he
  exact ⟨_, rfl, _, _, _, [], _, _, hW', trodAll_mk1 (shut_bool Tryd.underlying4 _), (trodAll_cons_mk (Joins.shut_agg3 (y0 := (.lit (.int .i64 a0k), [])) (y1 := (.lit (.string a0s.data.toList), [])) (y2 := (.lit (.int .i64 a0a), [])) Tryd.underlying39 (by kernel_rfl) cellsToken ⟨1, by simp [DataW.trod, Tryd.underlying3, w0a]⟩ ⟨1, by simp [DataW.trod, Tryd.underlying9, w0b]⟩ ⟨1, by simp [DataW.trod, Tryd.underlying3, w0c]⟩) trodAll_mk0), Below.trodVars laidOut bel (by kernel_rfl) hV, bel.frame _, fun h => by cases h⟩

theorem laid_met (os : Os) : laidMet Tryd.prog Rows.fnExactTokenOkRow.laid ((laidWorld os).forCall (fun _ _ => 0) ⟨#[], #[.agg #[.int .i64 0, .string ⟨#[]⟩, .int .i64 0]], []⟩).memory :=
  laidMet_of_run' 8 (by kernel_rfl) (by kernel_rfl)
theorem reads (os : Os) {H : Type} (enc : TypeId × Value → H) : ∃ places, DataW.whole enc Tryd.prog ((laidWorld os).forCall (fun _ _ => 0) ⟨#[], #[.agg #[.int .i64 0, .string ⟨#[]⟩, .int .i64 0]], []⟩).memory Tryd.f6.params.toList Rows.fnExactTokenOkSpec.vars false #[Value.agg #[.int .i64 0, .string ⟨#[]⟩, .int .i64 0]].toList 8 = some ([.agg [.lit (.int .i64 0), .lit (.string []), .lit (.int .i64 0)]], [Rows.laid_loop_example_g01543_impl_keywords, Rows.laid_loop_example_g01543_impl_operators], places) :=
  ⟨MemPlace.row ⟨0, 0, none⟩ 17 ++ MemPlace.row ⟨1, 0, none⟩ 39, by kernel_rfl⟩

set_option maxRecDepth 100000 in
theorem lifted (os : Os) (started : os.Started) (H : Type) (enc : TypeId × Value → H) (F : Stop.Interp) :
    ReturnsInHanded {} Tryd.checked os 6 .any ((OpenSpec.ofChange Rows.fnExactTokenOkSpec).preRow enc Tryd.prog Tryd.f6 Rows.fnExactTokenOkRow.domain false Rows.fnExactTokenOkRow.laid) (((OpenSpec.ofChange Rows.fnExactTokenOkSpec).at F).post enc Tryd.prog Tryd.f6 false true false false) := by
  obtain ⟨places, hx⟩ := reads os enc
  refine returnsInHanded_of_row (C := Tryd.checked) (s := OpenSpec.ofChange Rows.fnExactTokenOkSpec) own started (by kernel_rfl) Tryd.func6
    (witness_row_at (enc := enc) (C := Tryd.checked) false (laidWorld os) #[.agg #[.int .i64 0, .string ⟨#[]⟩, .int .i64 0]] rfl (by kernel_rfl) (by kernel_rfl) (by kernel_rfl)
      (OpenSpec.preRow_of_cond 8 hx (by kernel_rfl) (fun k hk => by cases hk) (by kernel_rfl) (laid_met os))) ?_
  intro W base args ds gs before hval hW _ _ _ hL _ _
  exact contract H enc W base args ds gs before hval hW hL

theorem said : Rows.FnExactTokenOkSaid :=
  OpenClaim.holds_of_cond 6 Tryd.f6 rfl rfl rfl rfl rfl rfl rfl ⟨rfl, rfl, rfl, rfl, rfl⟩ rfl rfl rfl rfl rfl (by kernel_rfl) Tryd.func6 (by kernel_rfl)
    (of_decide_eq_true (by kernel_rfl)) (by unfold Func.isWrapper; first | (rw [if_pos (by decide +kernel)]; kernel_rfl) | (rw [if_neg (by decide +kernel)]; exact ⟨rfl, rfl⟩))
    (fun os started H enc _ F => by rw [OpenClaim.pre_eq_preRow]; exact lifted os started H enc F)

/-- No parameter wants a stand-in; the program's own looks are as the card says. -/
theorem plain (f : FuncId) (fn : Func) (hf : Tryd.pinned.checked.prog.funcNamed "loop.example/g01543/laws.FnExactTokenOk" = some f) (hfn : Tryd.pinned.checked.prog.funcs[f]? = some fn) :
    Rows.fnExactTokenOkCard.stood.looks = Tryd.pinned.checked.prog.looks [] ∧ ∀ (j : Nat) t, fn.params[j]? = some t → Tryd.pinned.checked.prog.wantsStandIn t = false := by
  obtain rfl : f = 6 := Option.some.inj ((show Tryd.prog.funcNamed "loop.example/g01543/laws.FnExactTokenOk" = some 6 by kernel_rfl).symm.trans hf) |>.symm
  obtain rfl : fn = Tryd.f6 := (Option.some.inj (Tryd.func6.symm.trans hfn)).symm
  refine ⟨by kernel_rfl, fun j t ht => ?_⟩
  rw [Tryd.params6] at ht
  have hm := Array.mem_of_getElem? ht
  simp only [List.mem_toArray, List.mem_cons, List.not_mem_nil, or_false] at hm
  rcases hm with rfl
  · exact (show Tryd.prog.wantsStandIn 39 = false by kernel_rfl)

end Go.Proofs.YtndmaahodccpjaaDoor.lawTokenOk
namespace Go.Proofs.YtndmaahodccpjaaDoor
/-- The card. -/
theorem fnExactTokenOk_card : Rows.FnExactTokenOkCardSaid :=
  Claim7.holds_tied_plain_at .later [] _ _ _ _ lawTokenOk.said (fun _ h => by cases h) (by kernel_rfl) (fun _ h => by cases h) fnExactTokenOk_row_tie rfl ⟨rfl, rfl⟩ (by kernel_rfl) rfl lawTokenOk.plain (by kernel_rfl)
end Go.Proofs.YtndmaahodccpjaaDoor
