/-
  'laws.FnRelex' returns true at every slice of bytes, and leaves it as it was: the tokens that the model draws from it, spelled by impl.Spell, are read by impl.Lex as themselves (kinds and texts; both sides' SameTokens say so, and impl.TokensOk holds of what is read) wherever TokensOk holds of them and the text is no longer than MaxText; elsewhere impl.Spell gives the model's text. The row lists impl's two tables of spellings (keywords, operators), tied to the program's text (the card), and says that they read behind the call as before. No other condition. What is listed is tied to the copy of the project that the seat holds (its packages impl, spec and laws, no test): of code elsewhere that could write these variables the card says nothing.
-/
import Derived.Test.YtlbloemmabjmoaaDoorCards
import Derived.Test.YtlbloemmabjmoaaDoorTie
import Derived.Test.YtlbloemmabjmoaaDoorLaidKw
import Derived.Test.YtlbloemmabjmoaaDoorLexTop
import Derived.Test.YtlbloemmabjmoaaDoorToksSpec
import Derived.Test.YtlbloemmabjmoaaDoorRelexList
import Derived.Test.YtlbloemmabjmoaaDoorDrawLex
import Derived.OpenVars
import Derived.Deep.DeepHandedRow
import Derived.Deep.RegionHeld3
import Derived.Lib.SmallJoins
import Derived.Stop.LaidErr
namespace Go.Proofs.YtlbloemmabjmoaaDoor.lawRelex
open Go.ChangeShapes Go.WideShapes Go.ChangeAt Go.RowKit
open spell (Held held)
open tk own lex plc rlx
open spelled (spellB)
set_option linter.unusedVariables false
abbrev IsRow := draw.IsRow

/-- A fault in its box. -/
def FB (g : Nat) (k a : Int) (w : World) : Prop := w.heap[g]? = some (.cells #[.int .i64 k, .int .i64 a] 28 (0, 0))
theorem FB.lt {g : Nat} {k a : Int} {w : World} (h : FB g k a w) : g < w.heap.size := by
  rcases Nat.lt_or_ge g w.heap.size with h' | h'
  · exact h'
  · unfold FB at h; rw [Array.getElem?_eq_none h'] at h; cases h
theorem FB.c {g : Nat} {k a : Int} {w : World} (h : FB g k a w) : w.cell? ⟨g, 0, none⟩ = some (.int .i64 k) ∧ w.cell? ⟨g, 1, none⟩ = some (.int .i64 a) :=
  ⟨by rw [cell_of_row w g 0 _ _ _ h]; rfl, by rw [cell_of_row w g 1 _ _ _ h]; rfl⟩
theorem FB.keep {B g : Nat} {k a : Int} {w w' : World} (h : FB g k a w) (hb : Below B w w') (hg : g < B) : FB g k a w' := (hb.block g hg).trans h

theorem pl_sizes {s : ByteArray} (l : List Tk) : ∀ i, Pl s i l → ∀ t ∈ l, t.s.size ≤ s.size := by
  induction l with
  | nil => intro i _ t ht; cases ht
  | cons u l ih =>
    rintro i ⟨g, e, -, -, hge, he, hx, -, -, hr⟩ t ht
    rcases List.mem_cons.1 ht with rfl | ht
    · rw [hx, scan.cut_size he]; omega
    · exact ih e hr t ht

set_option maxRecDepth 100000 in
set_option maxHeartbeats 4000000 in
theorem core {a : Option Addr} {len cap : Nat} {zs : List Int} {w : World} (hc : draw.Code w.heap.size w a len zs) (hl : len ≤ 1048576) (hh : Held w) :
    Calls Tryd.prog 3 #[.slice a len cap] w fun e w' => e = .returned (.bool true) ∧ Below w.heap.size w w' := by
  have HC := Lib.hid hc
  have HH := Lib.hid hh
  clear hc hh
  have hbig : decide (1048576 < len) = false := by simp; omega
  go_enter Tryd.func3, Tryd.ntmps3
  go_wp2_with fail
  refine (draw.big_any a len cap _ (by omega)).mono ?_
  rintro e w' ⟨he, rfl⟩
  rw [hbig] at he
  subst he
  clear hbig
  go_wp2_with fail
  refine (draw.draw_spell HC.out hl).mono ?_
  rintro e w1 ⟨c, cp, l, hn, hsh, rfl, hL, b1⟩
  have B1 := Lib.hid b1
  have H1 := Lib.hid (HH.out.below b1)
  have L1 := Lib.hid hL
  have HT := Lib.hid (show l.length + tot l ≤ 1048576 by have := hsh.tot; omega)
  have HM := Lib.hid (show ∀ t ∈ l, t.s.size ≤ 1048576 from fun t ht => Nat.le_trans (hsh t ht) (by decide))
  have hsz := draw.spell_size hsh hn
  have hnn : l.length ≤ 1048576 := by omega
  have hy := @lexF_spell l
  clear b1 hL hsh
  go_wp2_with fail
  refine (spelled.impl_spell l c cp w1 hnn L1.out HT.out H1.out).mono ?_
  rintro e w2 ⟨he, b2⟩
  obtain ⟨s, hs⟩ : ∃ s, s = spellB l := ⟨_, rfl⟩
  rw [← hs] at he hsz hy
  subst he
  have HS := Lib.hid hs
  have b12 := b2
  have B2 := Lib.hid (B1.out.trans (b2.mono B1.out.size))
  have H2 := Lib.hid (HH.out.below B2.out)
  have L2 := Lib.hid ((L1.out.keep b12 (Nat.le_refl _)).up b12.size)
  clear b2 b12 hs
  have hs2 : s.size ≤ 1048576 := by omega
  have h3 : ¬ 3000 < s.size := by omega
  obtain ⟨F, hF⟩ : ∃ F, F = lexF s := ⟨_, rfl⟩
  have hlen := lexF_len s
  have hp := @lexF_pl s
  rw [← hF] at hlen hp hy
  obtain ⟨x, k, f⟩ := F
  simp only at hlen hp hy
  have HF := Lib.hid hF
  have HP := Lib.hid hp
  have HY := Lib.hid hy
  clear hF hp hy
  go_wp2_with fail
  refine (impl_lex s w2 hs2 H2.out).mono ?_
  rintro e w3 ⟨v1, he, b3, o3⟩
  rw [← HF.out] at he o3
  simp only at he o3
  subst he
  obtain ⟨a1, c1, rfl⟩ := o3.form
  obtain ⟨W3, hW3⟩ : ∃ W3, W3 = w3.alloc (.cells #[.int .i64 k, .int .i64 f] 28) := ⟨_, rfl⟩
  have X3 := Lib.hid (show FB w3.heap.size k f W3 by rw [hW3]; exact heap_alloc_new w3 _)
  have B23 := Lib.hid (show Below w2.heap.size w2 W3 by rw [hW3]; exact b3.alloc b3.size _)
  have B3 := Lib.hid (B2.out.trans (B23.out.mono B2.out.size))
  have M3 := Lib.hid (show Lies W3.heap.size W3 a1 x by rw [hW3]; exact ((o3.lies rfl).keep ((Below.refl w3.heap.size w3).alloc (Nat.le_refl _) _) (Nat.le_refl _)).up (by simp))
  have L3 := Lib.hid ((L2.out.keep B23.out (Nat.le_refl _)).up B23.out.size)
  have HW3 := Lib.hid hW3
  clear b3 o3 hW3
  go_wp2_with fail
  rw [← HW3.out]
  refine (tksok.spec_toksOk l c cp W3 hnn L3.out HM.out).mono ?_
  rintro e w4 ⟨he, b4⟩
  have B34 := Lib.hid b4
  have B4 := Lib.hid (B3.out.trans (b4.mono B3.out.size))
  have L4 := Lib.hid ((L3.out.keep b4 (Nat.le_refl _)).up b4.size)
  have M4 := Lib.hid ((M3.out.keep b4 (Nat.le_refl _)).up b4.size)
  have X4 := Lib.hid (X3.out.keep b4 X3.out.lt)
  clear b4
  cases hok : tksok.tokensOk l
  · rw [hok] at he
    subst he
    go_wp2_with fail
    refine (spelled.spec_spell l c cp w4 hnn L4.out HT.out).mono ?_
    rintro e w5 ⟨he, b5⟩
    rw [← HS.out] at he
    subst he
    have B5 := Lib.hid (B4.out.trans (b5.mono B4.out.size))
    have u1 : (s.toList == s.toList) = true := by simp
    clear b5
    go_wp2
    go_ret
    exact ⟨by simp, B5.out⟩
  · rw [hok] at he
    subst he
    obtain ⟨y1, y2⟩ := HY.out hok h3
    injection y1 with y1 y1'
    have hxok := (HP.out y1).2
    have HXS := Lib.hid (pl_sizes x 0 (HP.out y1).1)
    subst y1
    obtain ⟨x0, x1⟩ := X4.out.c
    have HSM := Lib.hid (show same x l = true from decide_eq_true y2)
    have hxn : x.length ≤ 1048576 := by omega
    go_wp2_with fail
    refine (tk.spec_same x l a1 c c1 cp w4 hxn hnn M4.out L4.out).mono ?_
    rintro e w5 ⟨he, b5⟩
    rw [HSM.out] at he
    subst he
    have B5 := Lib.hid (B4.out.trans (b5.mono B4.out.size))
    have L5 := Lib.hid ((L4.out.keep b5 (Nat.le_refl _)).up b5.size)
    have M5 := Lib.hid ((M4.out.keep b5 (Nat.le_refl _)).up b5.size)
    clear b5 x0 x1
    go_wp2_with fail
    refine (tk.impl_same x l a1 c c1 cp w5 hxn hnn M5.out L5.out).mono ?_
    rintro e w6 ⟨he, b6⟩
    rw [HSM.out] at he
    subst he
    have B6 := Lib.hid (B5.out.trans (b6.mono B5.out.size))
    have H6 := Lib.hid (HH.out.below B6.out)
    have M6 := Lib.hid ((M5.out.keep b6 (Nat.le_refl _)).up b6.size)
    clear b6
    go_wp2_with fail
    refine (tksok.impl_toksOk x a1 c1 w6 hxn M6.out (fun t ht => Nat.le_trans (HXS.out t ht) hs2) H6.out).mono ?_
    rintro e w7 ⟨he, b7⟩
    rw [hxok] at he
    subst he
    have B7 := Lib.hid (B6.out.trans (b7.mono B6.out.size))
    clear b7
    go_wp2
    go_ret
    exact ⟨rfl, B7.out⟩

set_option maxRecDepth 100000 in
/-- THE WALK: the law's own text. -/
theorem walk (a : Option Addr) (len cap : Nat) (zs : List Int) (w : World) (hz : IsRow .u8 w a len cap zs) (hh : Held w) :
    Calls Tryd.prog 3 #[.slice a len cap] w fun e w' => e = .returned (.bool true) ∧ Below w.heap.size w w' := by
  have hlm : len ≤ maxLen := by
    rcases hz with ⟨_, rfl, _, _⟩ | ⟨x, _, hl, hm, _⟩
    · exact Nat.zero_le _
    · exact Nat.le_trans hl hm
  unfold maxLen at hlm
  by_cases hl : len ≤ 1048576
  · exact core (draw.code_of hz) hl hh
  · have hbig : decide (1048576 < len) = true := by simp; omega
    clear hz hh
    go_enter Tryd.func3, Tryd.ntmps3
    go_wp2_with fail
    refine (draw.big_any a len cap _ (by omega)).mono ?_
    rintro e w' ⟨he, rfl⟩
    rw [hbig] at he
    subst he
    go_wp2
    go_ret
    exact ⟨rfl, Below.refl _ _⟩
end Go.Proofs.YtlbloemmabjmoaaDoor.lawRelex
namespace Go.Proofs.YtlbloemmabjmoaaDoor.lawRelex
open Go.ChangeShapes Go.WideShapes Go.ChangeAt Go.RowKit
open Go.ChangeMaps (open_string shut_string)
theorem own : ownKnob Tryd.prog.godebug = none := by kernel_rfl
theorem laidOut : laidOutB Tryd.prog = true := by kernel_rfl

set_option maxRecDepth 100000 in
theorem contract (H : Type) (enc : TypeId × Value → H) (W : World) (base : Nat) (args : Array Value) (ds gs : List (DataW H)) (before : List MemPlace)
    (hval : ∀ (j : Nat) t v, Tryd.f3.params[j]? = some t → args[j]? = some v → Value.okWide Tryd.prog W .any base t v)
    (hW : DataW.Whole enc Tryd.prog Tryd.f3.params.toList Rows.fnRelexSpec.vars false W args.toList ds gs before) (hL0 : laidMetH Tryd.prog Rows.fnRelexRow.laid W) :
    Calls Tryd.prog 3 args W fun e W' => ∃ v, e = .returned v ∧ Rows.fnRelexSpec.post enc Tryd.prog Tryd.f3 false true false false W args v W' := by
  have hL : laidMet Tryd.prog Rows.fnRelexRow.laid W := hL0
  have hW' := hW
  obtain ⟨p, q, hA0, hV, rfl, hfz, hnd⟩ := hW
  have hA : DataW.TrodAll enc Tryd.prog W 0 (fun _ => true) true Tryd.f3.params.toList args.toList ds p := hA0
  rw [Tryd.params3] at hA hval
  obtain ⟨v0, vs0, d0, ds0, p0, q0, hargs, rfl, rfl, h0, r0⟩ := trodAll_cons hA
  obtain ⟨rfl, rfl, rfl⟩ := trodAll_nil r0
  obtain rfl : args = #[v0] := by cases args; simp_all
  obtain ⟨e0, e1, rfl⟩ : ∃ e0 e1, gs = [e0, e1] := by
    have hlen := trodVars_len hV
    match gs, hlen with
    | [x0, x1], _ => exact ⟨x0, x1, rfl⟩
  obtain ⟨a0, len0, cap0, rfl⟩ := okWide_slice Tryd.underlying22 (hval 0 22 v0 rfl rfl)
  have k0 := h0
  have lt0 : ∀ x ∈ p0, x.block < W.heap.size := by obtain ⟨m, hm⟩ := k0; exact DataW.trod_lt m _ _ _ hm
  obtain ⟨z0, w0⟩ : ∃ zs, IsRow .u8 W a0 len0 cap0 zs := by
    obtain ⟨fuel, hf⟩ := h0
    rcases open_ints Tryd.underlying22 Tryd.underlying5 (by kernel_rfl) hf with ⟨hcs, _⟩ | ⟨x, l, c, zs, hcs, _, hl, hm, hz, _, hcell, hwz⟩
    · simp [Value.cells] at hcs
      obtain ⟨rfl, rfl, rfl⟩ := hcs
      exact ⟨[], .inl ⟨rfl, rfl, rfl, rfl⟩⟩
    · simp [Value.cells] at hcs
      obtain ⟨rfl, rfl, rfl⟩ := hcs
      exact ⟨zs, .inr ⟨_, rfl, hl, hm, by simpa using hz, hcell, hwz⟩⟩
  clear hA0
  refine (walk a0 len0 cap0 z0 W w0 (spell.held hL)).mono fun e W' ⟨he, bel⟩ => ?_
  subst he
  exact ⟨_, rfl, _, _, _, [], _, _, hW', trodAll_mk1 (shut_bool Tryd.underlying4 _), (trodAll_cons_mk (Below.trod laidOut (by kernel_rfl) (of_decide_eq_true (by kernel_rfl)) k0 bel lt0) trodAll_mk0), Below.trodVars laidOut bel (by kernel_rfl) hV, bel.frame _, fun h => by cases h⟩

theorem laid_met (os : Os) : laidMet Tryd.prog Rows.fnRelexRow.laid ((laidWorld os).forCall (fun _ _ => 0) ⟨#[], #[.slice none 0 0], []⟩).memory :=
  laidMet_of_run' 8 (by kernel_rfl) (by kernel_rfl)
theorem reads (os : Os) {H : Type} (enc : TypeId × Value → H) : ∃ places, DataW.whole enc Tryd.prog ((laidWorld os).forCall (fun _ _ => 0) ⟨#[], #[.slice none 0 0], []⟩).memory Tryd.f3.params.toList Rows.fnRelexSpec.vars false #[Value.slice none 0 0].toList 8 = some ([.nil], [Rows.laid_loop_example_g01543_impl_keywords, Rows.laid_loop_example_g01543_impl_operators], places) :=
  ⟨MemPlace.row ⟨0, 0, none⟩ 17 ++ MemPlace.row ⟨1, 0, none⟩ 39, by kernel_rfl⟩

set_option maxRecDepth 100000 in
theorem lifted (os : Os) (started : os.Started) (H : Type) (enc : TypeId × Value → H) (F : Stop.Interp) :
    ReturnsInHanded {} Tryd.checked os 3 .any ((OpenSpec.ofChange Rows.fnRelexSpec).preRow enc Tryd.prog Tryd.f3 Rows.fnRelexRow.domain false Rows.fnRelexRow.laid) (((OpenSpec.ofChange Rows.fnRelexSpec).at F).post enc Tryd.prog Tryd.f3 false true false false) := by
  obtain ⟨places, hx⟩ := reads os enc
  refine returnsInHanded_of_row (C := Tryd.checked) (s := OpenSpec.ofChange Rows.fnRelexSpec) own started (by kernel_rfl) Tryd.func3
    (witness_row_at (enc := enc) (C := Tryd.checked) false (laidWorld os) #[.slice none 0 0] rfl (by kernel_rfl) (by kernel_rfl) (by kernel_rfl)
      (OpenSpec.preRow_of_cond 8 hx (by kernel_rfl) (fun k hk => by cases hk) (by kernel_rfl) (laid_met os))) ?_
  intro W base args ds gs before hval hW _ _ _ hL _ _
  exact contract H enc W base args ds gs before hval hW hL

theorem said : Rows.FnRelexSaid :=
  OpenClaim.holds_of_cond 3 Tryd.f3 rfl rfl rfl rfl rfl rfl rfl ⟨rfl, rfl, rfl, rfl, rfl⟩ rfl rfl rfl rfl rfl (by kernel_rfl) Tryd.func3 (by kernel_rfl)
    (of_decide_eq_true (by kernel_rfl)) (by unfold Func.isWrapper; first | (rw [if_pos (by decide +kernel)]; kernel_rfl) | (rw [if_neg (by decide +kernel)]; exact ⟨rfl, rfl⟩))
    (fun os started H enc _ F => by rw [OpenClaim.pre_eq_preRow]; exact lifted os started H enc F)

/-- No parameter wants a stand-in; the program's own looks are as the card says. -/
theorem plain (f : FuncId) (fn : Func) (hf : Tryd.pinned.checked.prog.funcNamed "loop.example/g01543/laws.FnRelex" = some f) (hfn : Tryd.pinned.checked.prog.funcs[f]? = some fn) :
    Rows.fnRelexCard.stood.looks = Tryd.pinned.checked.prog.looks [] ∧ ∀ (j : Nat) t, fn.params[j]? = some t → Tryd.pinned.checked.prog.wantsStandIn t = false := by
  obtain rfl : f = 3 := Option.some.inj ((show Tryd.prog.funcNamed "loop.example/g01543/laws.FnRelex" = some 3 by kernel_rfl).symm.trans hf) |>.symm
  obtain rfl : fn = Tryd.f3 := (Option.some.inj (Tryd.func3.symm.trans hfn)).symm
  refine ⟨by kernel_rfl, fun j t ht => ?_⟩
  rw [Tryd.params3] at ht
  have hm := Array.mem_of_getElem? ht
  simp only [List.mem_toArray, List.mem_cons, List.not_mem_nil, or_false] at hm
  rcases hm with rfl
  · exact (show Tryd.prog.wantsStandIn 22 = false by kernel_rfl)

end Go.Proofs.YtlbloemmabjmoaaDoor.lawRelex
namespace Go.Proofs.YtlbloemmabjmoaaDoor
/-- The card. -/
theorem fnRelex_card : Rows.FnRelexCardSaid :=
  Claim7.holds_tied_plain_at .later [] _ _ _ _ lawRelex.said (fun _ h => by cases h) (by kernel_rfl) (fun _ h => by cases h) fnRelex_row_tie rfl ⟨rfl, rfl⟩ (by kernel_rfl) rfl lawRelex.plain (by kernel_rfl)
end Go.Proofs.YtlbloemmabjmoaaDoor
