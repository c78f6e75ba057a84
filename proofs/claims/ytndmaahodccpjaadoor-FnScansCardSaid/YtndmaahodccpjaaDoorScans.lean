/-
  'laws.FnScans' returns true at every slice of bytes, and leaves it as it was: at the texts and places that the model draws from it, impl's NumEnd, StrEnd and NameEnd answer as the model's; an end lies behind its place and not beyond the text; the number or the literal cut out of the text is a whole token; a name begins with a letter. The row lists impl's two tables of spellings (keywords, operators), tied to the program's text (the card), and says that they read behind the call as before. No other condition. What is listed is tied to the copy of the project that the seat holds (its packages impl, spec and laws, no test): of code elsewhere that could write these variables the card says nothing.
-/
import Derived.Test.YtndmaahodccpjaaDoorCards
import Derived.Test.YtndmaahodccpjaaDoorTie
import Derived.Test.YtndmaahodccpjaaDoorBase
import Derived.Test.YtndmaahodccpjaaDoorVars
import Derived.Test.YtndmaahodccpjaaDoorSpell
import Derived.Test.YtndmaahodccpjaaDoorLaidKw
import Derived.Test.YtndmaahodccpjaaDoorTok
import Derived.Test.YtndmaahodccpjaaDoorScanCut
import Derived.Test.YtndmaahodccpjaaDoorDrawStr
import Derived.WalkKit
import Derived.ProofKit
import Derived.OpenShut
import Derived.OpenVars
import Derived.ShutString
import Derived.ChangeOld
import Derived.Below
import Derived.WalkSpells
import Derived.WalkLawsBesides
import Derived.Deep.DeepHandedRow
import Derived.Deep.DeepCutAuto
import Derived.Stop.LaidErr
namespace Go.Proofs.YtndmaahodccpjaaDoor.lawScans
open Go.ChangeShapes Go.WideShapes Go.ChangeAt Go.RowKit
open spell (Held held)

set_option linter.unusedVariables false
abbrev IsRow := draw.IsRow

theorem tok_num (t : ByteArray) (h : scan.numEnd t 0 = (t.size : Int)) : tok.tokOk 3 t = true := by
  show (scan.numEnd t 0 == (t.size : Int)) = true
  rw [beq_iff_eq]; exact h
theorem tok_str (t : ByteArray) (h : scan.strEnd t 0 = (t.size : Int)) : tok.tokOk 4 t = true := by
  show (scan.strEnd t 0 == (t.size : Int)) = true
  rw [beq_iff_eq]; exact h

set_option maxRecDepth 100000 in
set_option maxHeartbeats 4000000 in
theorem core {a : Option Addr} {len cap : Nat} {zs : List Int} {w : World} (hc : draw.Code w.heap.size w a len zs) (hl : len ≤ 1048576) (hh : Held w) :
    Calls Tryd.prog 4 #[.slice a len cap] w fun e w' => e = .returned (.bool true) ∧ Below w.heap.size w w' := by
  have HC := Lib.hid hc
  have HH := Lib.hid hh
  clear hc hh
  have hbig : decide (1048576 < len) = false := by simp; omega
  go_enter Tryd.func4, Tryd.ntmps4
  go_wp2_with fail
  refine (draw.big_any a len cap _ (by omega)).mono ?_
  rintro e w' ⟨he, rfl⟩
  rw [hbig] at he
  subst he
  clear hbig
  go_wp2_with fail
  refine (draw.draw_num HC.out (Nat.le_refl _) hl).mono ?_
  rintro e w1 ⟨s, k, hs, rfl, b1⟩
  have C1 := Lib.hid (HC.out.keep b1)
  have H1 := Lib.hid (HH.out.below b1)
  have B1 := Lib.hid b1
  clear b1
  obtain ⟨v, hv⟩ : ∃ v, v = scan.numEnd s k := ⟨_, rfl⟩
  have HV := Lib.hid hv
  clear hv
  go_wp2_with fail
  refine (scan.impl_num s k _ (by omega)).mono ?_
  rintro e w' ⟨he, rfl⟩
  rw [← HV.out] at he
  subst he
  go_upto_region 5 with (fail)
  go_cut [48] (fun v wx => v = .bool false ∧ Below w1.heap.size w1 wx)
  case first =>
    by_cases h0 : 0 ≤ v
    · obtain ⟨K, E, rfl, hE, hKE, hEs, ht⟩ := scan.num_cut (s := s) (k := k) (by rw [← HV.out]; exact h0)
      obtain rfl : v = (E : Int) := HV.out.trans hE
      have HT := Lib.hid (tok_num _ ht)
      have hsz : (s.extract K E).size ≤ 1048576 := by rw [scan.cut_size hEs]; omega
      have t1 : (K : Int) < (E : Int) := by omega
      have t2 : (E : Int) ≤ (s.size : Int) := by omega
      have t3 : K ≤ E := by omega
      have t4 : decide (E ≤ K) = false := by rw [decide_eq_false_iff_not]; omega
      have t5 : decide (s.size < E) = false := by rw [decide_eq_false_iff_not]; omega
      clear hE ht h0
      go_wp2_with fail
      refine (scan.spec_num s _ _ (by omega)).mono ?_
      rintro e w' ⟨he, rfl⟩
      rw [← HV.out] at he
      subst he
      go_wp2_with fail
      refine (tok.impl_tok 3 0 (s.extract K E) _ hsz H1.out).mono ?_
      rintro e w2 ⟨he, b2⟩
      rw [HT.out] at he
      subst he
      have B2 := Lib.hid b2
      clear b2
      go_wp2_with fail
      go_meet
      exact ⟨rfl, B2.out⟩
    · have h0' : v < 0 := by omega
      clear h0
      go_wp2_with fail
      refine (scan.spec_num s _ _ (by omega)).mono ?_
      rintro e w' ⟨he, rfl⟩
      rw [← HV.out] at he
      subst he
      go_wp2_with fail
      go_meet
      exact ⟨rfl, Below.refl _ _⟩
  case rest =>
    obtain ⟨rfl, hcb⟩ := hcut
    have z1 := B1.out.size
    have C2 := Lib.hid (C1.out.keep (hcb.mono z1))
    have B2 := Lib.hid (B1.out.trans (hcb.mono z1))
    have z2 := B2.out.size
    clear hcb z1 C1 H1 B1 HV hs
    go_wp2_with fail
    refine (draw.draw_str C2.out z2 hl).mono ?_
    rintro e w2 ⟨t, i, ht, rfl, b2⟩
    have C3 := Lib.hid (C2.out.keep b2)
    have B3 := Lib.hid (B2.out.trans b2)
    have H3 := Lib.hid (HH.out.below B3.out)
    clear b2 C2 B2 z2
    obtain ⟨v2, hv⟩ : ∃ v, v = scan.strEnd t i := ⟨_, rfl⟩
    have HV := Lib.hid hv
    clear hv
    go_wp2_with fail
    refine (scan.impl_str t i _ (by omega)).mono ?_
    rintro e w' ⟨he, rfl⟩
    rw [← HV.out] at he
    subst he
    go_upto_region 9 with (fail)
    go_cut [85] (fun v wx => v = .bool false ∧ Below w2.heap.size w2 wx)
    case first =>
      by_cases h0 : 0 ≤ v2
      · obtain ⟨K, E, rfl, hE, hKE, hEs, hto⟩ := scan.str_cut (s := t) (k := i) (by rw [← HV.out]; exact h0)
        obtain rfl : v2 = (E : Int) := HV.out.trans hE
        have HT := Lib.hid (tok_str _ hto)
        have hsz : (t.extract K E).size ≤ 1048576 := by rw [scan.cut_size hEs]; omega
        have t1 : (K : Int) < (E : Int) := by omega
        have t2 : (E : Int) ≤ (t.size : Int) := by omega
        have t3 : K ≤ E := by omega
        have t4 : decide (E ≤ K) = false := by rw [decide_eq_false_iff_not]; omega
        have t5 : decide (t.size < E) = false := by rw [decide_eq_false_iff_not]; omega
        clear hE hto h0
        go_wp2_with fail
        refine (scan.spec_str t _ _ (by omega)).mono ?_
        rintro e w' ⟨he, rfl⟩
        rw [← HV.out] at he
        subst he
        go_wp2_with fail
        refine (tok.impl_tok 4 0 (t.extract K E) _ hsz H3.out).mono ?_
        rintro e w3 ⟨he, b3⟩
        rw [HT.out] at he
        subst he
        have B4 := Lib.hid b3
        clear b3
        go_wp2_with fail
        go_meet
        exact ⟨rfl, B4.out⟩
      · have h0' : v2 < 0 := by omega
        clear h0
        go_wp2_with fail
        refine (scan.spec_str t _ _ (by omega)).mono ?_
        rintro e w' ⟨he, rfl⟩
        rw [← HV.out] at he
        subst he
        go_wp2_with fail
        go_meet
        exact ⟨rfl, Below.refl _ _⟩
    case rest =>
      obtain ⟨rfl, hcb⟩ := hcut
      have z3 := B3.out.size
      have C4 := Lib.hid (C3.out.keep (hcb.mono z3))
      have B4 := Lib.hid (B3.out.trans (hcb.mono z3))
      have z4 := B4.out.size
      clear hcb z3 C3 H3 B3 HV ht
      go_wp2_with fail
      refine (draw.draw_name C4.out z4 hl).mono ?_
      rintro e w3 ⟨u, j, hu, rfl, b3⟩
      have B5 := Lib.hid (B4.out.trans b3)
      clear b3 C4 B4 z4
      obtain ⟨v3, hv⟩ : ∃ v, v = scan.nameEnd u j := ⟨_, rfl⟩
      have HV := Lib.hid hv
      clear hv
      go_wp2_with fail
      refine (scan.impl_nameEnd u j _ (by omega)).mono ?_
      rintro e w' ⟨he, rfl⟩
      rw [← HV.out] at he
      subst he
      by_cases h0 : 0 ≤ v3
      · obtain ⟨K, E, rfl, hE, hKE, hEs, hlet⟩ := scan.name_props (s := u) (k := j) (by rw [← HV.out]; exact h0)
        obtain rfl : v3 = (E : Int) := HV.out.trans hE
        have hKs : K < u.size := by omega
        have HL := Lib.hid (show chars.isLetter (u[K].toNat : Int) = true by rw [← scan.byte_in hKs]; exact hlet)
        have hcx := u[K].toNat_lt
        have t1 : (K : Int) < (E : Int) := by omega
        have t2 : (E : Int) ≤ (u.size : Int) := by omega
        have t4 : decide (K < E) = true := by rw [decide_eq_true_iff]; omega
        have t5 : decide (E ≤ u.size) = true := by rw [decide_eq_true_iff]; omega
        clear hE hlet h0
        go_wp2_with fail
        refine (scan.spec_nameEnd u _ _ (by omega)).mono ?_
        rintro e w' ⟨he, rfl⟩
        rw [← HV.out] at he
        subst he
        go_wp2_with fail
        refine (chars.spec_letter _ _).mono ?_
        rintro e w' ⟨he, rfl⟩
        rw [HL.out] at he
        subst he
        go_wp2
        go_ret
        exact ⟨rfl, B5.out⟩
      · have h0' : v3 < 0 := by omega
        clear h0
        go_wp2_with fail
        refine (scan.spec_nameEnd u _ _ (by omega)).mono ?_
        rintro e w' ⟨he, rfl⟩
        rw [← HV.out] at he
        subst he
        go_wp2
        go_ret
        exact ⟨rfl, B5.out⟩

set_option maxRecDepth 100000 in
/-- THE WALK: the law's own text. -/
theorem walk (a : Option Addr) (len cap : Nat) (zs : List Int) (w : World) (hz : IsRow .u8 w a len cap zs) (hh : Held w) :
    Calls Tryd.prog 4 #[.slice a len cap] w fun e w' => e = .returned (.bool true) ∧ Below w.heap.size w w' := by
  have hlm : len ≤ maxLen := by
    rcases hz with ⟨_, rfl, _, _⟩ | ⟨x, _, hl, hm, _⟩
    · exact Nat.zero_le _
    · exact Nat.le_trans hl hm
  unfold maxLen at hlm
  by_cases hl : len ≤ 1048576
  · exact core (draw.code_of hz) hl hh
  · have hbig : decide (1048576 < len) = true := by simp; omega
    clear hz hh
    go_enter Tryd.func4, Tryd.ntmps4
    go_wp2_with fail
    refine (draw.big_any a len cap _ (by omega)).mono ?_
    rintro e w' ⟨he, rfl⟩
    rw [hbig] at he
    subst he
    go_wp2
    go_ret
    exact ⟨rfl, Below.refl _ _⟩
end Go.Proofs.YtndmaahodccpjaaDoor.lawScans
namespace Go.Proofs.YtndmaahodccpjaaDoor.lawScans
open Go.ChangeShapes Go.WideShapes Go.ChangeAt Go.RowKit
open Go.ChangeMaps (open_string shut_string)
theorem own : ownKnob Tryd.prog.godebug = none := by kernel_rfl
theorem laidOut : laidOutB Tryd.prog = true := by kernel_rfl

set_option maxRecDepth 100000 in
theorem contract (H : Type) (enc : TypeId × Value → H) (W : World) (base : Nat) (args : Array Value) (ds gs : List (DataW H)) (before : List MemPlace)
    (hval : ∀ (j : Nat) t v, Tryd.f4.params[j]? = some t → args[j]? = some v → Value.okWide Tryd.prog W .any base t v)
    (hW : DataW.Whole enc Tryd.prog Tryd.f4.params.toList Rows.fnScansSpec.vars false W args.toList ds gs before) (hL0 : laidMetH Tryd.prog Rows.fnScansRow.laid W) :
    Calls Tryd.prog 4 args W fun e W' => ∃ v, e = .returned v ∧ Rows.fnScansSpec.post enc Tryd.prog Tryd.f4 false true false false W args v W' := by
  have hL : laidMet Tryd.prog Rows.fnScansRow.laid W := hL0
  have hW' := hW
  obtain ⟨p, q, hA0, hV, rfl, hfz, hnd⟩ := hW
  have hA : DataW.TrodAll enc Tryd.prog W 0 (fun _ => true) true Tryd.f4.params.toList args.toList ds p := hA0
  rw [Tryd.params4] at hA hval
  obtain ⟨v0, vs0, d0, ds0, p0, q0, hargs, rfl, rfl, h0, r0⟩ := trodAll_cons hA
  obtain ⟨rfl, rfl, rfl⟩ := trodAll_nil r0
  obtain rfl : args = #[v0] := by cases args; simp_all
  obtain ⟨e0, e1, rfl⟩ : ∃ e0 e1, gs = [e0, e1] := by
    have hlen := trodVars_len hV
    match gs, hlen with
    | [x0, x1], _ => exact ⟨x0, x1, rfl⟩
  obtain ⟨a0, len0, cap0, rfl⟩ := okWide_slice Tryd.underlying22 (hval 0 22 v0 rfl rfl)
  have k0 := h0
  have lt0 : ∀ x ∈ p0, x.block < W.heap.size := by obtain ⟨m, hm⟩ := k0; exact DataW.trod_lt m _ _ _ hm
  obtain ⟨z0, w0⟩ : ∃ zs, IsRow .u8 W a0 len0 cap0 zs := by
    obtain ⟨fuel, hf⟩ := h0
    rcases open_ints Tryd.underlying22 Tryd.underlying5 (by kernel_rfl) hf with ⟨hcs, _⟩ | ⟨x, l, c, zs, hcs, _, hl, hm, hz, _, hcell, hwz⟩
    · simp [Value.cells] at hcs
      obtain ⟨rfl, rfl, rfl⟩ := hcs
      exact ⟨[], .inl ⟨rfl, rfl, rfl, rfl⟩⟩
    · simp [Value.cells] at hcs
      obtain ⟨rfl, rfl, rfl⟩ := hcs
      exact ⟨zs, .inr ⟨_, rfl, hl, hm, by simpa using hz, hcell, hwz⟩⟩
  clear hA0
  refine (walk a0 len0 cap0 z0 W w0 (spell.held hL)).mono fun e W' ⟨he, bel⟩ => ?_
  subst he
  exact ⟨_, rfl, _, _, _, [], _, _, hW', trodAll_mk1 (shut_bool Tryd.underlying4 _), (trodAll_cons_mk (Below.trod laidOut (by kernel_rfl) (of_decide_eq_true (by kernel_rfl)) k0 bel lt0) trodAll_mk0), Below.trodVars laidOut bel (by kernel_rfl) hV, bel.frame _, fun h => by cases h⟩

theorem laid_met (os : Os) : laidMet Tryd.prog Rows.fnScansRow.laid ((laidWorld os).forCall (fun _ _ => 0) ⟨#[], #[.slice none 0 0], []⟩).memory :=
  laidMet_of_run' 8 (by kernel_rfl) (by kernel_rfl)
theorem reads (os : Os) {H : Type} (enc : TypeId × Value → H) : ∃ places, DataW.whole enc Tryd.prog ((laidWorld os).forCall (fun _ _ => 0) ⟨#[], #[.slice none 0 0], []⟩).memory Tryd.f4.params.toList Rows.fnScansSpec.vars false #[Value.slice none 0 0].toList 8 = some ([.nil], [Rows.laid_loop_example_g01543_impl_keywords, Rows.laid_loop_example_g01543_impl_operators], places) :=
  ⟨MemPlace.row ⟨0, 0, none⟩ 17 ++ MemPlace.row ⟨1, 0, none⟩ 39, by kernel_rfl⟩

set_option maxRecDepth 100000 in
theorem lifted (os : Os) (started : os.Started) (H : Type) (enc : TypeId × Value → H) (F : Stop.Interp) :
    ReturnsInHanded {} Tryd.checked os 4 .any ((OpenSpec.ofChange Rows.fnScansSpec).preRow enc Tryd.prog Tryd.f4 Rows.fnScansRow.domain false Rows.fnScansRow.laid) (((OpenSpec.ofChange Rows.fnScansSpec).at F).post enc Tryd.prog Tryd.f4 false true false false) := by
  obtain ⟨places, hx⟩ := reads os enc
  refine returnsInHanded_of_row (C := Tryd.checked) (s := OpenSpec.ofChange Rows.fnScansSpec) own started (by kernel_rfl) Tryd.func4
    (witness_row_at (enc := enc) (C := Tryd.checked) false (laidWorld os) #[.slice none 0 0] rfl (by kernel_rfl) (by kernel_rfl) (by kernel_rfl)
      (OpenSpec.preRow_of_cond 8 hx (by kernel_rfl) (fun k hk => by cases hk) (by kernel_rfl) (laid_met os))) ?_
  intro W base args ds gs before hval hW _ _ _ hL _ _
  exact contract H enc W base args ds gs before hval hW hL

theorem said : Rows.FnScansSaid :=
  OpenClaim.holds_of_cond 4 Tryd.f4 rfl rfl rfl rfl rfl rfl rfl ⟨rfl, rfl, rfl, rfl, rfl⟩ rfl rfl rfl rfl rfl (by kernel_rfl) Tryd.func4 (by kernel_rfl)
    (of_decide_eq_true (by kernel_rfl)) (by unfold Func.isWrapper; first | (rw [if_pos (by decide +kernel)]; kernel_rfl) | (rw [if_neg (by decide +kernel)]; exact ⟨rfl, rfl⟩))
    (fun os started H enc _ F => by rw [OpenClaim.pre_eq_preRow]; exact lifted os started H enc F)

/-- No parameter wants a stand-in; the program's own looks are as the card says. -/
theorem plain (f : FuncId) (fn : Func) (hf : Tryd.pinned.checked.prog.funcNamed "loop.example/g01543/laws.FnScans" = some f) (hfn : Tryd.pinned.checked.prog.funcs[f]? = some fn) :
    Rows.fnScansCard.stood.looks = Tryd.pinned.checked.prog.looks [] ∧ ∀ (j : Nat) t, fn.params[j]? = some t → Tryd.pinned.checked.prog.wantsStandIn t = false := by
  obtain rfl : f = 4 := Option.some.inj ((show Tryd.prog.funcNamed "loop.example/g01543/laws.FnScans" = some 4 by kernel_rfl).symm.trans hf) |>.symm
  obtain rfl : fn = Tryd.f4 := (Option.some.inj (Tryd.func4.symm.trans hfn)).symm
  refine ⟨by kernel_rfl, fun j t ht => ?_⟩
  rw [Tryd.params4] at ht
  have hm := Array.mem_of_getElem? ht
  simp only [List.mem_toArray, List.mem_cons, List.not_mem_nil, or_false] at hm
  rcases hm with rfl
  · exact (show Tryd.prog.wantsStandIn 22 = false by kernel_rfl)

end Go.Proofs.YtndmaahodccpjaaDoor.lawScans
namespace Go.Proofs.YtndmaahodccpjaaDoor
/-- The card. -/
theorem fnScans_card : Rows.FnScansCardSaid :=
  Claim7.holds_tied_plain_at .later [] _ _ _ _ lawScans.said (fun _ h => by cases h) (by kernel_rfl) (fun _ h => by cases h) fnScans_row_tie rfl ⟨rfl, rfl⟩ (by kernel_rfl) rfl lawScans.plain (by kernel_rfl)
end Go.Proofs.YtndmaahodccpjaaDoor
