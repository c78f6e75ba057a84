/-
  'laws.FnWords' returns true at every slice of bytes, and leaves it as it was: at the kind that the model draws from it, impl's SpellOf answers as the model's; a keyword's spelling is that keyword's and no name, an operator's spelling is found whole by OpAt; at the text that the model draws, NameOk is what NameShape, KeywordOf and IsBuiltin make of it, and the model's. The row lists impl's two tables of spellings (keywords, operators), tied to the program's text (the card), and says that they read behind the call as before. No other condition. What is listed is tied to the copy of the project that the seat holds (its packages impl, spec and laws, no test): of code elsewhere that could write these variables the card says nothing.
-/
import Derived.Test.YtndmaahodccpjaaDoorCards
import Derived.Test.YtndmaahodccpjaaDoorTie
import Derived.Test.YtndmaahodccpjaaDoorBase
import Derived.Test.YtndmaahodccpjaaDoorVars
import Derived.Test.YtndmaahodccpjaaDoorSpell
import Derived.Test.YtndmaahodccpjaaDoorLaidKw
import Derived.Test.YtndmaahodccpjaaDoorOps
import Derived.Test.YtndmaahodccpjaaDoorDrawWords
import Derived.WalkKit
import Derived.ProofKit
import Derived.OpenShut
import Derived.OpenVars
import Derived.ShutString
import Derived.ChangeOld
import Derived.Below
import Derived.WalkSpells
import Derived.WalkLawsBesides
import Derived.Deep.DeepHandedRow
import Derived.Deep.DeepCutAuto
import Derived.Stop.LaidErr
namespace Go.Proofs.YtndmaahodccpjaaDoor.lawWords
open Go.ChangeShapes Go.WideShapes Go.ChangeAt Go.RowKit
open spell (Held held)
open scan (eq_facts ne_facts)
set_option linter.unusedVariables false
abbrev IsRow := draw.IsRow

/-! ### The spellings -/
theorem word_place : ∀ K, K < 17 → toks.place toks.words (toks.words.getD K ⟨#[]⟩) = K := by decide +kernel
theorem word_key (K : Nat) (h : K < 17) : spell.keyword (spell.spell ((K : Int) + 10)) = (K : Int) + 10 := by
  rw [spell.spell_word K h]
  exact spell.kw_here h (word_place K h)
theorem word_no (K : Nat) (h : K < 17) : spell.nameOk (spell.spell ((K : Int) + 10)) = false := by
  unfold spell.nameOk
  rw [word_key K h, show (((K : Int) + 10) == 0) = false by rw [beq_eq_false_iff_ne]; omega]
  simp
theorem sign_op : ∀ K, K < 39 → ops.opAt (ops.signAt K) 0 = ((K : Int) + 30, ((ops.signAt K).size : Int)) := by decide +kernel
theorem spell_size (n : Int) : (spell.spell n).size ≤ 16 := by
  by_cases h1 : n = 1
  · subst h1; decide
  · by_cases h2 : 10 ≤ n ∧ n ≤ 26
    · obtain ⟨K, rfl⟩ : ∃ K : Nat, n = (K : Int) + 10 := ⟨(n - 10).toNat, by omega⟩
      rw [spell.spell_word K (by omega)]
      exact (show ∀ K, K < 17 → (toks.words.getD K ⟨#[]⟩).size ≤ 16 by decide +kernel) K (by omega)
    · by_cases h3 : 30 ≤ n ∧ n ≤ 68
      · obtain ⟨K, rfl⟩ : ∃ K : Nat, n = (K : Int) + 30 := ⟨(n - 30).toNat, by omega⟩
        rw [spell.spell_sign K (by omega)]
        exact (show ∀ K, K < 39 → (toks.signs.getD K ⟨#[]⟩).size ≤ 16 by decide +kernel) K (by omega)
      · rw [spell.spell_none n h1 h2 h3]; decide

set_option maxRecDepth 100000 in
set_option maxHeartbeats 4000000 in
theorem core {a : Option Addr} {len cap : Nat} {zs : List Int} {w : World} (hc : draw.Code w.heap.size w a len zs) (hl : len ≤ 1048576) (hh : Held w) :
    Calls Tryd.prog 3 #[.slice a len cap] w fun e w' => e = .returned (.bool true) ∧ Below w.heap.size w w' := by
  have HC := Lib.hid hc
  have HH := Lib.hid hh
  clear hc hh
  have hbig : decide (1048576 < len) = false := by simp; omega
  go_enter Tryd.func3, Tryd.ntmps3
  go_wp2_with fail
  refine (draw.big_any a len cap _ (by omega)).mono ?_
  rintro e w' ⟨he, rfl⟩
  rw [hbig] at he
  subst he
  clear hbig
  go_wp2_with fail
  refine (draw.draw_kind HC.out (Nat.le_refl _) hl).mono ?_
  rintro e w1 ⟨n, hn1, hn2, rfl, b1⟩
  have B1 := Lib.hid b1
  have H1 := Lib.hid (HH.out.below b1)
  clear b1
  obtain ⟨s, hs⟩ : ∃ s, s = spell.spell n := ⟨_, rfl⟩
  have hsz := spell_size n
  rw [← hs] at hsz
  have HS := Lib.hid hs
  clear hs
  go_wp2_with fail
  refine (spell.impl_spell n _ H1.out).mono ?_
  rintro e w' ⟨he, rfl⟩
  rw [← HS.out] at he
  subst he
  go_wp2_with fail
  refine (spell.spec_spell n _).mono ?_
  rintro e w2 ⟨he, b2⟩
  rw [← HS.out] at he
  subst he
  have B2 := Lib.hid (B1.out.trans (b2.mono B1.out.size))
  have H2 := Lib.hid (H1.out.below b2)
  have C2 := Lib.hid (HC.out.keep B2.out)
  have z2 := B2.out.size
  clear b2
  go_upto_region 7 with (fail)
  go_cut [34] (fun v wx => v = .bool false ∧ wx = w2)
  case first =>
    by_cases h1 : 10 ≤ n ∧ n ≤ 26
    · obtain ⟨K, rfl⟩ : ∃ K : Nat, n = (K : Int) + 10 := ⟨(n - 10).toNat, by omega⟩
      have hK : K < 17 := by omega
      have HK := Lib.hid (show spell.keyword s = (K : Int) + 10 by rw [HS.out]; exact word_key K hK)
      have HN := Lib.hid (show spell.nameOk s = false by rw [HS.out]; exact word_no K hK)
      obtain ⟨g1, g2⟩ := h1
      go_wp2_with fail
      refine (spell.impl_keyword s _ H2.out).mono ?_
      rintro e w' ⟨he, rfl⟩
      rw [HK.out] at he
      subst he
      go_wp2_with fail
      refine (spell.impl_name s _ (by omega) H2.out).mono ?_
      rintro e w' ⟨he, rfl⟩
      rw [HN.out] at he
      subst he
      go_wp2_with fail
      go_meet
      exact ⟨rfl, rfl⟩
    · by_cases g1 : 10 ≤ n
      · have g2 : ¬ n ≤ 26 := by omega
        clear h1
        go_wp2_with fail
        go_meet
        exact ⟨rfl, rfl⟩
      · clear h1
        go_wp2_with fail
        go_meet
        exact ⟨rfl, rfl⟩
  case rest =>
    obtain ⟨rfl, rfl⟩ := hcut
    by_cases h1 : 30 ≤ n ∧ n ≤ 68
    · obtain ⟨K, rfl⟩ : ∃ K : Nat, n = (K : Int) + 30 := ⟨(n - 30).toNat, by omega⟩
      have hK : K < 39 := by omega
      have HO := Lib.hid (show ops.opAt s 0 = ((K : Int) + 30, (s.size : Int)) by rw [HS.out, spell.spell_sign K hK]; exact sign_op K hK)
      obtain ⟨g1, g2⟩ := h1
      go_wp2_with fail
      refine (ops.impl_op s 0 _ (by omega) H2.out).mono ?_
      rintro e w' ⟨he, rfl⟩
      rw [HO.out] at he
      subst he
      go_wp2_with fail
      refine (draw.draw_nameOk C2.out z2 hl).mono ?_
      rintro e w3 ⟨t, ht, rfl, b3⟩
      have B3 := Lib.hid (B2.out.trans b3)
      have H3 := Lib.hid (HH.out.below B3.out)
      have hts : t.size ≤ 1048576 := by omega
      clear b3
      by_cases q1 : chars.nameShape t = true
      · by_cases q2 : spell.keyword t = 0
        · have q2' : (spell.keyword t == 0) = true := by rw [beq_iff_eq]; exact q2
          clear q2
          cases q3 : toks.isBuiltin t
          · have HN := Lib.hid (show spell.nameOk t = true by unfold spell.nameOk; rw [q1, q2', q3]; rfl)
            go_wp2_with (first | (go_at_call 12; refine (spell.impl_name t _ hts H3.out).mono ?_; rintro e w' ⟨he, rfl⟩; rw [HN.out] at he; subst he) | (go_at_call 15; refine (chars.impl_shape t _ hts).mono ?_; rintro e w' ⟨rfl, rfl⟩) | (go_at_call 11; refine (spell.impl_keyword t _ H3.out).mono ?_; rintro e w' ⟨rfl, rfl⟩) | (go_at_call 16; refine (toks.impl_builtin t _).mono ?_; rintro e w' ⟨rfl, rfl⟩))
            refine (spell.spec_name t _ hts).mono ?_
            rintro e w4 ⟨he, b4⟩
            rw [HN.out] at he
            subst he
            have B4 := Lib.hid (B3.out.trans (b4.mono B3.out.size))
            clear b4
            go_wp2
            go_ret
            exact ⟨rfl, B4.out⟩
          · have HN := Lib.hid (show spell.nameOk t = false by unfold spell.nameOk; rw [q1, q2', q3]; rfl)
            go_wp2_with (first | (go_at_call 12; refine (spell.impl_name t _ hts H3.out).mono ?_; rintro e w' ⟨he, rfl⟩; rw [HN.out] at he; subst he) | (go_at_call 15; refine (chars.impl_shape t _ hts).mono ?_; rintro e w' ⟨rfl, rfl⟩) | (go_at_call 11; refine (spell.impl_keyword t _ H3.out).mono ?_; rintro e w' ⟨rfl, rfl⟩) | (go_at_call 16; refine (toks.impl_builtin t _).mono ?_; rintro e w' ⟨rfl, rfl⟩))
            refine (spell.spec_name t _ hts).mono ?_
            rintro e w4 ⟨he, b4⟩
            rw [HN.out] at he
            subst he
            have B4 := Lib.hid (B3.out.trans (b4.mono B3.out.size))
            clear b4
            go_wp2
            go_ret
            exact ⟨rfl, B4.out⟩
        · have q2' : (spell.keyword t == 0) = false := by rw [beq_eq_false_iff_ne]; exact q2
          clear q2
          have HN := Lib.hid (show spell.nameOk t = false by unfold spell.nameOk; rw [q1, q2']; rfl)
          go_wp2_with (first | (go_at_call 12; refine (spell.impl_name t _ hts H3.out).mono ?_; rintro e w' ⟨he, rfl⟩; rw [HN.out] at he; subst he) | (go_at_call 15; refine (chars.impl_shape t _ hts).mono ?_; rintro e w' ⟨rfl, rfl⟩) | (go_at_call 11; refine (spell.impl_keyword t _ H3.out).mono ?_; rintro e w' ⟨rfl, rfl⟩) | (go_at_call 16; refine (toks.impl_builtin t _).mono ?_; rintro e w' ⟨rfl, rfl⟩))
          refine (spell.spec_name t _ hts).mono ?_
          rintro e w4 ⟨he, b4⟩
          rw [HN.out] at he
          subst he
          have B4 := Lib.hid (B3.out.trans (b4.mono B3.out.size))
          clear b4
          go_wp2
          go_ret
          exact ⟨rfl, B4.out⟩
      · have q1' : chars.nameShape t = false := by simpa using q1
        clear q1
        have HN := Lib.hid (show spell.nameOk t = false by unfold spell.nameOk; rw [q1']; rfl)
        go_wp2_with (first | (go_at_call 12; refine (spell.impl_name t _ hts H3.out).mono ?_; rintro e w' ⟨he, rfl⟩; rw [HN.out] at he; subst he) | (go_at_call 15; refine (chars.impl_shape t _ hts).mono ?_; rintro e w' ⟨rfl, rfl⟩) | (go_at_call 11; refine (spell.impl_keyword t _ H3.out).mono ?_; rintro e w' ⟨rfl, rfl⟩) | (go_at_call 16; refine (toks.impl_builtin t _).mono ?_; rintro e w' ⟨rfl, rfl⟩))
        refine (spell.spec_name t _ hts).mono ?_
        rintro e w4 ⟨he, b4⟩
        rw [HN.out] at he
        subst he
        have B4 := Lib.hid (B3.out.trans (b4.mono B3.out.size))
        clear b4
        go_wp2
        go_ret
        exact ⟨rfl, B4.out⟩
    · by_cases g1 : 30 ≤ n
      · have g2 : ¬ n ≤ 68 := by omega
        clear h1
        go_wp2_with fail
        refine (draw.draw_nameOk C2.out z2 hl).mono ?_
        rintro e w3 ⟨t, ht, rfl, b3⟩
        have B3 := Lib.hid (B2.out.trans b3)
        have H3 := Lib.hid (HH.out.below B3.out)
        have hts : t.size ≤ 1048576 := by omega
        clear b3
        by_cases q1 : chars.nameShape t = true
        · by_cases q2 : spell.keyword t = 0
          · have q2' : (spell.keyword t == 0) = true := by rw [beq_iff_eq]; exact q2
            clear q2
            cases q3 : toks.isBuiltin t
            · have HN := Lib.hid (show spell.nameOk t = true by unfold spell.nameOk; rw [q1, q2', q3]; rfl)
              go_wp2_with (first | (go_at_call 12; refine (spell.impl_name t _ hts H3.out).mono ?_; rintro e w' ⟨he, rfl⟩; rw [HN.out] at he; subst he) | (go_at_call 15; refine (chars.impl_shape t _ hts).mono ?_; rintro e w' ⟨rfl, rfl⟩) | (go_at_call 11; refine (spell.impl_keyword t _ H3.out).mono ?_; rintro e w' ⟨rfl, rfl⟩) | (go_at_call 16; refine (toks.impl_builtin t _).mono ?_; rintro e w' ⟨rfl, rfl⟩))
              refine (spell.spec_name t _ hts).mono ?_
              rintro e w4 ⟨he, b4⟩
              rw [HN.out] at he
              subst he
              have B4 := Lib.hid (B3.out.trans (b4.mono B3.out.size))
              clear b4
              go_wp2
              go_ret
              exact ⟨rfl, B4.out⟩
            · have HN := Lib.hid (show spell.nameOk t = false by unfold spell.nameOk; rw [q1, q2', q3]; rfl)
              go_wp2_with (first | (go_at_call 12; refine (spell.impl_name t _ hts H3.out).mono ?_; rintro e w' ⟨he, rfl⟩; rw [HN.out] at he; subst he) | (go_at_call 15; refine (chars.impl_shape t _ hts).mono ?_; rintro e w' ⟨rfl, rfl⟩) | (go_at_call 11; refine (spell.impl_keyword t _ H3.out).mono ?_; rintro e w' ⟨rfl, rfl⟩) | (go_at_call 16; refine (toks.impl_builtin t _).mono ?_; rintro e w' ⟨rfl, rfl⟩))
              refine (spell.spec_name t _ hts).mono ?_
              rintro e w4 ⟨he, b4⟩
              rw [HN.out] at he
              subst he
              have B4 := Lib.hid (B3.out.trans (b4.mono B3.out.size))
              clear b4
              go_wp2
              go_ret
              exact ⟨rfl, B4.out⟩
          · have q2' : (spell.keyword t == 0) = false := by rw [beq_eq_false_iff_ne]; exact q2
            clear q2
            have HN := Lib.hid (show spell.nameOk t = false by unfold spell.nameOk; rw [q1, q2']; rfl)
            go_wp2_with (first | (go_at_call 12; refine (spell.impl_name t _ hts H3.out).mono ?_; rintro e w' ⟨he, rfl⟩; rw [HN.out] at he; subst he) | (go_at_call 15; refine (chars.impl_shape t _ hts).mono ?_; rintro e w' ⟨rfl, rfl⟩) | (go_at_call 11; refine (spell.impl_keyword t _ H3.out).mono ?_; rintro e w' ⟨rfl, rfl⟩) | (go_at_call 16; refine (toks.impl_builtin t _).mono ?_; rintro e w' ⟨rfl, rfl⟩))
            refine (spell.spec_name t _ hts).mono ?_
            rintro e w4 ⟨he, b4⟩
            rw [HN.out] at he
            subst he
            have B4 := Lib.hid (B3.out.trans (b4.mono B3.out.size))
            clear b4
            go_wp2
            go_ret
            exact ⟨rfl, B4.out⟩
        · have q1' : chars.nameShape t = false := by simpa using q1
          clear q1
          have HN := Lib.hid (show spell.nameOk t = false by unfold spell.nameOk; rw [q1']; rfl)
          go_wp2_with (first | (go_at_call 12; refine (spell.impl_name t _ hts H3.out).mono ?_; rintro e w' ⟨he, rfl⟩; rw [HN.out] at he; subst he) | (go_at_call 15; refine (chars.impl_shape t _ hts).mono ?_; rintro e w' ⟨rfl, rfl⟩) | (go_at_call 11; refine (spell.impl_keyword t _ H3.out).mono ?_; rintro e w' ⟨rfl, rfl⟩) | (go_at_call 16; refine (toks.impl_builtin t _).mono ?_; rintro e w' ⟨rfl, rfl⟩))
          refine (spell.spec_name t _ hts).mono ?_
          rintro e w4 ⟨he, b4⟩
          rw [HN.out] at he
          subst he
          have B4 := Lib.hid (B3.out.trans (b4.mono B3.out.size))
          clear b4
          go_wp2
          go_ret
          exact ⟨rfl, B4.out⟩
      · clear h1
        go_wp2_with fail
        refine (draw.draw_nameOk C2.out z2 hl).mono ?_
        rintro e w3 ⟨t, ht, rfl, b3⟩
        have B3 := Lib.hid (B2.out.trans b3)
        have H3 := Lib.hid (HH.out.below B3.out)
        have hts : t.size ≤ 1048576 := by omega
        clear b3
        by_cases q1 : chars.nameShape t = true
        · by_cases q2 : spell.keyword t = 0
          · have q2' : (spell.keyword t == 0) = true := by rw [beq_iff_eq]; exact q2
            clear q2
            cases q3 : toks.isBuiltin t
            · have HN := Lib.hid (show spell.nameOk t = true by unfold spell.nameOk; rw [q1, q2', q3]; rfl)
              go_wp2_with (first | (go_at_call 12; refine (spell.impl_name t _ hts H3.out).mono ?_; rintro e w' ⟨he, rfl⟩; rw [HN.out] at he; subst he) | (go_at_call 15; refine (chars.impl_shape t _ hts).mono ?_; rintro e w' ⟨rfl, rfl⟩) | (go_at_call 11; refine (spell.impl_keyword t _ H3.out).mono ?_; rintro e w' ⟨rfl, rfl⟩) | (go_at_call 16; refine (toks.impl_builtin t _).mono ?_; rintro e w' ⟨rfl, rfl⟩))
              refine (spell.spec_name t _ hts).mono ?_
              rintro e w4 ⟨he, b4⟩
              rw [HN.out] at he
              subst he
              have B4 := Lib.hid (B3.out.trans (b4.mono B3.out.size))
              clear b4
              go_wp2
              go_ret
              exact ⟨rfl, B4.out⟩
            · have HN := Lib.hid (show spell.nameOk t = false by unfold spell.nameOk; rw [q1, q2', q3]; rfl)
              go_wp2_with (first | (go_at_call 12; refine (spell.impl_name t _ hts H3.out).mono ?_; rintro e w' ⟨he, rfl⟩; rw [HN.out] at he; subst he) | (go_at_call 15; refine (chars.impl_shape t _ hts).mono ?_; rintro e w' ⟨rfl, rfl⟩) | (go_at_call 11; refine (spell.impl_keyword t _ H3.out).mono ?_; rintro e w' ⟨rfl, rfl⟩) | (go_at_call 16; refine (toks.impl_builtin t _).mono ?_; rintro e w' ⟨rfl, rfl⟩))
              refine (spell.spec_name t _ hts).mono ?_
              rintro e w4 ⟨he, b4⟩
              rw [HN.out] at he
              subst he
              have B4 := Lib.hid (B3.out.trans (b4.mono B3.out.size))
              clear b4
              go_wp2
              go_ret
              exact ⟨rfl, B4.out⟩
          · have q2' : (spell.keyword t == 0) = false := by rw [beq_eq_false_iff_ne]; exact q2
            clear q2
            have HN := Lib.hid (show spell.nameOk t = false by unfold spell.nameOk; rw [q1, q2']; rfl)
            go_wp2_with (first | (go_at_call 12; refine (spell.impl_name t _ hts H3.out).mono ?_; rintro e w' ⟨he, rfl⟩; rw [HN.out] at he; subst he) | (go_at_call 15; refine (chars.impl_shape t _ hts).mono ?_; rintro e w' ⟨rfl, rfl⟩) | (go_at_call 11; refine (spell.impl_keyword t _ H3.out).mono ?_; rintro e w' ⟨rfl, rfl⟩) | (go_at_call 16; refine (toks.impl_builtin t _).mono ?_; rintro e w' ⟨rfl, rfl⟩))
            refine (spell.spec_name t _ hts).mono ?_
            rintro e w4 ⟨he, b4⟩
            rw [HN.out] at he
            subst he
            have B4 := Lib.hid (B3.out.trans (b4.mono B3.out.size))
            clear b4
            go_wp2
            go_ret
            exact ⟨rfl, B4.out⟩
        · have q1' : chars.nameShape t = false := by simpa using q1
          clear q1
          have HN := Lib.hid (show spell.nameOk t = false by unfold spell.nameOk; rw [q1']; rfl)
          go_wp2_with (first | (go_at_call 12; refine (spell.impl_name t _ hts H3.out).mono ?_; rintro e w' ⟨he, rfl⟩; rw [HN.out] at he; subst he) | (go_at_call 15; refine (chars.impl_shape t _ hts).mono ?_; rintro e w' ⟨rfl, rfl⟩) | (go_at_call 11; refine (spell.impl_keyword t _ H3.out).mono ?_; rintro e w' ⟨rfl, rfl⟩) | (go_at_call 16; refine (toks.impl_builtin t _).mono ?_; rintro e w' ⟨rfl, rfl⟩))
          refine (spell.spec_name t _ hts).mono ?_
          rintro e w4 ⟨he, b4⟩
          rw [HN.out] at he
          subst he
          have B4 := Lib.hid (B3.out.trans (b4.mono B3.out.size))
          clear b4
          go_wp2
          go_ret
          exact ⟨rfl, B4.out⟩

set_option maxRecDepth 100000 in
/-- THE WALK: the law's own text. -/
theorem walk (a : Option Addr) (len cap : Nat) (zs : List Int) (w : World) (hz : IsRow .u8 w a len cap zs) (hh : Held w) :
    Calls Tryd.prog 3 #[.slice a len cap] w fun e w' => e = .returned (.bool true) ∧ Below w.heap.size w w' := by
  have hlm : len ≤ maxLen := by
    rcases hz with ⟨_, rfl, _, _⟩ | ⟨x, _, hl, hm, _⟩
    · exact Nat.zero_le _
    · exact Nat.le_trans hl hm
  unfold maxLen at hlm
  by_cases hl : len ≤ 1048576
  · exact core (draw.code_of hz) hl hh
  · have hbig : decide (1048576 < len) = true := by simp; omega
    clear hz hh
    go_enter Tryd.func3, Tryd.ntmps3
    go_wp2_with fail
    refine (draw.big_any a len cap _ (by omega)).mono ?_
    rintro e w' ⟨he, rfl⟩
    rw [hbig] at he
    subst he
    go_wp2
    go_ret
    exact ⟨rfl, Below.refl _ _⟩
end Go.Proofs.YtndmaahodccpjaaDoor.lawWords
namespace Go.Proofs.YtndmaahodccpjaaDoor.lawWords
open Go.ChangeShapes Go.WideShapes Go.ChangeAt Go.RowKit
open Go.ChangeMaps (open_string shut_string)
theorem own : ownKnob Tryd.prog.godebug = none := by kernel_rfl
theorem laidOut : laidOutB Tryd.prog = true := by kernel_rfl

set_option maxRecDepth 100000 in
theorem contract (H : Type) (enc : TypeId × Value → H) (W : World) (base : Nat) (args : Array Value) (ds gs : List (DataW H)) (before : List MemPlace)
    (hval : ∀ (j : Nat) t v, Tryd.f3.params[j]? = some t → args[j]? = some v → Value.okWide Tryd.prog W .any base t v)
    (hW : DataW.Whole enc Tryd.prog Tryd.f3.params.toList Rows.fnWordsSpec.vars false W args.toList ds gs before) (hL0 : laidMetH Tryd.prog Rows.fnWordsRow.laid W) :
    Calls Tryd.prog 3 args W fun e W' => ∃ v, e = .returned v ∧ Rows.fnWordsSpec.post enc Tryd.prog Tryd.f3 false true false false W args v W' := by
  have hL : laidMet Tryd.prog Rows.fnWordsRow.laid W := hL0
  have hW' := hW
  obtain ⟨p, q, hA0, hV, rfl, hfz, hnd⟩ := hW
  have hA : DataW.TrodAll enc Tryd.prog W 0 (fun _ => true) true Tryd.f3.params.toList args.toList ds p := hA0
  rw [Tryd.params3] at hA hval
  obtain ⟨v0, vs0, d0, ds0, p0, q0, hargs, rfl, rfl, h0, r0⟩ := trodAll_cons hA
  obtain ⟨rfl, rfl, rfl⟩ := trodAll_nil r0
  obtain rfl : args = #[v0] := by cases args; simp_all
  obtain ⟨e0, e1, rfl⟩ : ∃ e0 e1, gs = [e0, e1] := by
    have hlen := trodVars_len hV
    match gs, hlen with
    | [x0, x1], _ => exact ⟨x0, x1, rfl⟩
  obtain ⟨a0, len0, cap0, rfl⟩ := okWide_slice Tryd.underlying22 (hval 0 22 v0 rfl rfl)
  have k0 := h0
  have lt0 : ∀ x ∈ p0, x.block < W.heap.size := by obtain ⟨m, hm⟩ := k0; exact DataW.trod_lt m _ _ _ hm
  obtain ⟨z0, w0⟩ : ∃ zs, IsRow .u8 W a0 len0 cap0 zs := by
    obtain ⟨fuel, hf⟩ := h0
    rcases open_ints Tryd.underlying22 Tryd.underlying5 (by kernel_rfl) hf with ⟨hcs, _⟩ | ⟨x, l, c, zs, hcs, _, hl, hm, hz, _, hcell, hwz⟩
    · simp [Value.cells] at hcs
      obtain ⟨rfl, rfl, rfl⟩ := hcs
      exact ⟨[], .inl ⟨rfl, rfl, rfl, rfl⟩⟩
    · simp [Value.cells] at hcs
      obtain ⟨rfl, rfl, rfl⟩ := hcs
      exact ⟨zs, .inr ⟨_, rfl, hl, hm, by simpa using hz, hcell, hwz⟩⟩
  clear hA0
  refine (walk a0 len0 cap0 z0 W w0 (spell.held hL)).mono fun e W' ⟨he, bel⟩ => ?_
  subst he
  exact ⟨_, rfl, _, _, _, [], _, _, hW', trodAll_mk1 (shut_bool Tryd.underlying4 _), (trodAll_cons_mk (Below.trod laidOut (by kernel_rfl) (of_decide_eq_true (by kernel_rfl)) k0 bel lt0) trodAll_mk0), Below.trodVars laidOut bel (by kernel_rfl) hV, bel.frame _, fun h => by cases h⟩

theorem laid_met (os : Os) : laidMet Tryd.prog Rows.fnWordsRow.laid ((laidWorld os).forCall (fun _ _ => 0) ⟨#[], #[.slice none 0 0], []⟩).memory :=
  laidMet_of_run' 8 (by kernel_rfl) (by kernel_rfl)
theorem reads (os : Os) {H : Type} (enc : TypeId × Value → H) : ∃ places, DataW.whole enc Tryd.prog ((laidWorld os).forCall (fun _ _ => 0) ⟨#[], #[.slice none 0 0], []⟩).memory Tryd.f3.params.toList Rows.fnWordsSpec.vars false #[Value.slice none 0 0].toList 8 = some ([.nil], [Rows.laid_loop_example_g01543_impl_keywords, Rows.laid_loop_example_g01543_impl_operators], places) :=
  ⟨MemPlace.row ⟨0, 0, none⟩ 17 ++ MemPlace.row ⟨1, 0, none⟩ 39, by kernel_rfl⟩

set_option maxRecDepth 100000 in
theorem lifted (os : Os) (started : os.Started) (H : Type) (enc : TypeId × Value → H) (F : Stop.Interp) :
    ReturnsInHanded {} Tryd.checked os 3 .any ((OpenSpec.ofChange Rows.fnWordsSpec).preRow enc Tryd.prog Tryd.f3 Rows.fnWordsRow.domain false Rows.fnWordsRow.laid) (((OpenSpec.ofChange Rows.fnWordsSpec).at F).post enc Tryd.prog Tryd.f3 false true false false) := by
  obtain ⟨places, hx⟩ := reads os enc
  refine returnsInHanded_of_row (C := Tryd.checked) (s := OpenSpec.ofChange Rows.fnWordsSpec) own started (by kernel_rfl) Tryd.func3
    (witness_row_at (enc := enc) (C := Tryd.checked) false (laidWorld os) #[.slice none 0 0] rfl (by kernel_rfl) (by kernel_rfl) (by kernel_rfl)
      (OpenSpec.preRow_of_cond 8 hx (by kernel_rfl) (fun k hk => by cases hk) (by kernel_rfl) (laid_met os))) ?_
  intro W base args ds gs before hval hW _ _ _ hL _ _
  exact contract H enc W base args ds gs before hval hW hL

theorem said : Rows.FnWordsSaid :=
  OpenClaim.holds_of_cond 3 Tryd.f3 rfl rfl rfl rfl rfl rfl rfl ⟨rfl, rfl, rfl, rfl, rfl⟩ rfl rfl rfl rfl rfl (by kernel_rfl) Tryd.func3 (by kernel_rfl)
    (of_decide_eq_true (by kernel_rfl)) (by unfold Func.isWrapper; first | (rw [if_pos (by decide +kernel)]; kernel_rfl) | (rw [if_neg (by decide +kernel)]; exact ⟨rfl, rfl⟩))
    (fun os started H enc _ F => by rw [OpenClaim.pre_eq_preRow]; exact lifted os started H enc F)

/-- No parameter wants a stand-in; the program's own looks are as the card says. -/
theorem plain (f : FuncId) (fn : Func) (hf : Tryd.pinned.checked.prog.funcNamed "loop.example/g01543/laws.FnWords" = some f) (hfn : Tryd.pinned.checked.prog.funcs[f]? = some fn) :
    Rows.fnWordsCard.stood.looks = Tryd.pinned.checked.prog.looks [] ∧ ∀ (j : Nat) t, fn.params[j]? = some t → Tryd.pinned.checked.prog.wantsStandIn t = false := by
  obtain rfl : f = 3 := Option.some.inj ((show Tryd.prog.funcNamed "loop.example/g01543/laws.FnWords" = some 3 by kernel_rfl).symm.trans hf) |>.symm
  obtain rfl : fn = Tryd.f3 := (Option.some.inj (Tryd.func3.symm.trans hfn)).symm
  refine ⟨by kernel_rfl, fun j t ht => ?_⟩
  rw [Tryd.params3] at ht
  have hm := Array.mem_of_getElem? ht
  simp only [List.mem_toArray, List.mem_cons, List.not_mem_nil, or_false] at hm
  rcases hm with rfl
  · exact (show Tryd.prog.wantsStandIn 22 = false by kernel_rfl)

end Go.Proofs.YtndmaahodccpjaaDoor.lawWords
namespace Go.Proofs.YtndmaahodccpjaaDoor
/-- The card. -/
theorem fnWords_card : Rows.FnWordsCardSaid :=
  Claim7.holds_tied_plain_at .later [] _ _ _ _ lawWords.said (fun _ h => by cases h) (by kernel_rfl) (fun _ h => by cases h) fnWords_row_tie rfl ⟨rfl, rfl⟩ (by kernel_rfl) rfl lawWords.plain (by kernel_rfl)
end Go.Proofs.YtndmaahodccpjaaDoor
