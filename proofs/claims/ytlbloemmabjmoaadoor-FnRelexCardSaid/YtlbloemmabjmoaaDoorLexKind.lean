/-
  impl's lexer, one token: wordAt, kindAt: contracts.
-/
import Derived.Test.YtlbloemmabjmoaaDoorLexImpl
namespace Go.Proofs.YtlbloemmabjmoaaDoor.lex
open Go.ChangeShapes Go.WideShapes Go.ChangeAt Go.RowKit
open tk scan
open spell (Held)
set_option linter.unusedVariables false

theorem eqI {x c : Int} (h : x = c) : (x == c) = true ∧ (x != c) = false := by subst h; simp
theorem neI {x c : Int} (h : ¬ x = c) : (x == c) = false ∧ (x != c) = true := by simp [h]

set_option maxHeartbeats 800000 in
theorem impl_word (s : ByteArray) (A : Nat) (w : World) (hs : s.size ≤ 1048576) (hl : chars.isLetter (byteZ s A) = true) (hh : Held w) :
    Calls Tryd.prog 75 #[.string s, .int .i64 (A : Int)] w fun e w' => e = .returned (.tuple #[.int .i64 (wordAt s A).1, .int .i64 (wordAt s A).2]) ∧ w = w' := by
  have HH := Lib.hid hh
  have hb := name_end_bd hl
  obtain ⟨E, hE⟩ : ∃ E : Nat, nameEnd s A = E := ⟨(nameEnd s A).toNat, by omega⟩
  rw [hE] at hb
  obtain ⟨x, hx⟩ : ∃ x, x = s.extract A E := ⟨_, rfl⟩
  have HX := Lib.hid hx
  have hxs : x.size ≤ 1048576 := by rw [hx, cut_size (by omega)]; omega
  have HW := Lib.hid (show wordAt s A = if chars.nameShape x = true then (if spell.keyword x = 0 then (if toks.isBuiltin x = true then (8, (E : Int)) else if byteZ s (E : Int) = 40 then (7, (E : Int)) else (6, (E : Int))) else (spell.keyword x, (E : Int))) else (0, -1) by
    unfold wordAt
    rw [hE, Int.toNat_natCast, ← hx])
  have HE := Lib.hid hE
  have hAE : (A : Int) ≤ (E : Int) := by omega
  have hEs : (E : Int) ≤ (s.size : Int) := by omega
  clear hx hE hh hl
  cases h1 : chars.nameShape x
  · have HR := Lib.hid (show wordAt s A = (0, -1) by rw [HW.out, h1]; rfl)
    go_enter Tryd.func75, Tryd.ntmps75
    go_wp2_with fail
    refine (impl_nameEnd s _ _ hs).mono ?_
    rintro e w1 ⟨he, rfl⟩
    rw [HE.out] at he
    subst he
    go_wp2_with fail
    rw [← HX.out]
    refine (spell.impl_keyword x _ HH.out).mono ?_
    rintro e w2 ⟨rfl, rfl⟩
    go_wp2_with fail
    refine (chars.impl_shape x _ hxs).mono ?_
    rintro e w3 ⟨rfl, rfl⟩
    go_wp2
    go_ret2
    exact ⟨by rw [HR.out]; rfl, rfl⟩
  by_cases h2 : spell.keyword x = 0
  · obtain ⟨k1, k2⟩ := eqI h2
    have HK := Lib.hid h2
    cases h3 : toks.isBuiltin x
    · by_cases h4 : byteZ s (E : Int) = 40
      · have HR := Lib.hid (show wordAt s A = (7, (E : Int)) by rw [HW.out, if_pos h1, if_pos h2, if_neg (by rw [h3]; decide), if_pos h4])
        obtain ⟨p1, p2⟩ := eqI h4
        clear h2 h4
        go_enter Tryd.func75, Tryd.ntmps75
        go_wp2_with fail
        refine (impl_nameEnd s _ _ hs).mono ?_
        rintro e w1 ⟨he, rfl⟩
        rw [HE.out] at he
        subst he
        go_wp2_with fail
        rw [← HX.out]
        refine (spell.impl_keyword x _ HH.out).mono ?_
        rintro e w2 ⟨rfl, rfl⟩
        go_wp2_with fail
        refine (chars.impl_shape x _ hxs).mono ?_
        rintro e w3 ⟨rfl, rfl⟩
        go_wp2_with fail
        refine (toks.impl_builtin x _).mono ?_
        rintro e w4 ⟨rfl, rfl⟩
        go_wp2_with fail
        refine (impl_byte s _ _ hs).mono ?_
        rintro e w5 ⟨rfl, rfl⟩
        go_wp2
        go_ret2
        exact ⟨by rw [HR.out]; rfl, rfl⟩
      · have HR := Lib.hid (show wordAt s A = (6, (E : Int)) by rw [HW.out, if_pos h1, if_pos h2, if_neg (by rw [h3]; decide), if_neg h4])
        obtain ⟨p1, p2⟩ := neI h4
        clear h2 h4
        go_enter Tryd.func75, Tryd.ntmps75
        go_wp2_with fail
        refine (impl_nameEnd s _ _ hs).mono ?_
        rintro e w1 ⟨he, rfl⟩
        rw [HE.out] at he
        subst he
        go_wp2_with fail
        rw [← HX.out]
        refine (spell.impl_keyword x _ HH.out).mono ?_
        rintro e w2 ⟨rfl, rfl⟩
        go_wp2_with fail
        refine (chars.impl_shape x _ hxs).mono ?_
        rintro e w3 ⟨rfl, rfl⟩
        go_wp2_with fail
        refine (toks.impl_builtin x _).mono ?_
        rintro e w4 ⟨rfl, rfl⟩
        go_wp2_with fail
        refine (impl_byte s _ _ hs).mono ?_
        rintro e w5 ⟨rfl, rfl⟩
        go_wp2
        go_ret2
        exact ⟨by rw [HR.out]; rfl, rfl⟩
    · have HR := Lib.hid (show wordAt s A = (8, (E : Int)) by rw [HW.out, if_pos h1, if_pos h2, if_pos h3])
      clear h2
      go_enter Tryd.func75, Tryd.ntmps75
      go_wp2_with fail
      refine (impl_nameEnd s _ _ hs).mono ?_
      rintro e w1 ⟨he, rfl⟩
      rw [HE.out] at he
      subst he
      go_wp2_with fail
      rw [← HX.out]
      refine (spell.impl_keyword x _ HH.out).mono ?_
      rintro e w2 ⟨rfl, rfl⟩
      go_wp2_with fail
      refine (chars.impl_shape x _ hxs).mono ?_
      rintro e w3 ⟨rfl, rfl⟩
      go_wp2_with fail
      refine (toks.impl_builtin x _).mono ?_
      rintro e w4 ⟨rfl, rfl⟩
      go_wp2
      go_ret2
      exact ⟨by rw [HR.out]; rfl, rfl⟩
  · have HR := Lib.hid (show wordAt s A = (spell.keyword x, (E : Int)) by rw [HW.out, if_pos h1, if_neg h2])
    obtain ⟨k1, k2⟩ := neI h2
    clear h2
    go_enter Tryd.func75, Tryd.ntmps75
    go_wp2_with fail
    refine (impl_nameEnd s _ _ hs).mono ?_
    rintro e w1 ⟨he, rfl⟩
    rw [HE.out] at he
    subst he
    go_wp2_with fail
    rw [← HX.out]
    refine (spell.impl_keyword x _ HH.out).mono ?_
    rintro e w2 ⟨rfl, rfl⟩
    go_wp2_with fail
    refine (chars.impl_shape x _ hxs).mono ?_
    rintro e w3 ⟨rfl, rfl⟩
    go_wp2
    go_ret2
    exact ⟨by rw [HR.out]; rfl, rfl⟩

set_option maxHeartbeats 1600000 in
theorem impl_kind (s : ByteArray) (A : Nat) (prev : Int) (w : World) (hs : s.size ≤ 1048576) (hA : A < s.size) (hh : Held w) :
    Calls Tryd.prog 37 #[.string s, .int .i64 (A : Int), .int .i64 prev] w fun e w' => e = .returned (.tuple #[.int .i64 (kindAt s A prev).1, .int .i64 (kindAt s A prev).2]) ∧ w = w' := by
  have HH := Lib.hid hh
  clear hh
  by_cases h1 : byteZ s A = 10
  · have HR := Lib.hid (show kindAt s A prev = (1, (A : Int) + 1) by unfold kindAt; rw [if_pos h1])
    obtain ⟨p1, -⟩ := eqI h1
    clear h1
    go_enter Tryd.func37, Tryd.ntmps37
    go_wp2_with (go_at_call 57; refine (impl_byte s _ _ hs).mono ?_; rintro e w' ⟨rfl, rfl⟩)
    go_ret2
    exact ⟨by rw [HR.out]; rfl, rfl⟩
  obtain ⟨p1, -⟩ := neI h1
  by_cases h2 : byteZ s A = 35
  · have HR := Lib.hid (show kindAt s A prev = (2, cmtEnd s A) by unfold kindAt; rw [if_neg h1, if_pos h2])
    obtain ⟨p2, -⟩ := eqI h2
    clear h1 h2
    go_enter Tryd.func37, Tryd.ntmps37
    go_wp2_with (first | (go_at_call 57; refine (impl_byte s _ _ hs).mono ?_; rintro e w' ⟨rfl, rfl⟩) | (go_at_call 68; refine (impl_comment s A _ hs (Nat.le_of_lt hA)).mono ?_; rintro e w' ⟨rfl, rfl⟩))
    go_ret2
    exact ⟨by rw [HR.out]; rfl, rfl⟩
  obtain ⟨p2, -⟩ := neI h2
  by_cases h3 : chars.isDigit (byteZ s A) = true
  · have HR := Lib.hid (show kindAt s A prev = (3, numEnd s A) by unfold kindAt; rw [if_neg h1, if_neg h2, if_pos (.inl h3)])
    clear h1 h2
    go_enter Tryd.func37, Tryd.ntmps37
    go_wp2_with (first | (go_at_call 57; refine (impl_byte s _ _ hs).mono ?_; rintro e w' ⟨rfl, rfl⟩) | (go_at_call 69; refine (chars.impl_digit _ _).mono ?_; rintro e w' ⟨rfl, rfl⟩) | (go_at_call 70; refine (impl_num s _ _ hs).mono ?_; rintro e w' ⟨rfl, rfl⟩))
    go_ret2
    exact ⟨by rw [HR.out]; rfl, rfl⟩
  have h3' : chars.isDigit (byteZ s A) = false := by simpa using h3
  by_cases h4 : byteZ s A = 46
  · have HR := Lib.hid (show kindAt s A prev = (3, numEnd s A) by unfold kindAt; rw [if_neg h1, if_neg h2, if_pos (.inr h4)])
    obtain ⟨p4, -⟩ := eqI h4
    clear h1 h2 h3 h4
    go_enter Tryd.func37, Tryd.ntmps37
    go_wp2_with (first | (go_at_call 57; refine (impl_byte s _ _ hs).mono ?_; rintro e w' ⟨rfl, rfl⟩) | (go_at_call 69; refine (chars.impl_digit _ _).mono ?_; rintro e w' ⟨rfl, rfl⟩) | (go_at_call 70; refine (impl_num s _ _ hs).mono ?_; rintro e w' ⟨rfl, rfl⟩))
    go_ret2
    exact ⟨by rw [HR.out]; rfl, rfl⟩
  obtain ⟨p4, -⟩ := neI h4
  have H34 : ¬ (chars.isDigit (byteZ s A) = true ∨ byteZ s A = 46) := fun h => h.elim h3 h4
  by_cases h5 : byteZ s A = 34
  · have HR := Lib.hid (show kindAt s A prev = (4, strEnd s A) by unfold kindAt; rw [if_neg h1, if_neg h2, if_neg H34, if_pos h5])
    obtain ⟨p5, -⟩ := eqI h5
    clear h1 h2 h3 h4 h5 H34
    go_enter Tryd.func37, Tryd.ntmps37
    go_wp2_with (first | (go_at_call 57; refine (impl_byte s _ _ hs).mono ?_; rintro e w' ⟨rfl, rfl⟩) | (go_at_call 69; refine (chars.impl_digit _ _).mono ?_; rintro e w' ⟨rfl, rfl⟩) | (go_at_call 71; refine (impl_str s _ _ hs).mono ?_; rintro e w' ⟨rfl, rfl⟩))
    go_ret2
    exact ⟨by rw [HR.out]; rfl, rfl⟩
  obtain ⟨p5, -⟩ := neI h5
  by_cases h6 : byteZ s A = 47 ∧ operand.ends prev = false
  · have HR := Lib.hid (show kindAt s A prev = (5, ereEnd s A) by unfold kindAt; rw [if_neg h1, if_neg h2, if_neg H34, if_neg h5, if_pos h6])
    obtain ⟨p6, -⟩ := eqI h6.1
    have p7 := h6.2
    clear h1 h2 h3 h4 h5 H34 h6
    go_enter Tryd.func37, Tryd.ntmps37
    go_wp2_with (first | (go_at_call 57; refine (impl_byte s _ _ hs).mono ?_; rintro e w' ⟨rfl, rfl⟩) | (go_at_call 69; refine (chars.impl_digit _ _).mono ?_; rintro e w' ⟨rfl, rfl⟩) | (go_at_call 72; refine (operand.impl_ends _ _).mono ?_; rintro e w' ⟨rfl, rfl⟩) | (go_at_call 73; refine (impl_ere s _ _ hs).mono ?_; rintro e w' ⟨rfl, rfl⟩))
    go_ret2
    exact ⟨by rw [HR.out]; rfl, rfl⟩
  have H6 : ((byteZ s A == 47) = false) ∨ ((byteZ s A == 47) = true ∧ operand.ends prev = true) := by
    by_cases h : byteZ s A = 47
    · right
      refine ⟨(eqI h).1, ?_⟩
      cases he : operand.ends prev
      · exact absurd ⟨h, he⟩ h6
      · rfl
    · exact .inl (neI h).1
  by_cases h7 : chars.isLetter (byteZ s A) = true
  · have HR := Lib.hid (show kindAt s A prev = wordAt s A by unfold kindAt; rw [if_neg h1, if_neg h2, if_neg H34, if_neg h5, if_neg h6, if_pos h7])
    clear h1 h2 h3 h4 h5 H34 h6
    rcases H6 with p6 | ⟨p6, p7⟩
    all_goals
      go_enter Tryd.func37, Tryd.ntmps37
      go_wp2_with (first | (go_at_call 57; refine (impl_byte s _ _ hs).mono ?_; rintro e w' ⟨rfl, rfl⟩) | (go_at_call 69; refine (chars.impl_digit _ _).mono ?_; rintro e w' ⟨rfl, rfl⟩) | (go_at_call 72; refine (operand.impl_ends _ _).mono ?_; rintro e w' ⟨rfl, rfl⟩) | (go_at_call 74; refine (chars.impl_letter _ _).mono ?_; rintro e w' ⟨rfl, rfl⟩) | (go_at_call 75; refine (impl_word s A _ hs h7 HH.out).mono ?_; rintro e w' ⟨rfl, rfl⟩))
      go_ret2
      exact ⟨by rw [HR.out]; rfl, rfl⟩
  · have h7' : chars.isLetter (byteZ s A) = false := by simpa using h7
    have HR0 := show kindAt s A prev = ((ops.opAt s A).1, (A : Int) + (ops.opAt s A).2) by unfold kindAt; rw [if_neg h1, if_neg h2, if_neg H34, if_neg h5, if_neg h6, if_neg h7]
    have hf := op_facts s A (by omega)
    obtain ⟨P, hP⟩ : ∃ P, P = ops.opAt s A := ⟨_, rfl⟩
    rw [← hP] at HR0 hf
    have HP := Lib.hid hP
    have hPb : 0 ≤ P.2 ∧ P.2 ≤ 1048576 := by
      rcases hf with h | h
      · rw [h]; decide
      · omega
    have HR := Lib.hid HR0
    clear h1 h2 h3 h4 h5 H34 h6 h7 HR0 hP hf
    rcases H6 with p6 | ⟨p6, p7⟩
    all_goals
      go_enter Tryd.func37, Tryd.ntmps37
      go_wp2_with (first | (go_at_call 57; refine (impl_byte s _ _ hs).mono ?_; rintro e w' ⟨rfl, rfl⟩) | (go_at_call 69; refine (chars.impl_digit _ _).mono ?_; rintro e w' ⟨rfl, rfl⟩) | (go_at_call 72; refine (operand.impl_ends _ _).mono ?_; rintro e w' ⟨rfl, rfl⟩) | (go_at_call 74; refine (chars.impl_letter _ _).mono ?_; rintro e w' ⟨rfl, rfl⟩) | (go_at_call 60; refine (ops.impl_op s _ _ hs HH.out).mono ?_; rintro e w' ⟨he, rfl⟩; rw [← HP.out] at he; subst he))
      go_ret2
      exact ⟨by rw [HR.out]; rfl, rfl⟩
end Go.Proofs.YtlbloemmabjmoaaDoor.lex
