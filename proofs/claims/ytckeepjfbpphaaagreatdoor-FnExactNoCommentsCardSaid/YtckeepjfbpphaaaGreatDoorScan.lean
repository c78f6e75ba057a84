/-
  Scanning single tokens: impl's functions and the model's give the same places ('byteZ', 'runEnd', 'numEnd', 'quoted', 'nameEnd'), and leave the world alone: contracts.
-/
import Derived.Test.YtckeepjfbpphaaaGreatDoorRows
import Derived.Test.YtckeepjfbpphaaaGreatDoorBase
import Derived.Test.YtckeepjfbpphaaaGreatDoorChars
import Derived.Test.YtckeepjfbpphaaaGreatDoorScanMath
import Derived.WalkKit
import Derived.ProofKit
import Derived.OpenShut
import Derived.ShutString
import Derived.ChangeOld
import Derived.Below
import Derived.WalkSpells
import Derived.WalkLawsBesides
namespace Go.Proofs.YtckeepjfbpphaaaGreatDoor.scan
open Go.ChangeShapes Go.WideShapes Go.ChangeAt Go.RowKit
set_option linter.unusedVariables false

theorem impl_byte (s : ByteArray) (i : Int) (w : World) (hs : s.size ≤ 1048576) : Calls Tryz.prog 97 #[.string s, .int .i64 i] w fun e w' => e = .returned (.int .i64 (byteZ s i)) ∧ w = w' := by
  by_cases h0 : i < 0
  · have HE := Lib.hid (byte_out (s := s) (i := i) (by omega))
    go_enter Tryz.func97, Tryz.ntmps97
    go_wp2
    go_ret
    exact ⟨by rw [HE.out]; rfl, rfl⟩
  · obtain ⟨I, rfl⟩ : ∃ I : Nat, i = I := ⟨i.toNat, by omega⟩
    by_cases h1 : I < s.size
    · have HE := Lib.hid (byte_in h1)
      have hc := s[I].toNat_lt
      clear h0
      go_enter Tryz.func97, Tryz.ntmps97
      go_wp2
      go_ret
      exact ⟨by rw [HE.out]; rfl, rfl⟩
    · have HE := Lib.hid (byte_out (s := s) (i := I) (by omega))
      have h2 : s.size ≤ I := by omega
      clear h0
      go_enter Tryz.func97, Tryz.ntmps97
      go_wp2
      go_ret
      exact ⟨by rw [HE.out]; rfl, rfl⟩

theorem spec_byte (s : ByteArray) (i : Int) (w : World) (hs : s.size ≤ 1048576) : Calls Tryz.prog 88 #[.string s, .int .i64 i] w fun e w' => e = .returned (.int .i64 (byteZ s i)) ∧ w = w' := by
  by_cases h0 : i < 0
  · have HE := Lib.hid (byte_out (s := s) (i := i) (by omega))
    go_enter Tryz.func88, Tryz.ntmps88
    go_wp2
    go_ret
    exact ⟨by rw [HE.out]; rfl, rfl⟩
  · obtain ⟨I, rfl⟩ : ∃ I : Nat, i = I := ⟨i.toNat, by omega⟩
    by_cases h1 : I < s.size
    · have HE := Lib.hid (byte_in h1)
      have hc := s[I].toNat_lt
      clear h0
      go_enter Tryz.func88, Tryz.ntmps88
      go_wp2
      go_ret
      exact ⟨by rw [HE.out]; rfl, rfl⟩
    · have HE := Lib.hid (byte_out (s := s) (i := I) (by omega))
      have h2 : s.size ≤ I := by omega
      clear h0
      go_enter Tryz.func88, Tryz.ntmps88
      go_wp2
      go_ret
      exact ⟨by rw [HE.out]; rfl, rfl⟩


/-- The loops' relation: what is left to run is what was. -/
def RelRun (p : Int → Bool) (s : ByteArray) (i : Int) (v : Value) : Prop := ∃ J : Int, v = .int .i64 J ∧ runEnd p s J = runEnd p s i

theorem impl_digits (s : ByteArray) (i : Int) (w : World) (hs : s.size ≤ 1048576) : Calls Tryz.prog 96 #[.string s, .int .i64 i] w fun e w' => e = .returned (.int .i64 (runEnd chars.isDigit s i)) ∧ w = w' := by
  go_enter Tryz.func96, Tryz.ntmps96
  go_wp2
  go_loop [1] (fun j => RelRun chars.isDigit s i j) (fun j => ((s.size : Int) - intOf j).toNat)
  case atStart => exact ⟨i, rfl, rfl⟩
  case round =>
    obtain ⟨J, rfl, hJ⟩ := hrel
    have HJ := Lib.hid hJ
    clear hJ
    by_cases hd : chars.isDigit (byteZ s J) = true
    · have hr := cls_digit.range hd
      obtain ⟨hr0, hr1⟩ := hr
      have HS := Lib.hid ((run_step cls_digit hd).symm.trans HJ.out)
      go_wp2_with (first | (go_at_call 97; refine (impl_byte s _ _ hs).mono ?_; rintro e w' ⟨rfl, rfl⟩) | (go_at_call 101; refine (chars.impl_digit _ _).mono ?_; rintro e w' ⟨rfl, rfl⟩))
      go_round
      case rel => exact ⟨J + 1, rfl, HS.out⟩
      case measure => simp [intOf]; omega
    · have hd' : chars.isDigit (byteZ s J) = false := by simpa using hd
      have HS := Lib.hid ((run_stop hd').symm.trans HJ.out)
      clear hd
      go_wp2_with (first | (go_at_call 97; refine (impl_byte s _ _ hs).mono ?_; rintro e w' ⟨rfl, rfl⟩) | (go_at_call 101; refine (chars.impl_digit _ _).mono ?_; rintro e w' ⟨rfl, rfl⟩))
      go_ret
      exact ⟨by rw [← HS.out]; rfl, rfl⟩

theorem spec_digits (s : ByteArray) (i : Int) (w : World) (hs : s.size ≤ 1048576) : Calls Tryz.prog 87 #[.string s, .int .i64 i] w fun e w' => e = .returned (.int .i64 (runEnd chars.isDigit s i)) ∧ w = w' := by
  go_enter Tryz.func87, Tryz.ntmps87
  go_wp2
  go_loop [1] (fun j => RelRun chars.isDigit s i j) (fun j => ((s.size : Int) - intOf j).toNat)
  case atStart => exact ⟨i, rfl, rfl⟩
  case round =>
    obtain ⟨J, rfl, hJ⟩ := hrel
    have HJ := Lib.hid hJ
    clear hJ
    by_cases hd : chars.isDigit (byteZ s J) = true
    · have hr := cls_digit.range hd
      obtain ⟨hr0, hr1⟩ := hr
      have HS := Lib.hid ((run_step cls_digit hd).symm.trans HJ.out)
      go_wp2_with (first | (go_at_call 88; refine (spec_byte s _ _ hs).mono ?_; rintro e w' ⟨rfl, rfl⟩) | (go_at_call 100; refine (chars.spec_digit _ _).mono ?_; rintro e w' ⟨rfl, rfl⟩))
      go_round
      case rel => exact ⟨J + 1, rfl, HS.out⟩
      case measure => simp [intOf]; omega
    · have hd' : chars.isDigit (byteZ s J) = false := by simpa using hd
      have HS := Lib.hid ((run_stop hd').symm.trans HJ.out)
      clear hd
      go_wp2_with (first | (go_at_call 88; refine (spec_byte s _ _ hs).mono ?_; rintro e w' ⟨rfl, rfl⟩) | (go_at_call 100; refine (chars.spec_digit _ _).mono ?_; rintro e w' ⟨rfl, rfl⟩))
      go_ret
      exact ⟨by rw [← HS.out]; rfl, rfl⟩


theorem yes_facts {x c d : Int} (hcd : c ≠ d) (h : x = c ∨ x = d) : ((x == c) = true ∧ (x != c) = false ∧ (x == d) = false ∧ (x != d) = true) ∨ ((x == c) = false ∧ (x != c) = true ∧ (x == d) = true ∧ (x != d) = false) := by
  rcases h with rfl | rfl
  · exact .inl ⟨by simp, by simp, by simpa using hcd, by simpa using hcd⟩
  · exact .inr ⟨by simpa using Ne.symm hcd, by simpa using Ne.symm hcd, by simp, by simp⟩
theorem no_facts {x c d : Int} (h : ¬ (x = c ∨ x = d)) : (x == c) = false ∧ (x != c) = true ∧ (x == d) = false ∧ (x != d) = true := by
  rw [not_or] at h
  simp [h.1, h.2]
theorem eq_facts {x c : Int} (h : x = c) : (x == c) = true ∧ (x != c) = false := by subst h; simp
theorem ne_facts {x c : Int} (h : ¬ x = c) : (x == c) = false ∧ (x != c) = true := by simp [h]

theorem impl_exp (s : ByteArray) (I : Nat) (w : World) (hs : s.size ≤ 1048576) (hI : I ≤ s.size) : Calls Tryz.prog 98 #[.string s, .int .i64 (I : Int)] w fun e w' => e = .returned (.int .i64 (expEnd s I)) ∧ w = w' := by
  by_cases h1 : byteZ s I = 101 ∨ byteZ s I = 69
  · have hlt : (I : Int) < (s.size : Int) := (byte_range (s := s) (i := I) (by omega)).2
    have hy := yes_facts (by decide) h1
    by_cases h2 : byteZ s (I + 1) = 43 ∨ byteZ s (I + 1) = 45
    · have hz := yes_facts (by decide) h2
      have hlt2 : (I : Int) + 1 < (s.size : Int) := (byte_range (s := s) (i := I + 1) (by omega)).2
      by_cases h3 : runEnd chars.isDigit s (I + 1 + 1) > I + 1 + 1
      · have HE := Lib.hid (show expEnd s I = runEnd chars.isDigit s (I + 1 + 1) by unfold expEnd; rw [if_pos h1, if_pos h2, if_pos h3])
        have h3' : (I : Int) + 1 + 1 < runEnd chars.isDigit s (I + 1 + 1) := h3
        clear h1 h2 h3
        rcases hy with ⟨a1, a2, a3, a4⟩ | ⟨a1, a2, a3, a4⟩ <;> rcases hz with ⟨c1, c2, c3, c4⟩ | ⟨c1, c2, c3, c4⟩
        all_goals
          go_enter Tryz.func98, Tryz.ntmps98
          go_wp2_with (first | (go_at_call 97; refine (impl_byte s _ _ hs).mono ?_; rintro e w' ⟨rfl, rfl⟩) | (go_at_call 96; refine (impl_digits s _ _ hs).mono ?_; rintro e w' ⟨rfl, rfl⟩))
          go_ret
          exact ⟨by rw [HE.out]; rfl, rfl⟩
      · have HE := Lib.hid (show expEnd s I = I by unfold expEnd; rw [if_pos h1, if_pos h2, if_neg h3])
        have h3' : runEnd chars.isDigit s (I + 1 + 1) ≤ (I : Int) + 1 + 1 := by omega
        clear h1 h2 h3
        rcases hy with ⟨a1, a2, a3, a4⟩ | ⟨a1, a2, a3, a4⟩ <;> rcases hz with ⟨c1, c2, c3, c4⟩ | ⟨c1, c2, c3, c4⟩
        all_goals
          go_enter Tryz.func98, Tryz.ntmps98
          go_wp2_with (first | (go_at_call 97; refine (impl_byte s _ _ hs).mono ?_; rintro e w' ⟨rfl, rfl⟩) | (go_at_call 96; refine (impl_digits s _ _ hs).mono ?_; rintro e w' ⟨rfl, rfl⟩))
          go_ret
          exact ⟨by rw [HE.out]; rfl, rfl⟩
    · obtain ⟨c1, c2, c3, c4⟩ := no_facts h2
      by_cases h3 : runEnd chars.isDigit s (I + 1) > I + 1
      · have HE := Lib.hid (show expEnd s I = runEnd chars.isDigit s (I + 1) by unfold expEnd; rw [if_pos h1, if_neg h2, if_pos h3])
        have h3' : (I : Int) + 1 < runEnd chars.isDigit s (I + 1) := h3
        clear h1 h2 h3
        rcases hy with ⟨a1, a2, a3, a4⟩ | ⟨a1, a2, a3, a4⟩
        all_goals
          go_enter Tryz.func98, Tryz.ntmps98
          go_wp2_with (first | (go_at_call 97; refine (impl_byte s _ _ hs).mono ?_; rintro e w' ⟨rfl, rfl⟩) | (go_at_call 96; refine (impl_digits s _ _ hs).mono ?_; rintro e w' ⟨rfl, rfl⟩))
          go_ret
          exact ⟨by rw [HE.out]; rfl, rfl⟩
      · have HE := Lib.hid (show expEnd s I = I by unfold expEnd; rw [if_pos h1, if_neg h2, if_neg h3])
        have h3' : runEnd chars.isDigit s (I + 1) ≤ (I : Int) + 1 := by omega
        clear h1 h2 h3
        rcases hy with ⟨a1, a2, a3, a4⟩ | ⟨a1, a2, a3, a4⟩
        all_goals
          go_enter Tryz.func98, Tryz.ntmps98
          go_wp2_with (first | (go_at_call 97; refine (impl_byte s _ _ hs).mono ?_; rintro e w' ⟨rfl, rfl⟩) | (go_at_call 96; refine (impl_digits s _ _ hs).mono ?_; rintro e w' ⟨rfl, rfl⟩))
          go_ret
          exact ⟨by rw [HE.out]; rfl, rfl⟩
  · have HE := Lib.hid (show expEnd s I = I by unfold expEnd; rw [if_neg h1])
    obtain ⟨a1, a2, a3, a4⟩ := no_facts h1
    clear h1
    go_enter Tryz.func98, Tryz.ntmps98
    go_wp2_with (go_at_call 97; refine (impl_byte s _ _ hs).mono ?_; rintro e w' ⟨rfl, rfl⟩)
    go_ret
    exact ⟨by rw [HE.out]; rfl, rfl⟩


/-- A number's two runs, as natural numbers. -/
theorem run_nat (s : ByteArray) (A : Nat) (h : A ≤ s.size) : ∃ E : Nat, runEnd chars.isDigit s A = (E : Int) ∧ A ≤ E ∧ E ≤ s.size := by
  have h1 := run_ge chars.isDigit s A
  have h2 := run_le chars.isDigit s A (by omega)
  exact ⟨(runEnd chars.isDigit s A).toNat, by omega, by omega, by omega⟩

theorem impl_num (s : ByteArray) (i : Int) (w : World) (hs : s.size ≤ 1048576) : Calls Tryz.prog 80 #[.string s, .int .i64 i] w fun e w' => e = .returned (.int .i64 (numEnd s i)) ∧ w = w' := by
  by_cases h0 : i < 0 ∨ (s.size : Int) ≤ i
  · have HE := Lib.hid (num_out h0)
    have HR := Lib.hid (run_out (p := chars.isDigit) h0)
    have HB := Lib.hid (byte_out h0)
    clear h0
    go_enter Tryz.func80, Tryz.ntmps80
    go_wp2_with fail
    refine (impl_digits s _ _ hs).mono ?_
    rintro e w' ⟨he, rfl⟩
    rw [HR.out] at he
    subst he
    go_wp2_with fail
    refine (impl_byte s _ _ hs).mono ?_
    rintro e w' ⟨he, rfl⟩
    rw [HB.out] at he
    subst he
    go_wp2
    go_ret
    exact ⟨by rw [HE.out]; rfl, rfl⟩
  · obtain ⟨A, rfl⟩ : ∃ A : Nat, i = A := ⟨i.toNat, by omega⟩
    have hA : A < s.size := by omega
    clear h0
    obtain ⟨E, hE, hAE, hEs⟩ := run_nat s A (by omega)
    by_cases hd : byteZ s E = 46
    · have hlt : E < s.size := by have := (byte_range (s := s) (i := E) (by omega)).2; omega
      obtain ⟨K, hK, hEK, hKs⟩ := run_nat s (E + 1) (by omega)
      have hK' : runEnd chars.isDigit s ((E : Int) + 1) = K := by rw [← hK]; congr 1
      obtain ⟨d1, d2⟩ := eq_facts hd
      by_cases hz : E = A ∧ K = E + 1
      · have HE := Lib.hid (show numEnd s A = -1 by unfold numEnd; rw [hE, if_pos hd, if_pos (by rw [hK']; omega)])
        have z1 : ((E : Int) - (A : Int) + ((K : Int) - ((E : Int) + 1)) == 0) = true := by rw [beq_iff_eq]; omega
        have H1 := Lib.hid hE
        have H2 := Lib.hid hK'
        clear hE hd hK hK' hz
        go_enter Tryz.func80, Tryz.ntmps80
        go_wp2_with fail
        refine (impl_digits s _ _ hs).mono ?_
        rintro e w' ⟨he, rfl⟩
        rw [H1.out] at he
        subst he
        go_wp2_with fail
        refine (impl_byte s _ _ hs).mono ?_
        rintro e w' ⟨rfl, rfl⟩
        go_wp2_with fail
        refine (impl_digits s _ _ hs).mono ?_
        rintro e w' ⟨he, rfl⟩
        rw [H2.out] at he
        subst he
        go_wp2
        go_ret
        exact ⟨by rw [HE.out]; rfl, rfl⟩
      · have HE := Lib.hid (show numEnd s A = expEnd s K by unfold numEnd; rw [hE, if_pos hd, if_neg (by rw [hK']; omega), hK'])
        have z1 : ((E : Int) - (A : Int) + ((K : Int) - ((E : Int) + 1)) == 0) = false := by rw [beq_eq_false_iff_ne]; omega
        have H1 := Lib.hid hE
        have H2 := Lib.hid hK'
        clear hE hd hK hK' hz
        go_enter Tryz.func80, Tryz.ntmps80
        go_wp2_with fail
        refine (impl_digits s _ _ hs).mono ?_
        rintro e w' ⟨he, rfl⟩
        rw [H1.out] at he
        subst he
        go_wp2_with fail
        refine (impl_byte s _ _ hs).mono ?_
        rintro e w' ⟨rfl, rfl⟩
        go_wp2_with fail
        refine (impl_digits s _ _ hs).mono ?_
        rintro e w' ⟨he, rfl⟩
        rw [H2.out] at he
        subst he
        go_wp2_with fail
        refine (impl_exp s _ _ hs hKs).mono ?_
        rintro e w' ⟨rfl, rfl⟩
        go_wp2
        go_ret
        exact ⟨by rw [HE.out]; rfl, rfl⟩
    · obtain ⟨d1, d2⟩ := ne_facts hd
      by_cases hz : E = A
      · have HE := Lib.hid (show numEnd s A = -1 by unfold numEnd; rw [hE, if_neg hd, if_pos (by omega)])
        have z1 : ((E : Int) - (A : Int) == 0) = true := by rw [beq_iff_eq]; omega
        have H1 := Lib.hid hE
        clear hE hd hz
        go_enter Tryz.func80, Tryz.ntmps80
        go_wp2_with fail
        refine (impl_digits s _ _ hs).mono ?_
        rintro e w' ⟨he, rfl⟩
        rw [H1.out] at he
        subst he
        go_wp2_with fail
        refine (impl_byte s _ _ hs).mono ?_
        rintro e w' ⟨rfl, rfl⟩
        go_wp2
        go_ret
        exact ⟨by rw [HE.out]; rfl, rfl⟩
      · have HE := Lib.hid (show numEnd s A = expEnd s E by unfold numEnd; rw [hE, if_neg hd, if_neg (by omega)])
        have z1 : ((E : Int) - (A : Int) == 0) = false := by rw [beq_eq_false_iff_ne]; omega
        have H1 := Lib.hid hE
        clear hE hd hz
        go_enter Tryz.func80, Tryz.ntmps80
        go_wp2_with fail
        refine (impl_digits s _ _ hs).mono ?_
        rintro e w' ⟨he, rfl⟩
        rw [H1.out] at he
        subst he
        go_wp2_with fail
        refine (impl_byte s _ _ hs).mono ?_
        rintro e w' ⟨rfl, rfl⟩
        go_wp2_with fail
        refine (impl_exp s _ _ hs hEs).mono ?_
        rintro e w' ⟨rfl, rfl⟩
        go_wp2
        go_ret
        exact ⟨by rw [HE.out]; rfl, rfl⟩


set_option maxHeartbeats 4000000 in
theorem spec_num (s : ByteArray) (i : Int) (w : World) (hs : s.size ≤ 1048576) : Calls Tryz.prog 69 #[.string s, .int .i64 i] w fun e w' => e = .returned (.int .i64 (numEnd s i)) ∧ w = w' := by
  by_cases h00 : i < 0
  · have HE := Lib.hid (num_out (s := s) (.inl h00))
    go_enter Tryz.func69, Tryz.ntmps69
    go_wp2
    go_ret
    exact ⟨by rw [HE.out]; rfl, rfl⟩
  by_cases h0 : (s.size : Int) ≤ i
  · have HE := Lib.hid (num_out (.inr h0))
    have HR := Lib.hid (run_out (p := chars.isDigit) (.inr h0))
    have HB := Lib.hid (byte_out (.inr h0))
    clear h0
    go_enter Tryz.func69, Tryz.ntmps69
    go_wp2_with fail
    refine (spec_digits s _ _ hs).mono ?_
    rintro e w' ⟨he, rfl⟩
    rw [HR.out] at he
    subst he
    go_wp2_with fail
    refine (spec_byte s _ _ hs).mono ?_
    rintro e w' ⟨he, rfl⟩
    rw [HB.out] at he
    subst he
    go_wp2
    go_ret
    exact ⟨by rw [HE.out]; rfl, rfl⟩
  obtain ⟨A, rfl⟩ : ∃ A : Nat, i = A := ⟨i.toNat, by omega⟩
  have hA : A < s.size := by omega
  clear h0 h00
  obtain ⟨E, hE, hAE, hEs⟩ := run_nat s A (by omega)
  have H1 := Lib.hid hE
  by_cases hd : byteZ s E = 46
  · have hlt : E < s.size := by have := (byte_range (s := s) (i := E) (by omega)).2; omega
    obtain ⟨K, hK, hEK, hKs⟩ := run_nat s (E + 1) (by omega)
    have hK' : runEnd chars.isDigit s ((E : Int) + 1) = K := by rw [← hK]; congr 1
    have H2 := Lib.hid hK'
    obtain ⟨d1, d2⟩ := eq_facts hd
    by_cases hz : E = A ∧ K = E + 1
    · have HE := Lib.hid (show numEnd s A = -1 by unfold numEnd; rw [hE, if_pos hd, if_pos (by rw [hK']; omega)])
      have z1 : ((E : Int) == (A : Int)) = true := by rw [beq_iff_eq]; omega
      have z2 : ((K : Int) == (E : Int) + 1) = true := by rw [beq_iff_eq]; omega
      clear hE hd hK hK' hz
      go_enter Tryz.func69, Tryz.ntmps69
      go_wp2_with fail
      refine (spec_digits s _ _ hs).mono ?_
      rintro e w' ⟨he, rfl⟩
      rw [H1.out] at he
      subst he
      go_wp2_with fail
      refine (spec_byte s _ _ hs).mono ?_
      rintro e w' ⟨rfl, rfl⟩
      go_wp2_with fail
      refine (spec_digits s _ _ hs).mono ?_
      rintro e w' ⟨he, rfl⟩
      rw [H2.out] at he
      subst he
      go_wp2
      go_ret
      exact ⟨by rw [HE.out]; rfl, rfl⟩
    · have HE := Lib.hid (show numEnd s A = expEnd s K by unfold numEnd; rw [hE, if_pos hd, if_neg (by rw [hK']; omega), hK'])
      have z3 : ((K : Int) == (A : Int)) = false := by rw [beq_eq_false_iff_ne]; omega
      by_cases hz1 : E = A
      · have z1 : ((E : Int) == (A : Int)) = true := by rw [beq_iff_eq]; omega
        have z2 : ((K : Int) == (E : Int) + 1) = false := by rw [beq_eq_false_iff_ne]; omega
        clear hE hd hK hK' hz hz1
        go_enter Tryz.func69, Tryz.ntmps69
        go_wp2_with fail
        refine (spec_digits s _ _ hs).mono ?_
        rintro e w' ⟨he, rfl⟩
        rw [H1.out] at he
        subst he
        go_wp2_with fail
        refine (spec_byte s _ _ hs).mono ?_
        rintro e w' ⟨rfl, rfl⟩
        go_wp2_with fail
        refine (spec_digits s _ _ hs).mono ?_
        rintro e w' ⟨he, rfl⟩
        rw [H2.out] at he
        subst he
        go_wp2_with fail
        by_cases h1 : byteZ s K = 101 ∨ byteZ s K = 69
        · have hltF : (K : Int) < (s.size : Int) := (byte_range (s := s) (i := K) (by omega)).2
          have hy := yes_facts (by decide) h1
          by_cases h2 : byteZ s (K + 1) = 43 ∨ byteZ s (K + 1) = 45
          · have hz := yes_facts (by decide) h2
            have hlt2 : (K : Int) + 1 < (s.size : Int) := (byte_range (s := s) (i := K + 1) (by omega)).2
            by_cases h3 : runEnd chars.isDigit s (K + 1 + 1) > K + 1 + 1
            · have HX := Lib.hid (show numEnd s A = runEnd chars.isDigit s (K + 1 + 1) by rw [HE.out]; unfold expEnd; rw [if_pos h1, if_pos h2, if_pos h3])
              have h3' : (K : Int) + 1 + 1 < runEnd chars.isDigit s (K + 1 + 1) := h3
              clear h1 h2 h3
              rcases hy with ⟨a1, a2, a3, a4⟩ | ⟨a1, a2, a3, a4⟩ <;> rcases hz with ⟨c1, c2, c3, c4⟩ | ⟨c1, c2, c3, c4⟩
              all_goals
                go_wp2_with (first | (go_at_call 88; refine (spec_byte s _ _ hs).mono ?_; rintro e w' ⟨rfl, rfl⟩) | (go_at_call 87; refine (spec_digits s _ _ hs).mono ?_; rintro e w' ⟨rfl, rfl⟩))
                go_ret
                exact ⟨by rw [HX.out]; rfl, rfl⟩
            · have HX := Lib.hid (show numEnd s A = K by rw [HE.out]; unfold expEnd; rw [if_pos h1, if_pos h2, if_neg h3])
              have h3' : runEnd chars.isDigit s (K + 1 + 1) ≤ (K : Int) + 1 + 1 := by omega
              clear h1 h2 h3
              rcases hy with ⟨a1, a2, a3, a4⟩ | ⟨a1, a2, a3, a4⟩ <;> rcases hz with ⟨c1, c2, c3, c4⟩ | ⟨c1, c2, c3, c4⟩
              all_goals
                go_wp2_with (first | (go_at_call 88; refine (spec_byte s _ _ hs).mono ?_; rintro e w' ⟨rfl, rfl⟩) | (go_at_call 87; refine (spec_digits s _ _ hs).mono ?_; rintro e w' ⟨rfl, rfl⟩))
                go_ret
                exact ⟨by rw [HX.out]; rfl, rfl⟩
          · obtain ⟨c1, c2, c3, c4⟩ := no_facts h2
            by_cases h3 : runEnd chars.isDigit s (K + 1) > K + 1
            · have HX := Lib.hid (show numEnd s A = runEnd chars.isDigit s (K + 1) by rw [HE.out]; unfold expEnd; rw [if_pos h1, if_neg h2, if_pos h3])
              have h3' : (K : Int) + 1 < runEnd chars.isDigit s (K + 1) := h3
              clear h1 h2 h3
              rcases hy with ⟨a1, a2, a3, a4⟩ | ⟨a1, a2, a3, a4⟩
              all_goals
                go_wp2_with (first | (go_at_call 88; refine (spec_byte s _ _ hs).mono ?_; rintro e w' ⟨rfl, rfl⟩) | (go_at_call 87; refine (spec_digits s _ _ hs).mono ?_; rintro e w' ⟨rfl, rfl⟩))
                go_ret
                exact ⟨by rw [HX.out]; rfl, rfl⟩
            · have HX := Lib.hid (show numEnd s A = K by rw [HE.out]; unfold expEnd; rw [if_pos h1, if_neg h2, if_neg h3])
              have h3' : runEnd chars.isDigit s (K + 1) ≤ (K : Int) + 1 := by omega
              clear h1 h2 h3
              rcases hy with ⟨a1, a2, a3, a4⟩ | ⟨a1, a2, a3, a4⟩
              all_goals
                go_wp2_with (first | (go_at_call 88; refine (spec_byte s _ _ hs).mono ?_; rintro e w' ⟨rfl, rfl⟩) | (go_at_call 87; refine (spec_digits s _ _ hs).mono ?_; rintro e w' ⟨rfl, rfl⟩))
                go_ret
                exact ⟨by rw [HX.out]; rfl, rfl⟩
        · have HX := Lib.hid (show numEnd s A = K by rw [HE.out]; unfold expEnd; rw [if_neg h1])
          obtain ⟨a1, a2, a3, a4⟩ := no_facts h1
          clear h1
          go_wp2_with (first | (go_at_call 88; refine (spec_byte s _ _ hs).mono ?_; rintro e w' ⟨rfl, rfl⟩) | (go_at_call 87; refine (spec_digits s _ _ hs).mono ?_; rintro e w' ⟨rfl, rfl⟩))
          go_ret
          exact ⟨by rw [HX.out]; rfl, rfl⟩
      · have z1 : ((E : Int) == (A : Int)) = false := by rw [beq_eq_false_iff_ne]; omega
        clear hE hd hK hK' hz hz1
        go_enter Tryz.func69, Tryz.ntmps69
        go_wp2_with fail
        refine (spec_digits s _ _ hs).mono ?_
        rintro e w' ⟨he, rfl⟩
        rw [H1.out] at he
        subst he
        go_wp2_with fail
        refine (spec_byte s _ _ hs).mono ?_
        rintro e w' ⟨rfl, rfl⟩
        go_wp2_with fail
        refine (spec_digits s _ _ hs).mono ?_
        rintro e w' ⟨he, rfl⟩
        rw [H2.out] at he
        subst he
        go_wp2_with fail
        by_cases h1 : byteZ s K = 101 ∨ byteZ s K = 69
        · have hltF : (K : Int) < (s.size : Int) := (byte_range (s := s) (i := K) (by omega)).2
          have hy := yes_facts (by decide) h1
          by_cases h2 : byteZ s (K + 1) = 43 ∨ byteZ s (K + 1) = 45
          · have hz := yes_facts (by decide) h2
            have hlt2 : (K : Int) + 1 < (s.size : Int) := (byte_range (s := s) (i := K + 1) (by omega)).2
            by_cases h3 : runEnd chars.isDigit s (K + 1 + 1) > K + 1 + 1
            · have HX := Lib.hid (show numEnd s A = runEnd chars.isDigit s (K + 1 + 1) by rw [HE.out]; unfold expEnd; rw [if_pos h1, if_pos h2, if_pos h3])
              have h3' : (K : Int) + 1 + 1 < runEnd chars.isDigit s (K + 1 + 1) := h3
              clear h1 h2 h3
              rcases hy with ⟨a1, a2, a3, a4⟩ | ⟨a1, a2, a3, a4⟩ <;> rcases hz with ⟨c1, c2, c3, c4⟩ | ⟨c1, c2, c3, c4⟩
              all_goals
                go_wp2_with (first | (go_at_call 88; refine (spec_byte s _ _ hs).mono ?_; rintro e w' ⟨rfl, rfl⟩) | (go_at_call 87; refine (spec_digits s _ _ hs).mono ?_; rintro e w' ⟨rfl, rfl⟩))
                go_ret
                exact ⟨by rw [HX.out]; rfl, rfl⟩
            · have HX := Lib.hid (show numEnd s A = K by rw [HE.out]; unfold expEnd; rw [if_pos h1, if_pos h2, if_neg h3])
              have h3' : runEnd chars.isDigit s (K + 1 + 1) ≤ (K : Int) + 1 + 1 := by omega
              clear h1 h2 h3
              rcases hy with ⟨a1, a2, a3, a4⟩ | ⟨a1, a2, a3, a4⟩ <;> rcases hz with ⟨c1, c2, c3, c4⟩ | ⟨c1, c2, c3, c4⟩
              all_goals
                go_wp2_with (first | (go_at_call 88; refine (spec_byte s _ _ hs).mono ?_; rintro e w' ⟨rfl, rfl⟩) | (go_at_call 87; refine (spec_digits s _ _ hs).mono ?_; rintro e w' ⟨rfl, rfl⟩))
                go_ret
                exact ⟨by rw [HX.out]; rfl, rfl⟩
          · obtain ⟨c1, c2, c3, c4⟩ := no_facts h2
            by_cases h3 : runEnd chars.isDigit s (K + 1) > K + 1
            · have HX := Lib.hid (show numEnd s A = runEnd chars.isDigit s (K + 1) by rw [HE.out]; unfold expEnd; rw [if_pos h1, if_neg h2, if_pos h3])
              have h3' : (K : Int) + 1 < runEnd chars.isDigit s (K + 1) := h3
              clear h1 h2 h3
              rcases hy with ⟨a1, a2, a3, a4⟩ | ⟨a1, a2, a3, a4⟩
              all_goals
                go_wp2_with (first | (go_at_call 88; refine (spec_byte s _ _ hs).mono ?_; rintro e w' ⟨rfl, rfl⟩) | (go_at_call 87; refine (spec_digits s _ _ hs).mono ?_; rintro e w' ⟨rfl, rfl⟩))
                go_ret
                exact ⟨by rw [HX.out]; rfl, rfl⟩
            · have HX := Lib.hid (show numEnd s A = K by rw [HE.out]; unfold expEnd; rw [if_pos h1, if_neg h2, if_neg h3])
              have h3' : runEnd chars.isDigit s (K + 1) ≤ (K : Int) + 1 := by omega
              clear h1 h2 h3
              rcases hy with ⟨a1, a2, a3, a4⟩ | ⟨a1, a2, a3, a4⟩
              all_goals
                go_wp2_with (first | (go_at_call 88; refine (spec_byte s _ _ hs).mono ?_; rintro e w' ⟨rfl, rfl⟩) | (go_at_call 87; refine (spec_digits s _ _ hs).mono ?_; rintro e w' ⟨rfl, rfl⟩))
                go_ret
                exact ⟨by rw [HX.out]; rfl, rfl⟩
        · have HX := Lib.hid (show numEnd s A = K by rw [HE.out]; unfold expEnd; rw [if_neg h1])
          obtain ⟨a1, a2, a3, a4⟩ := no_facts h1
          clear h1
          go_wp2_with (first | (go_at_call 88; refine (spec_byte s _ _ hs).mono ?_; rintro e w' ⟨rfl, rfl⟩) | (go_at_call 87; refine (spec_digits s _ _ hs).mono ?_; rintro e w' ⟨rfl, rfl⟩))
          go_ret
          exact ⟨by rw [HX.out]; rfl, rfl⟩
  · obtain ⟨d1, d2⟩ := ne_facts hd
    by_cases hz : E = A
    · have HE := Lib.hid (show numEnd s A = -1 by unfold numEnd; rw [hE, if_neg hd, if_pos (by omega)])
      have z1 : ((E : Int) == (A : Int)) = true := by rw [beq_iff_eq]; omega
      clear hE hd hz
      go_enter Tryz.func69, Tryz.ntmps69
      go_wp2_with fail
      refine (spec_digits s _ _ hs).mono ?_
      rintro e w' ⟨he, rfl⟩
      rw [H1.out] at he
      subst he
      go_wp2_with fail
      refine (spec_byte s _ _ hs).mono ?_
      rintro e w' ⟨rfl, rfl⟩
      go_wp2
      go_ret
      exact ⟨by rw [HE.out]; rfl, rfl⟩
    · have HE := Lib.hid (show numEnd s A = expEnd s E by unfold numEnd; rw [hE, if_neg hd, if_neg (by omega)])
      have z1 : ((E : Int) == (A : Int)) = false := by rw [beq_eq_false_iff_ne]; omega
      clear hE hd hz
      go_enter Tryz.func69, Tryz.ntmps69
      go_wp2_with fail
      refine (spec_digits s _ _ hs).mono ?_
      rintro e w' ⟨he, rfl⟩
      rw [H1.out] at he
      subst he
      go_wp2_with fail
      refine (spec_byte s _ _ hs).mono ?_
      rintro e w' ⟨rfl, rfl⟩
      go_wp2_with fail
      by_cases h1 : byteZ s E = 101 ∨ byteZ s E = 69
      · have hltF : (E : Int) < (s.size : Int) := (byte_range (s := s) (i := E) (by omega)).2
        have hy := yes_facts (by decide) h1
        by_cases h2 : byteZ s (E + 1) = 43 ∨ byteZ s (E + 1) = 45
        · have hz := yes_facts (by decide) h2
          have hlt2 : (E : Int) + 1 < (s.size : Int) := (byte_range (s := s) (i := E + 1) (by omega)).2
          by_cases h3 : runEnd chars.isDigit s (E + 1 + 1) > E + 1 + 1
          · have HX := Lib.hid (show numEnd s A = runEnd chars.isDigit s (E + 1 + 1) by rw [HE.out]; unfold expEnd; rw [if_pos h1, if_pos h2, if_pos h3])
            have h3' : (E : Int) + 1 + 1 < runEnd chars.isDigit s (E + 1 + 1) := h3
            clear h1 h2 h3
            rcases hy with ⟨a1, a2, a3, a4⟩ | ⟨a1, a2, a3, a4⟩ <;> rcases hz with ⟨c1, c2, c3, c4⟩ | ⟨c1, c2, c3, c4⟩
            all_goals
              go_wp2_with (first | (go_at_call 88; refine (spec_byte s _ _ hs).mono ?_; rintro e w' ⟨rfl, rfl⟩) | (go_at_call 87; refine (spec_digits s _ _ hs).mono ?_; rintro e w' ⟨rfl, rfl⟩))
              go_ret
              exact ⟨by rw [HX.out]; rfl, rfl⟩
          · have HX := Lib.hid (show numEnd s A = E by rw [HE.out]; unfold expEnd; rw [if_pos h1, if_pos h2, if_neg h3])
            have h3' : runEnd chars.isDigit s (E + 1 + 1) ≤ (E : Int) + 1 + 1 := by omega
            clear h1 h2 h3
            rcases hy with ⟨a1, a2, a3, a4⟩ | ⟨a1, a2, a3, a4⟩ <;> rcases hz with ⟨c1, c2, c3, c4⟩ | ⟨c1, c2, c3, c4⟩
            all_goals
              go_wp2_with (first | (go_at_call 88; refine (spec_byte s _ _ hs).mono ?_; rintro e w' ⟨rfl, rfl⟩) | (go_at_call 87; refine (spec_digits s _ _ hs).mono ?_; rintro e w' ⟨rfl, rfl⟩))
              go_ret
              exact ⟨by rw [HX.out]; rfl, rfl⟩
        · obtain ⟨c1, c2, c3, c4⟩ := no_facts h2
          by_cases h3 : runEnd chars.isDigit s (E + 1) > E + 1
          · have HX := Lib.hid (show numEnd s A = runEnd chars.isDigit s (E + 1) by rw [HE.out]; unfold expEnd; rw [if_pos h1, if_neg h2, if_pos h3])
            have h3' : (E : Int) + 1 < runEnd chars.isDigit s (E + 1) := h3
            clear h1 h2 h3
            rcases hy with ⟨a1, a2, a3, a4⟩ | ⟨a1, a2, a3, a4⟩
            all_goals
              go_wp2_with (first | (go_at_call 88; refine (spec_byte s _ _ hs).mono ?_; rintro e w' ⟨rfl, rfl⟩) | (go_at_call 87; refine (spec_digits s _ _ hs).mono ?_; rintro e w' ⟨rfl, rfl⟩))
              go_ret
              exact ⟨by rw [HX.out]; rfl, rfl⟩
          · have HX := Lib.hid (show numEnd s A = E by rw [HE.out]; unfold expEnd; rw [if_pos h1, if_neg h2, if_neg h3])
            have h3' : runEnd chars.isDigit s (E + 1) ≤ (E : Int) + 1 := by omega
            clear h1 h2 h3
            rcases hy with ⟨a1, a2, a3, a4⟩ | ⟨a1, a2, a3, a4⟩
            all_goals
              go_wp2_with (first | (go_at_call 88; refine (spec_byte s _ _ hs).mono ?_; rintro e w' ⟨rfl, rfl⟩) | (go_at_call 87; refine (spec_digits s _ _ hs).mono ?_; rintro e w' ⟨rfl, rfl⟩))
              go_ret
              exact ⟨by rw [HX.out]; rfl, rfl⟩
      · have HX := Lib.hid (show numEnd s A = E by rw [HE.out]; unfold expEnd; rw [if_neg h1])
        obtain ⟨a1, a2, a3, a4⟩ := no_facts h1
        clear h1
        go_wp2_with (first | (go_at_call 88; refine (spec_byte s _ _ hs).mono ?_; rintro e w' ⟨rfl, rfl⟩) | (go_at_call 87; refine (spec_digits s _ _ hs).mono ?_; rintro e w' ⟨rfl, rfl⟩))
        go_ret
        exact ⟨by rw [HX.out]; rfl, rfl⟩


/-- The literal's loop: what is still looked for is what was. -/
def RelQ (s : ByteArray) (g : Int) (A : Nat) (v : Value) : Prop := ∃ J : Nat, A + 1 ≤ J ∧ J ≤ s.size + 1 ∧ v = .int .i64 (J : Int) ∧ qEnd s g J = qEnd s g (A + 1)

theorem impl_quoted (s : ByteArray) (i g : Int) (w : World) (hs : s.size ≤ 1048576) (hg : g = 34 ∨ g = 47) : Calls Tryz.prog 99 #[.string s, .int .i64 i, .int .i64 g] w fun e w' => e = .returned (.int .i64 (quoted s i g)) ∧ w = w' := by
  have hg10 : g ≠ 10 := by omega
  have HG := Lib.hid hg
  clear hg
  by_cases hb : byteZ s i = g
  · have hr := byte_range (s := s) (i := i) (by rw [hb]; have := HG.out; omega)
    obtain ⟨A, rfl⟩ : ∃ A : Nat, i = A := ⟨i.toNat, by omega⟩
    have hA : A < s.size := by omega
    have HQ := Lib.hid (quoted_in (s := s) (I := A) hb)
    obtain ⟨b1, b2⟩ := eq_facts hb
    clear hb hr
    go_enter Tryz.func99, Tryz.ntmps99
    go_wp2_with (go_at_call 97; refine (impl_byte s _ _ hs).mono ?_; rintro e w' ⟨rfl, rfl⟩)
    go_loop [7] (fun j => RelQ s g A j) (fun j => ((s.size : Int) + 1 - intOf j).toNat)
    case atStart => exact ⟨A + 1, by omega, by omega, by go_num, rfl⟩
    case round =>
      obtain ⟨J, hJ, hJs, rfl, hq⟩ := hrel
      by_cases hlt : J < s.size
      · have hjb := byte_in hlt
        have hlt' : (J : Int) < (s.size : Int) := by omega
        by_cases c1 : (s[J].toNat : Int) = g
        · have HX := Lib.hid ((q_sign hlt c1).symm.trans (hq.trans HQ.out.symm))
          obtain ⟨d1, d2⟩ := eq_facts (hjb.trans c1)
          clear hq c1 hjb hg10
          go_wp2_with (go_at_call 97; refine (impl_byte s _ _ hs).mono ?_; rintro e w' ⟨rfl, rfl⟩)
          go_ret
          exact ⟨by rw [← HX.out]; rfl, rfl⟩
        · obtain ⟨d1, d2⟩ := ne_facts (show ¬ byteZ s J = g by rw [hjb]; exact c1)
          by_cases c2 : (s[J].toNat : Int) = 10
          · have HX := Lib.hid ((q_line hlt c1 c2).symm.trans (hq.trans HQ.out.symm))
            obtain ⟨d3, d4⟩ := eq_facts (hjb.trans c2)
            clear hq c1 c2 hjb hg10
            go_wp2_with (go_at_call 97; refine (impl_byte s _ _ hs).mono ?_; rintro e w' ⟨rfl, rfl⟩)
            go_ret
            exact ⟨by rw [← HX.out]; rfl, rfl⟩
          · obtain ⟨d3, d4⟩ := ne_facts (show ¬ byteZ s J = 10 by rw [hjb]; exact c2)
            by_cases c3 : (s[J].toNat : Int) = 92
            · obtain ⟨d5, d6⟩ := eq_facts (hjb.trans c3)
              by_cases c4 : byteZ s (J + 1) = 10
              · have HX := Lib.hid ((q_esc_then hg10 hlt c1 c3 c4).symm.trans hq)
                obtain ⟨d7, d8⟩ := eq_facts c4
                clear hq c1 c2 c3 c4 hjb hg10
                go_wp2_with (go_at_call 97; refine (impl_byte s _ _ hs).mono ?_; rintro e w' ⟨rfl, rfl⟩)
                go_round
                case rel => exact ⟨J + 1, by omega, by omega, by go_num, HX.out⟩
                case measure => simp [intOf]; omega
              · have HX := Lib.hid ((q_esc hlt c1 c3 c4).symm.trans hq)
                obtain ⟨d7, d8⟩ := ne_facts c4
                clear hq c1 c2 c3 c4 hjb hg10
                go_wp2_with (go_at_call 97; refine (impl_byte s _ _ hs).mono ?_; rintro e w' ⟨rfl, rfl⟩)
                go_round
                case rel => exact ⟨J + 2, by omega, by omega, by go_num, HX.out⟩
                case measure => simp [intOf]; omega
            · obtain ⟨d5, d6⟩ := ne_facts (show ¬ byteZ s J = 92 by rw [hjb]; exact c3)
              have HX := Lib.hid ((q_next hlt c1 c2 c3).symm.trans hq)
              clear hq c1 c2 c3 hjb hg10
              go_wp2_with (go_at_call 97; refine (impl_byte s _ _ hs).mono ?_; rintro e w' ⟨rfl, rfl⟩)
              go_round
              case rel => exact ⟨J + 1, by omega, by omega, by go_num, HX.out⟩
              case measure => simp [intOf]; omega
      · have HX := Lib.hid ((q_end hlt).symm.trans (hq.trans HQ.out.symm))
        have hge : (s.size : Int) ≤ (J : Int) := by omega
        clear hq hg10
        go_wp2
        go_ret
        exact ⟨by rw [← HX.out]; rfl, rfl⟩
  · have HQ := Lib.hid (quoted_out hb)
    obtain ⟨b1, b2⟩ := ne_facts hb
    clear hb hg10
    go_enter Tryz.func99, Tryz.ntmps99
    go_wp2_with (go_at_call 97; refine (impl_byte s _ _ hs).mono ?_; rintro e w' ⟨rfl, rfl⟩)
    go_ret
    exact ⟨by rw [HQ.out]; rfl, rfl⟩


theorem spec_quoted (s : ByteArray) (i g : Int) (w : World) (hs : s.size ≤ 1048576) (hg : g = 34 ∨ g = 47) : Calls Tryz.prog 89 #[.string s, .int .i64 i, .int .i64 g] w fun e w' => e = .returned (.int .i64 (quoted s i g)) ∧ w = w' := by
  have HG := Lib.hid hg
  clear hg
  by_cases hb : byteZ s i = g
  · have hr := byte_range (s := s) (i := i) (by rw [hb]; have := HG.out; omega)
    obtain ⟨A, rfl⟩ : ∃ A : Nat, i = A := ⟨i.toNat, by omega⟩
    have hA : A < s.size := by omega
    have HQ := Lib.hid (quoted_in (s := s) (I := A) hb)
    obtain ⟨b1, b2⟩ := eq_facts hb
    clear hb hr
    go_enter Tryz.func89, Tryz.ntmps89
    go_wp2_with (go_at_call 88; refine (spec_byte s _ _ hs).mono ?_; rintro e w' ⟨rfl, rfl⟩)
    go_loop [7] (fun j => RelQ s g A j) (fun j => ((s.size : Int) + 1 - intOf j).toNat)
    case atStart => exact ⟨A + 1, by omega, by omega, by go_num, rfl⟩
    case round =>
      obtain ⟨J, hJ, hJs, rfl, hq⟩ := hrel
      by_cases hlt : J < s.size
      · have hc := s[J].toNat_lt
        have hlt' : (J : Int) < (s.size : Int) := by omega
        by_cases c1 : (s[J].toNat : Int) = g
        · have HX := Lib.hid ((q_sign hlt c1).symm.trans (hq.trans HQ.out.symm))
          obtain ⟨d1, d2⟩ := eq_facts c1
          clear hq c1
          go_wp2
          go_ret
          exact ⟨by rw [← HX.out]; rfl, rfl⟩
        · obtain ⟨d1, d2⟩ := ne_facts c1
          by_cases c2 : (s[J].toNat : Int) = 10
          · have HX := Lib.hid ((q_line hlt c1 c2).symm.trans (hq.trans HQ.out.symm))
            obtain ⟨d3, d4⟩ := eq_facts c2
            clear hq c1 c2
            go_wp2
            go_ret
            exact ⟨by rw [← HX.out]; rfl, rfl⟩
          · obtain ⟨d3, d4⟩ := ne_facts c2
            by_cases c3 : (s[J].toNat : Int) = 92
            · obtain ⟨d5, d6⟩ := eq_facts c3
              by_cases c4 : byteZ s (J + 1) = 10
              · have HX := Lib.hid ((q_esc_line hlt c1 c3 c4).symm.trans (hq.trans HQ.out.symm))
                obtain ⟨d7, d8⟩ := eq_facts c4
                clear hq c1 c2 c3 c4
                go_wp2_with (go_at_call 88; refine (spec_byte s _ _ hs).mono ?_; rintro e w' ⟨rfl, rfl⟩)
                go_ret
                exact ⟨by rw [← HX.out]; rfl, rfl⟩
              · have HX := Lib.hid ((q_esc hlt c1 c3 c4).symm.trans hq)
                obtain ⟨d7, d8⟩ := ne_facts c4
                clear hq c1 c2 c3 c4
                go_wp2_with (go_at_call 88; refine (spec_byte s _ _ hs).mono ?_; rintro e w' ⟨rfl, rfl⟩)
                go_round
                case rel => exact ⟨J + 2, by omega, by omega, by go_num, HX.out⟩
                case measure => simp [intOf]; omega
            · obtain ⟨d5, d6⟩ := ne_facts c3
              have HX := Lib.hid ((q_next hlt c1 c2 c3).symm.trans hq)
              clear hq c1 c2 c3
              go_wp2
              go_round
              case rel => exact ⟨J + 1, by omega, by omega, by go_num, HX.out⟩
              case measure => simp [intOf]; omega
      · have HX := Lib.hid ((q_end hlt).symm.trans (hq.trans HQ.out.symm))
        have hge : (s.size : Int) ≤ (J : Int) := by omega
        clear hq
        go_wp2
        go_ret
        exact ⟨by rw [← HX.out]; rfl, rfl⟩
  · have HQ := Lib.hid (quoted_out hb)
    obtain ⟨b1, b2⟩ := ne_facts hb
    clear hb
    go_enter Tryz.func89, Tryz.ntmps89
    go_wp2_with (go_at_call 88; refine (spec_byte s _ _ hs).mono ?_; rintro e w' ⟨rfl, rfl⟩)
    go_ret
    exact ⟨by rw [HQ.out]; rfl, rfl⟩


theorem impl_str (s : ByteArray) (i : Int) (w : World) (hs : s.size ≤ 1048576) : Calls Tryz.prog 81 #[.string s, .int .i64 i] w fun e w' => e = .returned (.int .i64 (strEnd s i)) ∧ w = w' := by
  go_enter Tryz.func81, Tryz.ntmps81
  go_wp2_with fail
  refine (impl_quoted s _ _ _ hs (.inl rfl)).mono ?_
  rintro e w' ⟨rfl, rfl⟩
  go_wp2
  go_ret
  exact ⟨rfl, rfl⟩

theorem spec_str (s : ByteArray) (i : Int) (w : World) (hs : s.size ≤ 1048576) : Calls Tryz.prog 70 #[.string s, .int .i64 i] w fun e w' => e = .returned (.int .i64 (strEnd s i)) ∧ w = w' := by
  go_enter Tryz.func70, Tryz.ntmps70
  go_wp2_with fail
  refine (spec_quoted s _ _ _ hs (.inl rfl)).mono ?_
  rintro e w' ⟨rfl, rfl⟩
  go_wp2
  go_ret
  exact ⟨rfl, rfl⟩


theorem quoted_far {s : ByteArray} {i g : Int} (hg : g = 34 ∨ g = 47) (h : i < 0 ∨ (s.size : Int) ≤ i) : quoted s i g = -1 :=
  quoted_out (by rw [byte_out h]; omega)

theorem impl_ere (s : ByteArray) (i : Int) (w : World) (hs : s.size ≤ 1048576) : Calls Tryz.prog 82 #[.string s, .int .i64 i] w fun e w' => e = .returned (.int .i64 (ereEnd s i)) ∧ w = w' := by
  by_cases h0 : i < 0 ∨ (s.size : Int) ≤ i
  · have HQ := Lib.hid (quoted_far (s := s) (g := 47) (.inr rfl) h0)
    have HE := Lib.hid (show ereEnd s i = -1 by unfold ereEnd; rw [HQ.out]; split <;> rfl)
    clear h0
    by_cases hz : (-1 : Int) = wrap64 (i + 2)
    · obtain ⟨d1, d2⟩ := eq_facts hz
      clear hz
      go_enter Tryz.func82, Tryz.ntmps82
      go_wp2_with fail
      refine (impl_quoted s _ _ _ hs (.inr rfl)).mono ?_
      rintro e w' ⟨he, rfl⟩
      rw [HQ.out] at he
      subst he
      go_wp2
      all_goals
        go_ret
        exact ⟨by rw [HE.out]; rfl, rfl⟩
    · obtain ⟨d1, d2⟩ := ne_facts hz
      clear hz
      go_enter Tryz.func82, Tryz.ntmps82
      go_wp2_with fail
      refine (impl_quoted s _ _ _ hs (.inr rfl)).mono ?_
      rintro e w' ⟨he, rfl⟩
      rw [HQ.out] at he
      subst he
      go_wp2
      all_goals
        go_ret
        exact ⟨by rw [HE.out]; rfl, rfl⟩
  · obtain ⟨A, rfl⟩ : ∃ A : Nat, i = A := ⟨i.toNat, by omega⟩
    have hA : A < s.size := by omega
    clear h0
    by_cases hz : quoted s A 47 = (A : Int) + 2
    · have HE := Lib.hid (show ereEnd s A = -1 by unfold ereEnd; rw [if_pos hz])
      obtain ⟨d1, d2⟩ := eq_facts hz
      clear hz
      go_enter Tryz.func82, Tryz.ntmps82
      go_wp2_with fail
      refine (impl_quoted s _ _ _ hs (.inr rfl)).mono ?_
      rintro e w' ⟨rfl, rfl⟩
      go_wp2
      go_ret
      exact ⟨by rw [HE.out]; rfl, rfl⟩
    · have HE := Lib.hid (show ereEnd s A = quoted s A 47 by unfold ereEnd; rw [if_neg hz])
      obtain ⟨d1, d2⟩ := ne_facts hz
      clear hz
      go_enter Tryz.func82, Tryz.ntmps82
      go_wp2_with fail
      refine (impl_quoted s _ _ _ hs (.inr rfl)).mono ?_
      rintro e w' ⟨rfl, rfl⟩
      go_wp2
      go_ret
      exact ⟨by rw [HE.out]; rfl, rfl⟩

theorem spec_ere (s : ByteArray) (i : Int) (w : World) (hs : s.size ≤ 1048576) : Calls Tryz.prog 71 #[.string s, .int .i64 i] w fun e w' => e = .returned (.int .i64 (ereEnd s i)) ∧ w = w' := by
  by_cases h0 : i < 0 ∨ (s.size : Int) ≤ i
  · have HQ := Lib.hid (quoted_far (s := s) (g := 47) (.inr rfl) h0)
    have HE := Lib.hid (show ereEnd s i = -1 by unfold ereEnd; rw [HQ.out]; split <;> rfl)
    clear h0
    by_cases hz : (-1 : Int) = wrap64 (i + 2)
    · obtain ⟨d1, d2⟩ := eq_facts hz
      clear hz
      go_enter Tryz.func71, Tryz.ntmps71
      go_wp2_with fail
      refine (spec_quoted s _ _ _ hs (.inr rfl)).mono ?_
      rintro e w' ⟨he, rfl⟩
      rw [HQ.out] at he
      subst he
      go_wp2
      all_goals
        go_ret
        exact ⟨by rw [HE.out]; rfl, rfl⟩
    · obtain ⟨d1, d2⟩ := ne_facts hz
      clear hz
      go_enter Tryz.func71, Tryz.ntmps71
      go_wp2_with fail
      refine (spec_quoted s _ _ _ hs (.inr rfl)).mono ?_
      rintro e w' ⟨he, rfl⟩
      rw [HQ.out] at he
      subst he
      go_wp2
      all_goals
        go_ret
        exact ⟨by rw [HE.out]; rfl, rfl⟩
  · obtain ⟨A, rfl⟩ : ∃ A : Nat, i = A := ⟨i.toNat, by omega⟩
    have hA : A < s.size := by omega
    clear h0
    by_cases hz : quoted s A 47 = (A : Int) + 2
    · have HE := Lib.hid (show ereEnd s A = -1 by unfold ereEnd; rw [if_pos hz])
      obtain ⟨d1, d2⟩ := eq_facts hz
      clear hz
      go_enter Tryz.func71, Tryz.ntmps71
      go_wp2_with fail
      refine (spec_quoted s _ _ _ hs (.inr rfl)).mono ?_
      rintro e w' ⟨rfl, rfl⟩
      go_wp2
      go_ret
      exact ⟨by rw [HE.out]; rfl, rfl⟩
    · have HE := Lib.hid (show ereEnd s A = quoted s A 47 by unfold ereEnd; rw [if_neg hz])
      obtain ⟨d1, d2⟩ := ne_facts hz
      clear hz
      go_enter Tryz.func71, Tryz.ntmps71
      go_wp2_with fail
      refine (spec_quoted s _ _ _ hs (.inr rfl)).mono ?_
      rintro e w' ⟨rfl, rfl⟩
      go_wp2
      go_ret
      exact ⟨by rw [HE.out]; rfl, rfl⟩





end Go.Proofs.YtckeepjfbpphaaaGreatDoor.scan
