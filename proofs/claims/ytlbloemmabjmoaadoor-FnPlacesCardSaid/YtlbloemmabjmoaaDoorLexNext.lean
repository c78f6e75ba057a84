/-
  The model's lexer, one token: spec.l5Next: a contract.
-/
import Derived.Test.YtlbloemmabjmoaaDoorLexRest
namespace Go.Proofs.YtlbloemmabjmoaaDoor.lex
open Go.ChangeShapes Go.WideShapes Go.ChangeAt Go.RowKit
open tk scan
set_option linter.unusedVariables false

def RelCmt (s : ByteArray) (A : Nat) (v : Value) : Prop := ∃ J : Nat, v = .int .i64 (J : Int) ∧ A ≤ J ∧ J ≤ s.size ∧ runEnd line s (J : Int) = cmtEnd s A

set_option maxHeartbeats 8000000 in
theorem spec_next (s : ByteArray) (A : Nat) (prev : Int) (w : World) (hs : s.size ≤ 1048576) (hA : A < s.size) :
    Calls Tryd.prog 44 #[.string s, .int .i64 (A : Int), .bool (!operand.ends prev)] w fun e w' => e = .returned (.agg #[.int .i64 (nextTk s A prev).k, .string (nextTk s A prev).s, .int .i64 (nextTk s A prev).a]) ∧ Below w.heap.size w w' := by
  have hz := byte_in hA
  have hc := s[A].toNat_lt
  have hk0 : kindAt s A prev = if (s[A].toNat : Int) = 10 then (1, (A : Int) + 1)
      else if (s[A].toNat : Int) = 35 then (2, cmtEnd s A)
      else if chars.isDigit (s[A].toNat : Int) = true ∨ (s[A].toNat : Int) = 46 then (3, numEnd s A)
      else if (s[A].toNat : Int) = 34 then (4, strEnd s A)
      else if (s[A].toNat : Int) = 47 ∧ operand.ends prev = false then (5, ereEnd s A)
      else if chars.isLetter (s[A].toNat : Int) = true then wordAt s A
      else ((ops.opAt s A).1, (A : Int) + (ops.opAt s A).2) := by unfold kindAt; rw [hz]
  have HK := Lib.hid hk0
  have HZ := Lib.hid hz
  have i1 : (A : Int) < (s.size : Int) := by omega
  have HB0 := Lib.hid (((Below.refl w.heap.size w).alloc (Nat.le_refl _) (.cells #[.int .i64 0, .string ⟨#[]⟩, .int .i64 0] 35)).alloc (by simp) (.cells #[.int .i64 0, .string ⟨#[]⟩, .int .i64 (A : Int)] 35))
  have HR0 := Lib.hid ((B3.new w 0 0 ⟨#[]⟩).keep (((Below.refl (w.heap.size + 1) (w.alloc (.cells #[.int .i64 0, .string ⟨#[]⟩, .int .i64 0] 35)))).alloc (by simp) (.cells #[.int .i64 0, .string ⟨#[]⟩, .int .i64 (A : Int)] 35)) (Nat.lt_succ_self _))
  have HT0 := Lib.hid (show B3 (w.heap.size + 1) 0 (A : Int) ⟨#[]⟩ ((w.alloc (.cells #[.int .i64 0, .string ⟨#[]⟩, .int .i64 0] 35)).alloc (.cells #[.int .i64 0, .string ⟨#[]⟩, .int .i64 (A : Int)] 35)) by
    have := B3.new (w.alloc (.cells #[.int .i64 0, .string ⟨#[]⟩, .int .i64 0] 35)) 0 (A : Int) ⟨#[]⟩
    rwa [show (w.alloc (.cells #[.int .i64 0, .string ⟨#[]⟩, .int .i64 0] 35)).heap.size = w.heap.size + 1 by simp] at this)
  clear hk0 hz
  by_cases h1 : (s[A].toNat : Int) = 10
  · have HKE := Lib.hid (show kindAt s A prev = (1, ((A + 1 : Nat) : Int)) by rw [HK.out, if_pos h1]; rfl)
    have HN := Lib.hid ((next_yes HKE.out (Nat.lt_succ_self A)).trans (by rw [cut_one hA h1]) : nextTk s A prev = ⟨1, ⟨#[10]⟩, (A : Int)⟩)
    obtain ⟨p1, -⟩ := eqI h1
    clear h1
    go_enter Tryd.func44, Tryd.ntmps44
    go_wp2
    refine bodyPost_ret (v := .agg #[.int .i64 (1), .string (⟨#[10]⟩), .int .i64 (A : Int)]) (by simp [results, Tryd.results44, go_sem]) rfl ⟨by rw [HN.out], below_two _ _ _⟩
  obtain ⟨p1, -⟩ := neI h1
  by_cases h2 : (s[A].toNat : Int) = 35
  · have HKE0 := show kindAt s A prev = (2, cmtEnd s A) by rw [HK.out, if_neg h1, if_pos h2]
    obtain ⟨p2, -⟩ := eqI h2
    have hl : line (byteZ s A) = true := by rw [HZ.out, h2]; decide
    have hlt := run_lt cls_line hl
    have hle := run_le line s A (by omega)
    obtain ⟨E, hE⟩ : ∃ E : Nat, cmtEnd s A = E := ⟨(cmtEnd s A).toNat, by unfold cmtEnd; omega⟩
    have hAE : A < E := by unfold cmtEnd at hE; omega
    have hEs : E ≤ s.size := by unfold cmtEnd at hE; omega
    rw [hE] at HKE0
    have HN := Lib.hid (next_yes HKE0 hAE)
    have HE := Lib.hid hE
    have i2 : (A : Int) ≤ (E : Int) := by omega
    have i3 : (E : Int) ≤ (s.size : Int) := by omega
    clear h1 h2 HKE0 hl hlt hle hE
    go_enter Tryd.func44, Tryd.ntmps44
    go_wp2
    go_loop [9] (fun v => RelCmt s A v) (fun v => s.size - (intOf v).toNat)
    case atStart => exact ⟨A, rfl, Nat.le_refl _, by omega, rfl⟩
    case round =>
      obtain ⟨J, rfl, hJ0, hJ, hrun⟩ := hrel
      have HRUN := Lib.hid hrun
      clear hrun
      by_cases hlt : J < s.size
      · have hcJ := s[J].toNat_lt
        have hi1 : (J : Int) < (s.size : Int) := by omega
        have hbJ := Lib.hid (byte_in hlt)
        by_cases h10 : (s[J].toNat : Int) = 10
        · obtain ⟨q1, q2⟩ := eqI h10
          obtain rfl : J = E := by
            have := HRUN.out
            rw [run_stop (by rw [hbJ.out, h10]; decide), HE.out] at this
            omega
          clear h10
          go_wp2
          refine bodyPost_ret (v := .agg #[.int .i64 (2), .string (s.extract A J), .int .i64 (A : Int)]) (by simp [results, Tryd.results44, go_sem]) rfl ⟨by rw [HN.out], below_two _ _ _⟩
        · obtain ⟨q1, q2⟩ := neI h10
          have HS := Lib.hid ((run_step cls_line (by rw [hbJ.out]; unfold line; simp [h10])).symm.trans HRUN.out)
          clear h10
          go_wp2
          go_round
          case rel => exact ⟨J + 1, by go_num, by omega, by omega, HS.out⟩
          case measure => simp [intOf]; omega
      · obtain rfl : J = E := by
          have := HRUN.out
          rw [run_out (.inr (by omega)), HE.out] at this
          omega
        go_wp2
        refine bodyPost_ret (v := .agg #[.int .i64 (2), .string (s.extract A J), .int .i64 (A : Int)]) (by simp [results, Tryd.results44, go_sem]) rfl ⟨by rw [HN.out], below_two _ _ _⟩
  obtain ⟨p2, -⟩ := neI h2
  by_cases h3 : chars.isDigit (s[A].toNat : Int) = true
  · skip
    have HKE0 := show kindAt s A prev = (3, numEnd s A) by rw [HK.out, if_neg h1, if_neg h2, if_pos (.inl h3)]
    have hbd := num_end_bd s A
    by_cases hm : numEnd s A = -1
    · rw [hm] at HKE0
      have HN := Lib.hid (next_no HKE0 (by omega))
      have HE := Lib.hid hm
      clear h1 h2 HKE0 hbd hm
      go_enter Tryd.func44, Tryd.ntmps44
      go_wp2_with (first | (go_at_call 81; refine (chars.spec_digit _ _).mono ?_; rintro e w' ⟨rfl, rfl⟩) | (go_at_call 46; refine (spec_num s _ _ hs).mono ?_; rintro e w' ⟨he, rfl⟩; rw [HE.out] at he; subst he))
      refine bodyPost_ret (v := .agg #[.int .i64 (0), .string (⟨#[]⟩), .int .i64 (A : Int)]) (by simp [results, Tryd.results44, go_sem]) rfl ⟨by rw [HN.out], below_two _ _ _⟩
    · obtain ⟨E, hE⟩ : ∃ E : Nat, numEnd s A = E := ⟨(numEnd s A).toNat, by omega⟩
      rw [hE] at HKE0 hbd
      have hAE : A < E := by omega
      have i2 : (A : Int) ≤ (E : Int) := by omega
      have i3 : (E : Int) ≤ (s.size : Int) := by omega
      have HN := Lib.hid (next_yes HKE0 hAE)
      have HE := Lib.hid hE
      clear h1 h2 HKE0 hbd hm hE
      go_enter Tryd.func44, Tryd.ntmps44
      go_wp2_with (first | (go_at_call 81; refine (chars.spec_digit _ _).mono ?_; rintro e w' ⟨rfl, rfl⟩) | (go_at_call 46; refine (spec_num s _ _ hs).mono ?_; rintro e w' ⟨he, rfl⟩; rw [HE.out] at he; subst he))
      refine bodyPost_ret (v := .agg #[.int .i64 (3), .string (s.extract A E), .int .i64 (A : Int)]) (by simp [results, Tryd.results44, go_sem]) rfl ⟨by rw [HN.out], below_two _ _ _⟩
  have h3' : chars.isDigit (s[A].toNat : Int) = false := by simpa using h3
  by_cases h4 : (s[A].toNat : Int) = 46
  · obtain ⟨p4, -⟩ := eqI h4
    have HKE0 := show kindAt s A prev = (3, numEnd s A) by rw [HK.out, if_neg h1, if_neg h2, if_pos (.inr h4)]
    have hbd := num_end_bd s A
    by_cases hm : numEnd s A = -1
    · rw [hm] at HKE0
      have HN := Lib.hid (next_no HKE0 (by omega))
      have HE := Lib.hid hm
      clear h1 h2 h3 h4 HKE0 hbd hm
      go_enter Tryd.func44, Tryd.ntmps44
      go_wp2_with (first | (go_at_call 81; refine (chars.spec_digit _ _).mono ?_; rintro e w' ⟨rfl, rfl⟩) | (go_at_call 46; refine (spec_num s _ _ hs).mono ?_; rintro e w' ⟨he, rfl⟩; rw [HE.out] at he; subst he))
      refine bodyPost_ret (v := .agg #[.int .i64 (0), .string (⟨#[]⟩), .int .i64 (A : Int)]) (by simp [results, Tryd.results44, go_sem]) rfl ⟨by rw [HN.out], below_two _ _ _⟩
    · obtain ⟨E, hE⟩ : ∃ E : Nat, numEnd s A = E := ⟨(numEnd s A).toNat, by omega⟩
      rw [hE] at HKE0 hbd
      have hAE : A < E := by omega
      have i2 : (A : Int) ≤ (E : Int) := by omega
      have i3 : (E : Int) ≤ (s.size : Int) := by omega
      have HN := Lib.hid (next_yes HKE0 hAE)
      have HE := Lib.hid hE
      clear h1 h2 h3 h4 HKE0 hbd hm hE
      go_enter Tryd.func44, Tryd.ntmps44
      go_wp2_with (first | (go_at_call 81; refine (chars.spec_digit _ _).mono ?_; rintro e w' ⟨rfl, rfl⟩) | (go_at_call 46; refine (spec_num s _ _ hs).mono ?_; rintro e w' ⟨he, rfl⟩; rw [HE.out] at he; subst he))
      refine bodyPost_ret (v := .agg #[.int .i64 (3), .string (s.extract A E), .int .i64 (A : Int)]) (by simp [results, Tryd.results44, go_sem]) rfl ⟨by rw [HN.out], below_two _ _ _⟩
  obtain ⟨p4, -⟩ := neI h4
  have H34 : ¬ (chars.isDigit (s[A].toNat : Int) = true ∨ (s[A].toNat : Int) = 46) := fun h => h.elim h3 h4
  by_cases h5 : (s[A].toNat : Int) = 34
  · obtain ⟨p5, -⟩ := eqI h5
    have HKE0 := show kindAt s A prev = (4, strEnd s A) by rw [HK.out, if_neg h1, if_neg h2, if_neg H34, if_pos h5]
    have hbd := str_end_bd s A
    by_cases hm : strEnd s A = -1
    · rw [hm] at HKE0
      have HN := Lib.hid (next_no HKE0 (by omega))
      have HE := Lib.hid hm
      clear h1 h2 h3 h4 h5 H34 HKE0 hbd hm
      go_enter Tryd.func44, Tryd.ntmps44
      go_wp2_with (first | (go_at_call 81; refine (chars.spec_digit _ _).mono ?_; rintro e w' ⟨rfl, rfl⟩) | (go_at_call 47; refine (spec_str s _ _ hs).mono ?_; rintro e w' ⟨he, rfl⟩; rw [HE.out] at he; subst he))
      refine bodyPost_ret (v := .agg #[.int .i64 (0), .string (⟨#[]⟩), .int .i64 (A : Int)]) (by simp [results, Tryd.results44, go_sem]) rfl ⟨by rw [HN.out], below_two _ _ _⟩
    · obtain ⟨E, hE⟩ : ∃ E : Nat, strEnd s A = E := ⟨(strEnd s A).toNat, by omega⟩
      rw [hE] at HKE0 hbd
      have hAE : A < E := by omega
      have i2 : (A : Int) ≤ (E : Int) := by omega
      have i3 : (E : Int) ≤ (s.size : Int) := by omega
      have HN := Lib.hid (next_yes HKE0 hAE)
      have HE := Lib.hid hE
      clear h1 h2 h3 h4 h5 H34 HKE0 hbd hm hE
      go_enter Tryd.func44, Tryd.ntmps44
      go_wp2_with (first | (go_at_call 81; refine (chars.spec_digit _ _).mono ?_; rintro e w' ⟨rfl, rfl⟩) | (go_at_call 47; refine (spec_str s _ _ hs).mono ?_; rintro e w' ⟨he, rfl⟩; rw [HE.out] at he; subst he))
      refine bodyPost_ret (v := .agg #[.int .i64 (4), .string (s.extract A E), .int .i64 (A : Int)]) (by simp [results, Tryd.results44, go_sem]) rfl ⟨by rw [HN.out], below_two _ _ _⟩
  obtain ⟨p5, -⟩ := neI h5
  by_cases h6 : (s[A].toNat : Int) = 47 ∧ operand.ends prev = false
  · obtain ⟨p6, -⟩ := eqI h6.1
    have p7 := h6.2
    have HKE0 := show kindAt s A prev = (5, ereEnd s A) by rw [HK.out, if_neg h1, if_neg h2, if_neg H34, if_neg h5, if_pos h6]
    have hbd := ere_end_bd s A
    by_cases hm : ereEnd s A = -1
    · rw [hm] at HKE0
      have HN := Lib.hid (next_no HKE0 (by omega))
      have HE := Lib.hid hm
      clear h1 h2 h3 h4 h5 H34 h6 HKE0 hbd hm
      go_enter Tryd.func44, Tryd.ntmps44
      go_wp2_with (first | (go_at_call 81; refine (chars.spec_digit _ _).mono ?_; rintro e w' ⟨rfl, rfl⟩) | (go_at_call 48; refine (spec_ere s _ _ hs).mono ?_; rintro e w' ⟨he, rfl⟩; rw [HE.out] at he; subst he))
      refine bodyPost_ret (v := .agg #[.int .i64 (0), .string (⟨#[]⟩), .int .i64 (A : Int)]) (by simp [results, Tryd.results44, go_sem]) rfl ⟨by rw [HN.out], below_two _ _ _⟩
    · obtain ⟨E, hE⟩ : ∃ E : Nat, ereEnd s A = E := ⟨(ereEnd s A).toNat, by omega⟩
      rw [hE] at HKE0 hbd
      have hAE : A < E := by omega
      have i2 : (A : Int) ≤ (E : Int) := by omega
      have i3 : (E : Int) ≤ (s.size : Int) := by omega
      have HN := Lib.hid (next_yes HKE0 hAE)
      have HE := Lib.hid hE
      clear h1 h2 h3 h4 h5 H34 h6 HKE0 hbd hm hE
      go_enter Tryd.func44, Tryd.ntmps44
      go_wp2_with (first | (go_at_call 81; refine (chars.spec_digit _ _).mono ?_; rintro e w' ⟨rfl, rfl⟩) | (go_at_call 48; refine (spec_ere s _ _ hs).mono ?_; rintro e w' ⟨he, rfl⟩; rw [HE.out] at he; subst he))
      refine bodyPost_ret (v := .agg #[.int .i64 (5), .string (s.extract A E), .int .i64 (A : Int)]) (by simp [results, Tryd.results44, go_sem]) rfl ⟨by rw [HN.out], below_two _ _ _⟩
  have H6 : (((s[A].toNat : Int) == 47) = false) ∨ (((s[A].toNat : Int) == 47) = true ∧ operand.ends prev = true) := by
    by_cases h : (s[A].toNat : Int) = 47
    · right
      refine ⟨(eqI h).1, ?_⟩
      cases he : operand.ends prev
      · exact absurd ⟨h, he⟩ h6
      · rfl
    · exact .inl (neI h).1
  exact spec_next_rest s A prev w hs hA HK.out HR0.out HT0.out HB0.out p1 p2 h3' p4 p5 h1 h2 H34 h5 h6 H6
end Go.Proofs.YtlbloemmabjmoaaDoor.lex
