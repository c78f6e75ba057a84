/-
  The model's lexer, one token: what it is ('nextTk'); spec.l5Next where a word or an operator stands.
-/
import Derived.Test.YtlbloemmabjmoaaDoorLexWord
namespace Go.Proofs.YtlbloemmabjmoaaDoor.lex
open Go.ChangeShapes Go.WideShapes Go.ChangeAt Go.RowKit
open tk scan
set_option linter.unusedVariables false

/-- The token at a place; of kind 0 where there is none. -/
def nextTk (s : ByteArray) (A : Nat) (prev : Int) : Tk :=
  if (A : Int) < (kindAt s A prev).2 then ⟨(kindAt s A prev).1, s.extract A (kindAt s A prev).2.toNat, (A : Int)⟩ else ⟨0, ⟨#[]⟩, (A : Int)⟩
theorem next_yes {s : ByteArray} {A E : Nat} {prev k : Int} (h : kindAt s A prev = (k, (E : Int))) (hE : A < E) : nextTk s A prev = ⟨k, s.extract A E, (A : Int)⟩ := by
  unfold nextTk
  rw [h]
  simp only
  rw [if_pos (by omega), Int.toNat_natCast]
theorem next_no {s : ByteArray} {A : Nat} {prev k e : Int} (h : kindAt s A prev = (k, e)) (hE : e ≤ (A : Int)) : nextTk s A prev = ⟨0, ⟨#[]⟩, (A : Int)⟩ := by
  unfold nextTk
  rw [h]
  simp only
  rw [if_neg (by omega)]
theorem cut_one {s : ByteArray} {A : Nat} (hA : A < s.size) (hb : (s[A].toNat : Int) = 10) : s.extract A (A + 1) = ⟨#[10]⟩ := by
  apply ByteArray.ext
  apply Array.toList_inj.1
  rw [Lib.extract_data, show A + 1 - A = 1 by omega]
  have hl : A < s.data.toList.length := hA
  rw [List.drop_eq_getElem_cons hl]
  simp only [List.take_succ_cons, List.take_zero]
  have : s.data.toList[A] = 10 := by
    have e : s.data.toList[A] = s[A] := rfl
    rw [e]
    exact UInt8.toNat_inj.1 (by show s[A].toNat = 10; omega)
  rw [this]

theorem word_at (s : ByteArray) (A E : Nat) (hE : nameEnd s A = (E : Int)) : wordAt s A = if chars.nameShape (s.extract A E) = true then (wordK s (s.extract A E) E, (E : Int)) else (0, -1) := by
  unfold wordAt wordK
  rw [hE, Int.toNat_natCast]
  split
  · split
    · split
      · rfl
      · split <;> rfl
    · rfl
  · rfl

set_option maxHeartbeats 8000000 in
theorem spec_next_rest (s : ByteArray) (A : Nat) (prev : Int) (w : World) (hs : s.size ≤ 1048576) (hA : A < s.size)
    (hk0 : kindAt s A prev = if (s[A].toNat : Int) = 10 then (1, (A : Int) + 1)
      else if (s[A].toNat : Int) = 35 then (2, cmtEnd s A)
      else if chars.isDigit (s[A].toNat : Int) = true ∨ (s[A].toNat : Int) = 46 then (3, numEnd s A)
      else if (s[A].toNat : Int) = 34 then (4, strEnd s A)
      else if (s[A].toNat : Int) = 47 ∧ operand.ends prev = false then (5, ereEnd s A)
      else if chars.isLetter (s[A].toNat : Int) = true then wordAt s A
      else ((ops.opAt s A).1, (A : Int) + (ops.opAt s A).2))
    (hr0 : B3 w.heap.size 0 0 ⟨#[]⟩ ((w.alloc (.cells #[.int .i64 0, .string ⟨#[]⟩, .int .i64 0] 35)).alloc (.cells #[.int .i64 0, .string ⟨#[]⟩, .int .i64 (A : Int)] 35))) (ht0 : B3 (w.heap.size + 1) 0 (A : Int) ⟨#[]⟩ ((w.alloc (.cells #[.int .i64 0, .string ⟨#[]⟩, .int .i64 0] 35)).alloc (.cells #[.int .i64 0, .string ⟨#[]⟩, .int .i64 (A : Int)] 35))) (hb0 : Below w.heap.size w ((w.alloc (.cells #[.int .i64 0, .string ⟨#[]⟩, .int .i64 0] 35)).alloc (.cells #[.int .i64 0, .string ⟨#[]⟩, .int .i64 (A : Int)] 35)))
    (p1 : ((s[A].toNat : Int) == 10) = false) (p2 : ((s[A].toNat : Int) == 35) = false) (h3' : chars.isDigit (s[A].toNat : Int) = false) (p4 : ((s[A].toNat : Int) == 46) = false) (p5 : ((s[A].toNat : Int) == 34) = false)
    (h1 : ¬ (s[A].toNat : Int) = 10) (h2 : ¬ (s[A].toNat : Int) = 35) (H34 : ¬ (chars.isDigit (s[A].toNat : Int) = true ∨ (s[A].toNat : Int) = 46)) (h5 : ¬ (s[A].toNat : Int) = 34) (h6 : ¬ ((s[A].toNat : Int) = 47 ∧ operand.ends prev = false))
    (H6 : (((s[A].toNat : Int) == 47) = false) ∨ (((s[A].toNat : Int) == 47) = true ∧ operand.ends prev = true)) :
    Calls Tryd.prog 44 #[.string s, .int .i64 (A : Int), .bool (!operand.ends prev)] w fun e w' => e = .returned (.agg #[.int .i64 (nextTk s A prev).k, .string (nextTk s A prev).s, .int .i64 (nextTk s A prev).a]) ∧ Below w.heap.size w w' := by
  have hz := byte_in hA
  have hc := s[A].toNat_lt
  have i1 : (A : Int) < (s.size : Int) := by omega
  have HR0 := Lib.hid hr0
  have HT0 := Lib.hid ht0
  have HB0 := Lib.hid hb0
  rw [if_neg h1, if_neg h2, if_neg H34, if_neg h5, if_neg h6] at hk0
  clear h1 h2 H34 h5 h6 hr0 ht0 hb0
  by_cases h7 : chars.isLetter (s[A].toNat : Int) = true
  · rw [if_pos h7] at hk0
    have hb := name_end_bd (s := s) (i := A) (by rw [hz]; exact h7)
    obtain ⟨E, hE⟩ : ∃ E : Nat, nameEnd s A = E := ⟨(nameEnd s A).toNat, by omega⟩
    have hwa := word_at s A E hE
    rw [hE] at hb
    have hAE : A < E := by omega
    have hEs : E ≤ s.size := by omega
    have HE := Lib.hid hE
    obtain ⟨x, hx⟩ : ∃ x, x = s.extract A E := ⟨_, rfl⟩
    have hxs : x.size ≤ 1048576 := by rw [hx, cut_size hEs]; omega
    have HX := Lib.hid hx
    rw [← hx] at hwa
    obtain ⟨k, hkk⟩ : ∃ k, k = wordK s x E := ⟨_, rfl⟩
    have HKK := Lib.hid hkk
    rw [← hkk] at hwa
    clear hx hkk hE hb hz
    cases hsh : chars.nameShape x
    · rw [hsh] at hwa
      have HN := Lib.hid (next_no (hk0.trans hwa) (by omega))
      clear hk0 hwa
      rcases H6 with p6 | ⟨p6, p7⟩
      all_goals
        go_enter Tryd.func44, Tryd.ntmps44
        go_wp2_with (first | (go_at_call 81; refine (chars.spec_digit _ _).mono ?_; rintro e w' ⟨rfl, rfl⟩) | (go_at_call 82; refine (chars.spec_letter _ _).mono ?_; rintro e w' ⟨rfl, rfl⟩) | (go_at_call 84; refine (spec_nameEnd s _ _ hs).mono ?_; rintro e w' ⟨he, rfl⟩; rw [HE.out] at he; subst he))
        refine (spec_word s A E _ hs hAE hEs).mono ?_
        rintro e w1 ⟨he, b1⟩
        rw [← HX.out, ← HKK.out] at he
        subst he
        have HR1 := Lib.hid (HR0.out.keep b1 HR0.out.lt)
        have HT1 := Lib.hid (HT0.out.keep b1 HT0.out.lt)
        have HB1 := Lib.hid (HB0.out.trans (b1.mono HB0.out.size))
        have hsz := Lib.hid b1.size
        obtain ⟨t0, t1, t2⟩ := HT1.out.c
        obtain ⟨q0, q1, q2⟩ := HR1.out.c
        have q3 := HR1.out.f
        have HRA := Lib.hid (show B3 w.heap.size 0 0 ⟨#[]⟩ (w1.alloc (.cells #[.int .i64 k, .string x, .int .i64 (A : Int)] 35)) from (Below.heap_alloc w1 _ _ HR1.out.lt).trans HR1.out)
        have HTA := Lib.hid (show B3 (w.heap.size + 1) 0 (A : Int) ⟨#[]⟩ (w1.alloc (.cells #[.int .i64 k, .string x, .int .i64 (A : Int)] 35)) from (Below.heap_alloc w1 _ _ HT1.out.lt).trans HT1.out)
        obtain ⟨ta0, ta1, ta2⟩ := HTA.out.c
        obtain ⟨qa0, qa1, qa2⟩ := HRA.out.c
        have qa3 := HRA.out.f
        have HBA := Lib.hid (HB1.out.alloc (by have := HB1.out.size; omega) (.cells #[.int .i64 k, .string x, .int .i64 (A : Int)] 35))
        clear b1
        go_wp2_with (go_at_call 85; refine (chars.spec_shape x _ hxs).mono ?_; rintro e w' ⟨rfl, rfl⟩)
        obtain ⟨r0, r1, r2⟩ := (HRA.out.put (0) (A : Int) (⟨#[]⟩)).c
        refine bodyPost_ret (v := .agg #[.int .i64 (0), .string (⟨#[]⟩), .int .i64 (A : Int)]) (by simp [results, Tryd.results44, go_sem, r0, r1, r2]) rfl ⟨by rw [HN.out], below_set3 HBA.out (Nat.le_refl _) _ _ _⟩
    · rw [if_pos hsh] at hwa
      have HN := Lib.hid ((next_yes (hk0.trans hwa) hAE).trans (by rw [← HX.out]))
      clear hk0 hwa
      rcases H6 with p6 | ⟨p6, p7⟩
      all_goals
        go_enter Tryd.func44, Tryd.ntmps44
        go_wp2_with (first | (go_at_call 81; refine (chars.spec_digit _ _).mono ?_; rintro e w' ⟨rfl, rfl⟩) | (go_at_call 82; refine (chars.spec_letter _ _).mono ?_; rintro e w' ⟨rfl, rfl⟩) | (go_at_call 84; refine (spec_nameEnd s _ _ hs).mono ?_; rintro e w' ⟨he, rfl⟩; rw [HE.out] at he; subst he))
        refine (spec_word s A E _ hs hAE hEs).mono ?_
        rintro e w1 ⟨he, b1⟩
        rw [← HX.out, ← HKK.out] at he
        subst he
        have HR1 := Lib.hid (HR0.out.keep b1 HR0.out.lt)
        have HT1 := Lib.hid (HT0.out.keep b1 HT0.out.lt)
        have HB1 := Lib.hid (HB0.out.trans (b1.mono HB0.out.size))
        have hsz := Lib.hid b1.size
        obtain ⟨t0, t1, t2⟩ := HT1.out.c
        obtain ⟨q0, q1, q2⟩ := HR1.out.c
        have q3 := HR1.out.f
        have HRA := Lib.hid (show B3 w.heap.size 0 0 ⟨#[]⟩ (w1.alloc (.cells #[.int .i64 k, .string x, .int .i64 (A : Int)] 35)) from (Below.heap_alloc w1 _ _ HR1.out.lt).trans HR1.out)
        have HTA := Lib.hid (show B3 (w.heap.size + 1) 0 (A : Int) ⟨#[]⟩ (w1.alloc (.cells #[.int .i64 k, .string x, .int .i64 (A : Int)] 35)) from (Below.heap_alloc w1 _ _ HT1.out.lt).trans HT1.out)
        obtain ⟨ta0, ta1, ta2⟩ := HTA.out.c
        obtain ⟨qa0, qa1, qa2⟩ := HRA.out.c
        have qa3 := HRA.out.f
        have HBA := Lib.hid (HB1.out.alloc (by have := HB1.out.size; omega) (.cells #[.int .i64 k, .string x, .int .i64 (A : Int)] 35))
        clear b1
        go_wp2_with (go_at_call 85; refine (chars.spec_shape x _ hxs).mono ?_; rintro e w' ⟨rfl, rfl⟩)
        obtain ⟨r0, r1, r2⟩ := (HRA.out.put (k) (A : Int) (x)).c
        refine bodyPost_ret (v := .agg #[.int .i64 (k), .string (x), .int .i64 (A : Int)]) (by simp [results, Tryd.results44, go_sem, r0, r1, r2]) rfl ⟨by rw [HN.out], below_set3 HBA.out (Nat.le_refl _) _ _ _⟩
  · rw [if_neg h7] at hk0
    have h7' : chars.isLetter (s[A].toNat : Int) = false := by simpa using h7
    have hf := op_facts s A (by omega)
    obtain ⟨P, hP⟩ : ∃ P, P = ops.opAt s A := ⟨_, rfl⟩
    rw [← hP] at hk0 hf
    have HP := Lib.hid hP
    clear hP hz h7
    by_cases hn : P.2 = 0
    · have HN := Lib.hid (next_no hk0 (by omega))
      obtain ⟨z1, -⟩ := eqI hn
      clear hk0 hn hf
      rcases H6 with p6 | ⟨p6, p7⟩
      all_goals
        go_enter Tryd.func44, Tryd.ntmps44
        go_wp2_with (first | (go_at_call 81; refine (chars.spec_digit _ _).mono ?_; rintro e w' ⟨rfl, rfl⟩) | (go_at_call 82; refine (chars.spec_letter _ _).mono ?_; rintro e w' ⟨rfl, rfl⟩))
        refine (ops.spec_op s A _ hs).mono ?_
        rintro e w1 ⟨he, b1⟩
        rw [← HP.out] at he
        subst he
        have HR1 := Lib.hid (HR0.out.keep b1 HR0.out.lt)
        have HT1 := Lib.hid (HT0.out.keep b1 HT0.out.lt)
        have HB1 := Lib.hid (HB0.out.trans (b1.mono HB0.out.size))
        obtain ⟨t0, t1, t2⟩ := HT1.out.c
        have t3 := HT1.out.f
        obtain ⟨q0, q1, q2⟩ := HR1.out.c
        have q3 := HR1.out.f
        clear b1
        go_wp2
        obtain ⟨r0, r1, r2⟩ := (HR1.out.put 0 (A : Int) ⟨#[]⟩).c
        refine bodyPost_ret (v := .agg #[.int .i64 (0), .string (⟨#[]⟩), .int .i64 (A : Int)]) (by simp [results, Tryd.results44, go_sem, r0, r1, r2]) rfl ⟨by rw [HN.out], below_set3 HB1.out (Nat.le_refl _) _ _ _⟩
    · have hf2 : 30 ≤ P.1 ∧ P.1 ≤ 68 ∧ 1 ≤ P.2 ∧ (A : Int) + P.2 ≤ s.size := by
        rcases hf with h | h
        · rw [h] at hn; exact absurd rfl hn
        · exact h
      obtain ⟨k, n⟩ := P
      simp only at hf2 hn hk0 HP
      obtain ⟨N, rfl⟩ : ∃ N : Nat, n = N := ⟨n.toNat, by omega⟩
      have hke : kindAt s A prev = (k, ((A + N : Nat) : Int)) := by rw [hk0]; simp
      have HN := Lib.hid (next_yes hke (by omega))
      obtain ⟨z1, -⟩ := neI hn
      have i2 : (A : Int) ≤ (A : Int) + (N : Int) := by omega
      have i3 : (A : Int) + (N : Int) ≤ (s.size : Int) := by omega
      clear hk0 hn hf hke
      rcases H6 with p6 | ⟨p6, p7⟩
      all_goals
        go_enter Tryd.func44, Tryd.ntmps44
        go_wp2_with (first | (go_at_call 81; refine (chars.spec_digit _ _).mono ?_; rintro e w' ⟨rfl, rfl⟩) | (go_at_call 82; refine (chars.spec_letter _ _).mono ?_; rintro e w' ⟨rfl, rfl⟩))
        refine (ops.spec_op s A _ hs).mono ?_
        rintro e w1 ⟨he, b1⟩
        rw [← HP.out] at he
        subst he
        have HR1 := Lib.hid (HR0.out.keep b1 HR0.out.lt)
        have HT1 := Lib.hid (HT0.out.keep b1 HT0.out.lt)
        have HB1 := Lib.hid (HB0.out.trans (b1.mono HB0.out.size))
        obtain ⟨t0, t1, t2⟩ := HT1.out.c
        have t3 := HT1.out.f
        obtain ⟨q0, q1, q2⟩ := HR1.out.c
        have q3 := HR1.out.f
        clear b1
        go_wp2
        obtain ⟨r0, r1, r2⟩ := (((HR1.out.other (h := w.heap.size + 1) (by omega) 0 (.int .i64 k)).other (h := w.heap.size + 1) (by omega) 1 (.string (s.extract A (A + N)))).put k (A : Int) (s.extract A (A + N))).c
        refine bodyPost_ret (v := .agg #[.int .i64 k, .string (s.extract A (A + N)), .int .i64 (A : Int)]) (by simp [results, Tryd.results44, go_sem, r0, r1, r2]) rfl ⟨by rw [HN.out], below_set3 ((HB1.out.setCell (p := ⟨w.heap.size + 1, 0, none⟩) (Nat.le_succ _) _).setCell (p := ⟨w.heap.size + 1, 1, none⟩) (Nat.le_succ _) _) (Nat.le_refl _) _ _ _⟩
end Go.Proofs.YtlbloemmabjmoaaDoor.lex
