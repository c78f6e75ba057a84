/-
  A token at the head of a longer text ends where it ended alone, given what stands behind it. No program's text is walked here.
-/
import Derived.Test.YtlbloemmabjmoaaDoorPlacesMath
import Derived.Test.YtlbloemmabjmoaaDoorSpelled
namespace Go.Proofs.YtlbloemmabjmoaaDoor.rlx
open Go.RowKit
open tk scan lex plc
set_option linter.unusedVariables false

variable {s : ByteArray} {K E : Nat}

theorem byte_ext (hE : E ≤ s.size) (hK : K ≤ E) {j : Int} (h0 : 0 ≤ j) (h : byteZ (s.extract K E) j ≠ -1) : byteZ s ((K : Int) + j) = byteZ (s.extract K E) j ∧ (K : Int) + j < E := by
  have hr := byte_range h
  rw [cut_size hE] at hr
  have hlt : (K : Int) + j < E := by omega
  exact ⟨(cut_byte hE hK j h0 hlt).symm, hlt⟩

theorem run_ext {p : Int → Bool} (hp : Cls p) (hE : E ≤ s.size) (hK : K ≤ E) (hb : p (byteZ s E) = false) (j : Int) (h0 : 0 ≤ j) (hj : (K : Int) + j ≤ E) :
    runEnd p s ((K : Int) + j) = (K : Int) + runEnd p (s.extract K E) j := by
  generalize hn : ((E : Int) - ((K : Int) + j)).toNat = n
  induction n using Nat.strongRecOn generalizing j with
  | ind n ih =>
    by_cases he : (K : Int) + j = E
    · rw [he, run_stop hb, run_stop (by rw [cut_end hE hK j (by omega)]; exact hp)]
      omega
    · have hc := cut_byte hE hK j h0 (by omega)
      cases hq : p (byteZ s ((K : Int) + j))
      · rw [run_stop hq, run_stop (by rw [hc]; exact hq)]
      · rw [run_step hp hq, run_step (s := s.extract K E) hp (by rw [hc]; exact hq), show (K : Int) + j + 1 = (K : Int) + (j + 1) by omega]
        exact ih _ (by omega) (j + 1) (by omega) (by omega) rfl

theorem word_no {n : Int} (h : chars.isWord n = false) : chars.isDigit n = false ∧ n ≠ 101 ∧ n ≠ 69 := by
  refine ⟨?_, ?_, ?_⟩
  · unfold chars.isWord at h
    simp at h
    exact h.2
  · rintro rfl; exact absurd h (by decide)
  · rintro rfl; exact absurd h (by decide)

theorem exp_ext (hE : E ≤ s.size) (hK : K ≤ E) (hb : chars.isWord (byteZ s E) = false) (j : Int) (h0 : 0 ≤ j) (hj : (K : Int) + j ≤ E) (he : expEnd (s.extract K E) j = (E : Int) - K) : expEnd s ((K : Int) + j) = E := by
  obtain ⟨hd, h1, h2⟩ := word_no hb
  by_cases hq : (K : Int) + j = E
  · rw [hq]
    unfold expEnd
    rw [if_neg (by omega)]
  · unfold expEnd at he
    by_cases c1 : byteZ (s.extract K E) j = 101 ∨ byteZ (s.extract K E) j = 69
    · rw [if_pos c1] at he
      have b0 := (byte_ext hE hK h0 (by omega)).1
      by_cases c2 : byteZ (s.extract K E) (j + 1) = 43 ∨ byteZ (s.extract K E) (j + 1) = 45
      · rw [if_pos c2] at he
        have b1 := (byte_ext hE hK (j := j + 1) (by omega) (by omega))
        by_cases c3 : runEnd chars.isDigit (s.extract K E) (j + 1 + 1) > j + 1 + 1
        · rw [if_pos c3] at he
          have rr := run_ext cls_digit hE hK hd (j + 1 + 1) (by omega) (by omega)
          unfold expEnd
          rw [if_pos (by rw [b0]; exact c1), show (K : Int) + j + 1 = (K : Int) + (j + 1) by omega, if_pos (by rw [b1.1]; exact c2), show (K : Int) + (j + 1) + 1 = (K : Int) + (j + 1 + 1) by omega, rr, if_pos (by omega)]
          omega
        · rw [if_neg c3] at he; omega
      · rw [if_neg c2] at he
        by_cases c3 : runEnd chars.isDigit (s.extract K E) (j + 1) > j + 1
        · rw [if_pos c3] at he
          have rl : (K : Int) + (j + 1) < E := by
            by_cases hx : (K : Int) + (j + 1) < E
            · exact hx
            · rw [run_stop (by rw [cut_end hE hK (j + 1) (by omega)]; exact cls_digit)] at c3
              omega
          have b1 := cut_byte hE hK (j + 1) (by omega) rl
          have rr := run_ext cls_digit hE hK hd (j + 1) (by omega) (by omega)
          unfold expEnd
          rw [if_pos (by rw [b0]; exact c1), show (K : Int) + j + 1 = (K : Int) + (j + 1) by omega, if_neg (by rw [← b1]; exact c2), rr, if_pos (by omega)]
          omega
        · rw [if_neg c3] at he; omega
    · rw [if_neg c1] at he; omega

theorem num_ext (hE : E ≤ s.size) (hK : K < E) (hb : chars.isWord (byteZ s E) = false) (hd : byteZ s E ≠ 46) (h : numEnd (s.extract K E) 0 = ((s.extract K E).size : Int)) : numEnd s K = E := by
  have hsz := cut_size (s := s) (K := K) hE
  rw [hsz] at h
  have hdg := (word_no hb).1
  have r0 := run_ext cls_digit hE (Nat.le_of_lt hK) hdg 0 (by omega) (by omega)
  rw [show (K : Int) + 0 = K by omega] at r0
  have q0 := run_ge chars.isDigit (s.extract K E) 0
  have q1 := run_le chars.isDigit (s.extract K E) 0 (by omega)
  rw [hsz] at q1
  obtain ⟨R, hR⟩ : ∃ R, R = runEnd chars.isDigit (s.extract K E) 0 := ⟨_, rfl⟩
  unfold numEnd at h ⊢
  rw [← hR] at h r0 q0 q1
  rw [r0]
  by_cases c1 : byteZ (s.extract K E) R = 46
  · rw [if_pos c1] at h
    have b1 := byte_ext hE (Nat.le_of_lt hK) (j := R) q0 (by omega)
    rw [if_pos (by rw [b1.1]; exact c1)]
    by_cases c2 : R = 0 ∧ runEnd chars.isDigit (s.extract K E) (R + 1) = R + 1
    · rw [if_pos c2] at h; omega
    · rw [if_neg c2] at h
      have hR1 : (K : Int) + R < E := b1.2
      have r2 := run_ext cls_digit hE (Nat.le_of_lt hK) hdg (R + 1) (by omega) (by omega)
      have q2 := run_ge chars.isDigit (s.extract K E) (R + 1)
      have q3 := run_le chars.isDigit (s.extract K E) (R + 1) (by rw [hsz]; omega)
      rw [hsz] at q3
      rw [show (K : Int) + R + 1 = (K : Int) + (R + 1) by omega, r2, if_neg (by omega)]
      exact exp_ext hE (by omega) hb _ (by omega) (by omega) (by rw [h]; omega)
  · rw [if_neg c1] at h
    have c1' : ¬ byteZ s ((K : Int) + R) = 46 := by
      by_cases hl : (K : Int) + R < E
      · rw [← cut_byte hE (by omega) R q0 hl]; exact c1
      · rw [show (K : Int) + R = E by omega]; exact hd
    rw [if_neg c1']
    by_cases c2 : R = 0
    · rw [if_pos c2] at h; omega
    · rw [if_neg c2] at h
      rw [if_neg (by omega)]
      exact exp_ext hE (by omega) hb _ (by omega) (by omega) (by rw [h]; omega)

theorem q_ext {g : Int} (hE : E ≤ s.size) (hK : K ≤ E) (j : Nat) (h : 0 ≤ qEnd (s.extract K E) g j) : qEnd s g (K + j) = (K : Int) + qEnd (s.extract K E) g j := by
  generalize hn : (s.extract K E).size - j = n
  induction n using Nat.strongRecOn generalizing j with
  | ind n ih =>
    have hsz := cut_size (s := s) (K := K) hE
    by_cases hj : j < (s.extract K E).size
    · have hjE : K + j < E := by omega
      have hs : K + j < s.size := by omega
      have hg := cut_at hE hjE hj
      by_cases h1 : ((s.extract K E)[j].toNat : Int) = g
      · rw [q_sign hj h1, q_sign hs (by rw [← hg]; exact h1)]; omega
      · by_cases h2 : ((s.extract K E)[j].toNat : Int) = 10
        · rw [q_line hj h1 h2] at h; omega
        · by_cases h3 : ((s.extract K E)[j].toNat : Int) = 92
          · by_cases h4 : byteZ (s.extract K E) ((j : Int) + 1) = 10
            · rw [q_esc_line hj h1 h3 h4] at h; omega
            · rw [q_esc hj h1 h3 h4] at h ⊢
              have hp := q_props h
              have b1 := cut_byte hE hK ((j : Int) + 1) (by omega) (by omega)
              rw [show (K : Int) + ((j : Int) + 1) = ((K + j : Nat) : Int) + 1 by omega] at b1
              rw [q_esc hs (by rw [← hg]; exact h1) (by rw [← hg]; exact h3) (by rw [← b1]; exact h4)]
              exact ih _ (by omega) (j + 2) h rfl
          · rw [q_next hj h1 h2 h3] at h ⊢
            rw [q_next hs (by rw [← hg]; exact h1) (by rw [← hg]; exact h2) (by rw [← hg]; exact h3)]
            exact ih _ (by omega) (j + 1) h rfl
    · rw [q_end hj] at h; omega
theorem quoted_ext {g : Int} (hg : g ≠ -1) (hE : E ≤ s.size) (hK : K ≤ E) (h : 0 ≤ scan.quoted (s.extract K E) 0 g) : scan.quoted s K g = (K : Int) + scan.quoted (s.extract K E) 0 g ∧ byteZ s K = g := by
  have hb : byteZ (s.extract K E) 0 = g := by
    by_cases hb : byteZ (s.extract K E) 0 = g
    · exact hb
    · rw [quoted_out hb] at h; omega
  have b0 := (byte_ext hE hK (j := 0) (by omega) (by omega)).1
  rw [show (K : Int) + 0 = K by omega] at b0
  have e : scan.quoted (s.extract K E) 0 g = qEnd (s.extract K E) g (0 + 1) := quoted_in (I := 0) hb
  rw [e] at h ⊢
  exact ⟨by rw [quoted_in (b0.trans hb)]; exact q_ext hE hK (0 + 1) h, b0.trans hb⟩

theorem shape_run {x : ByteArray} (h : chars.nameShape x = true) : runEnd chars.isWord x 0 = x.size ∧ chars.isLetter (byteZ x 0) = true ∧ 0 < x.size := by
  unfold chars.nameShape at h
  simp only [Bool.and_eq_true] at h
  obtain ⟨h1, h2, h3⟩ := h
  have hpos : 0 < x.size := by
    unfold chars.inR at h1
    simp at h1
    omega
  refine ⟨?_, ?_, hpos⟩
  · have q0 := run_ge chars.isWord x 0
    have q1 := run_le chars.isWord x 0 (by omega)
    have qo := run_over cls_word x 0
    obtain ⟨R, hR⟩ : ∃ R : Nat, runEnd chars.isWord x 0 = R := ⟨(runEnd chars.isWord x 0).toNat, by omega⟩
    rw [hR] at q1 qo ⊢
    by_cases hl : R < x.size
    · rw [byte_in hl] at qo
      unfold chars.wordsTo at h3
      rw [List.all_eq_true] at h3
      have hm : x[R] ∈ x.data.toList.take x.size := by
        rw [show List.take x.size x.data.toList = x.data.toList from List.take_of_length_le (Nat.le_of_eq rfl)]
        have : R < x.data.toList.length := hl
        have e : x.data.toList[R] = x[R] := rfl
        rw [← e]
        exact List.getElem_mem this
      have := h3 _ hm
      rw [qo] at this
      cases this
    · omega
  · have e := byte_in (s := x) (I := 0) hpos
    rw [show ((0 : Nat) : Int) = 0 from rfl] at e
    rw [e]
    rw [chars.byte_at x 0 hpos] at h2
    exact h2
theorem word_ext (hE : E ≤ s.size) (hK : K ≤ E) (hb : chars.isWord (byteZ s E) = false) (h : chars.nameShape (s.extract K E) = true) : nameEnd s K = E ∧ chars.isLetter (byteZ s K) = true := by
  obtain ⟨h1, h2, h3⟩ := shape_run h
  have hl := cls_letter.range h2
  have b0 := (byte_ext hE hK (j := 0) (by omega) (by have := byte_in (s := s.extract K E) (I := 0) h3; rw [show ((0 : Nat) : Int) = 0 from rfl] at this; omega)).1
  rw [show (K : Int) + 0 = K by omega] at b0
  have hlet : chars.isLetter (byteZ s K) = true := by rw [b0]; exact h2
  have rr := run_ext cls_word hE hK hb 0 (by omega) (by omega)
  rw [show (K : Int) + 0 = K by omega, h1, cut_size hE] at rr
  refine ⟨?_, hlet⟩
  unfold nameEnd
  rw [if_pos hlet, rr]
  omega
end Go.Proofs.YtlbloemmabjmoaaDoor.rlx
