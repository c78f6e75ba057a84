/-
  What a number, a string literal and a name end at: cut out of their text they are whole ('num_cut', 'str_cut', 'name_props'). Plain functions of the text; no program's text is walked here.
-/
import Derived.Test.YtlbloemmabjmoaaDoorScanMath
import Derived.Lib.Strings
namespace Go.Proofs.YtlbloemmabjmoaaDoor.scan
open Go.RowKit
set_option linter.unusedVariables false

theorem cut_size {s : ByteArray} {K E : Nat} (h : E ≤ s.size) : (s.extract K E).size = E - K := by
  rw [ByteArray.size_extract, Nat.min_eq_left h]
theorem cut_get {s : ByteArray} {K E j : Nat} (h : E ≤ s.size) (hj : K + j < E) : (s.extract K E).data.toList.getD j 0 = s.data.toList.getD (K + j) 0 := by
  rw [Lib.extract_data, List.getD_eq_getElem?_getD, List.getD_eq_getElem?_getD, List.getElem?_take, if_pos (by omega), List.getElem?_drop]
theorem cut_byte {s : ByteArray} {K E : Nat} (h : E ≤ s.size) (hK : K ≤ E) (j : Int) (h0 : 0 ≤ j) (hj : (K : Int) + j < (E : Int)) : byteZ (s.extract K E) j = byteZ s ((K : Int) + j) := by
  obtain ⟨J, rfl⟩ : ∃ J : Nat, j = J := ⟨j.toNat, by omega⟩
  unfold byteZ
  rw [if_pos (by rw [cut_size h]; omega), if_pos (by omega)]
  rw [show ((J : Int)).toNat = J by omega, show ((K : Int) + (J : Int)).toNat = K + J by omega, cut_get h (by omega)]
theorem cut_end {s : ByteArray} {K E : Nat} (h : E ≤ s.size) (hK : K ≤ E) (j : Int) (hj : (E : Int) ≤ (K : Int) + j) : byteZ (s.extract K E) j = -1 := by
  refine byte_out (.inr ?_)
  rw [cut_size h]
  omega

theorem run_cut {p : Int → Bool} (hp : Cls p) {s : ByteArray} {K E : Nat} (h : E ≤ s.size) (hK : K ≤ E) (j : Int) (h0 : 0 ≤ j) (hR : runEnd p s ((K : Int) + j) ≤ (E : Int)) :
    runEnd p (s.extract K E) j = runEnd p s ((K : Int) + j) - (K : Int) := by
  have hge := run_ge p s ((K : Int) + j)
  generalize hn : ((E : Int) - ((K : Int) + j)).toNat = n
  induction n using Nat.strongRecOn generalizing j with
  | ind n ih =>
    cases hc : p (byteZ s ((K : Int) + j))
    · rw [run_stop hc]
      have : p (byteZ (s.extract K E) j) = false := by
        by_cases hj : (K : Int) + j < (E : Int)
        · rw [cut_byte h hK j h0 hj]; exact hc
        · rw [cut_end h hK j (by omega)]; exact hp
      rw [run_stop this]
      omega
    · have hs := run_step hp hc
      have hl := run_lt hp hc
      have hj : (K : Int) + j < (E : Int) := by omega
      have hc' : p (byteZ (s.extract K E) j) = true := by rw [cut_byte h hK j h0 hj]; exact hc
      rw [run_step hp hc', hs]
      have e : (K : Int) + j + 1 = (K : Int) + (j + 1) := by omega
      rw [e] at hs ⊢
      exact ih _ (by omega) (j + 1) (by omega) (by rw [← hs]; exact hR) (run_ge p s _) rfl

theorem exp_ge (s : ByteArray) (i : Int) : i ≤ expEnd s i := by
  unfold expEnd
  split
  · split
    · split <;> omega
    · split <;> omega
  · omega
theorem exp_le (s : ByteArray) (i : Int) (h : i ≤ (s.size : Int)) : expEnd s i ≤ (s.size : Int) := by
  unfold expEnd
  split
  · rename_i h1
    have r1 := byte_range (s := s) (i := i) (by omega)
    split
    · rename_i h2
      have r2 := byte_range (s := s) (i := i + 1) (by omega)
      have := run_le chars.isDigit s (i + 1 + 1) (by omega)
      split <;> omega
    · have := run_le chars.isDigit s (i + 1) (by omega)
      split <;> omega
  · exact h

theorem exp_cut {s : ByteArray} {K E : Nat} (h : E ≤ s.size) (hK : K ≤ E) (i : Int) (h0 : 0 ≤ i) (he : expEnd s ((K : Int) + i) = (E : Int)) : expEnd (s.extract K E) i = (E : Int) - (K : Int) := by
  by_cases hE : (K : Int) + i = (E : Int)
  · have hb := cut_end h hK i (by omega)
    unfold expEnd
    rw [if_neg (by rw [hb]; decide)]
    omega
  · unfold expEnd at he
    by_cases h1 : byteZ s ((K : Int) + i) = 101 ∨ byteZ s ((K : Int) + i) = 69
    · rw [if_pos h1] at he
      by_cases h2 : byteZ s ((K : Int) + i + 1) = 43 ∨ byteZ s ((K : Int) + i + 1) = 45
      · rw [if_pos h2] at he
        by_cases h3 : runEnd chars.isDigit s ((K : Int) + i + 1 + 1) > (K : Int) + i + 1 + 1
        · rw [if_pos h3] at he
          have b0 := cut_byte h hK i h0 (by omega)
          have b1 := cut_byte h hK (i + 1) (by omega) (by omega)
          have rc := run_cut cls_digit h hK (i + 1 + 1) (by omega) (by rw [show (K : Int) + (i + 1 + 1) = (K : Int) + i + 1 + 1 by omega, he]; omega)
          rw [show (K : Int) + (i + 1) = (K : Int) + i + 1 by omega] at b1
          rw [show (K : Int) + (i + 1 + 1) = (K : Int) + i + 1 + 1 by omega, he] at rc
          unfold expEnd
          rw [if_pos (by rw [b0]; exact h1), if_pos (by rw [b1]; exact h2), if_pos (by rw [rc]; omega), rc]
        · rw [if_neg h3] at he
          exact absurd he hE
      · rw [if_neg h2] at he
        by_cases h3 : runEnd chars.isDigit s ((K : Int) + i + 1) > (K : Int) + i + 1
        · rw [if_pos h3] at he
          have b0 := cut_byte h hK i h0 (by omega)
          have b1 := cut_byte h hK (i + 1) (by omega) (by omega)
          have rc := run_cut cls_digit h hK (i + 1) (by omega) (by rw [show (K : Int) + (i + 1) = (K : Int) + i + 1 by omega, he]; omega)
          rw [show (K : Int) + (i + 1) = (K : Int) + i + 1 by omega] at b1
          rw [show (K : Int) + (i + 1) = (K : Int) + i + 1 by omega, he] at rc
          unfold expEnd
          rw [if_pos (by rw [b0]; exact h1), if_neg (by rw [b1]; exact h2), if_pos (by rw [rc]; omega), rc]
        · rw [if_neg h3] at he
          exact absurd he hE
    · rw [if_neg h1] at he
      exact absurd he hE

/-- A number's end: where it lies, and the number cut out. -/
theorem num_cut {s : ByteArray} {k : Int} (h : 0 ≤ numEnd s k) : ∃ K E : Nat, k = K ∧ numEnd s k = E ∧ K < E ∧ E ≤ s.size ∧ numEnd (s.extract K E) 0 = ((s.extract K E).size : Int) := by
  have hr : 0 ≤ k ∧ k < (s.size : Int) := by
    by_cases hr : k < 0 ∨ (s.size : Int) ≤ k
    · rw [num_out hr] at h; omega
    · omega
  obtain ⟨K, rfl⟩ : ∃ K : Nat, k = K := ⟨k.toNat, by omega⟩
  have d1 := run_ge chars.isDigit s K
  have d2 := run_le chars.isDigit s K (by omega)
  by_cases hd : byteZ s (runEnd chars.isDigit s K) = 46
  · have r1 := byte_range (s := s) (i := runEnd chars.isDigit s K) (by omega)
    have k1 := run_ge chars.isDigit s (runEnd chars.isDigit s K + 1)
    have k2 := run_le chars.isDigit s (runEnd chars.isDigit s K + 1) (by omega)
    by_cases hz : runEnd chars.isDigit s K = K ∧ runEnd chars.isDigit s (runEnd chars.isDigit s K + 1) = runEnd chars.isDigit s K + 1
    · unfold numEnd at h
      rw [if_pos hd, if_pos hz] at h
      omega
    · have hn : numEnd s K = expEnd s (runEnd chars.isDigit s (runEnd chars.isDigit s K + 1)) := by unfold numEnd; rw [if_pos hd, if_neg hz]
      have x1 := exp_ge s (runEnd chars.isDigit s (runEnd chars.isDigit s K + 1))
      have x2 := exp_le s (runEnd chars.isDigit s (runEnd chars.isDigit s K + 1)) k2
      obtain ⟨E, hE⟩ : ∃ E : Nat, numEnd s K = E := ⟨(numEnd s K).toNat, by omega⟩
      have hEs : E ≤ s.size := by omega
      have hKE : K ≤ E := by omega
      refine ⟨K, E, rfl, hE, by omega, hEs, ?_⟩
      have c0 := run_cut cls_digit hEs hKE 0 (by omega) (by rw [show (K : Int) + 0 = K by omega]; omega)
      rw [show (K : Int) + 0 = K by omega] at c0
      have cb := cut_byte hEs hKE (runEnd chars.isDigit s K - K) (by omega) (by omega)
      rw [show (K : Int) + (runEnd chars.isDigit s K - K) = runEnd chars.isDigit s K by omega] at cb
      have c1 := run_cut cls_digit hEs hKE (runEnd chars.isDigit s K - K + 1) (by omega) (by rw [show (K : Int) + (runEnd chars.isDigit s K - K + 1) = runEnd chars.isDigit s K + 1 by omega]; omega)
      rw [show (K : Int) + (runEnd chars.isDigit s K - K + 1) = runEnd chars.isDigit s K + 1 by omega] at c1
      have cx := exp_cut hEs hKE (runEnd chars.isDigit s (runEnd chars.isDigit s K + 1) - K) (by omega) (by rw [show (K : Int) + (runEnd chars.isDigit s (runEnd chars.isDigit s K + 1) - K) = runEnd chars.isDigit s (runEnd chars.isDigit s K + 1) by omega]; omega)
      unfold numEnd
      rw [c0, if_pos (by rw [cb]; exact hd), c1, if_neg (by omega), cx, cut_size hEs]
      omega
  · by_cases hz : runEnd chars.isDigit s K = K
    · unfold numEnd at h
      rw [if_neg hd, if_pos hz] at h
      omega
    · have hn : numEnd s K = expEnd s (runEnd chars.isDigit s K) := by unfold numEnd; rw [if_neg hd, if_neg hz]
      have x1 := exp_ge s (runEnd chars.isDigit s K)
      have x2 := exp_le s (runEnd chars.isDigit s K) d2
      obtain ⟨E, hE⟩ : ∃ E : Nat, numEnd s K = E := ⟨(numEnd s K).toNat, by omega⟩
      have hEs : E ≤ s.size := by omega
      have hKE : K ≤ E := by omega
      refine ⟨K, E, rfl, hE, by omega, hEs, ?_⟩
      have c0 := run_cut cls_digit hEs hKE 0 (by omega) (by rw [show (K : Int) + 0 = K by omega]; omega)
      rw [show (K : Int) + 0 = K by omega] at c0
      have cb : ¬ byteZ (s.extract K E) (runEnd chars.isDigit s K - K) = 46 := by
        by_cases hl : runEnd chars.isDigit s K < (E : Int)
        · have := cut_byte hEs hKE (runEnd chars.isDigit s K - K) (by omega) (by omega)
          rw [show (K : Int) + (runEnd chars.isDigit s K - K) = runEnd chars.isDigit s K by omega] at this
          rw [this]; exact hd
        · rw [cut_end hEs hKE _ (by omega)]; decide
      have cx := exp_cut hEs hKE (runEnd chars.isDigit s K - K) (by omega) (by rw [show (K : Int) + (runEnd chars.isDigit s K - K) = runEnd chars.isDigit s K by omega]; omega)
      unfold numEnd
      rw [c0, if_neg cb, if_neg (by omega), cx, cut_size hEs]
      omega

/-- The literal's end behind its place. -/
theorem q_props {s : ByteArray} {g : Int} {j : Nat} (h : 0 ≤ qEnd s g j) : (j : Int) < qEnd s g j ∧ qEnd s g j ≤ (s.size : Int) := by
  generalize hn : s.size - j = n
  induction n using Nat.strongRecOn generalizing j with
  | ind n ih =>
    by_cases hj : j < s.size
    · by_cases h1 : (s[j].toNat : Int) = g
      · rw [q_sign hj h1]; omega
      · by_cases h2 : (s[j].toNat : Int) = 10
        · rw [q_line hj h1 h2] at h; omega
        · by_cases h3 : (s[j].toNat : Int) = 92
          · by_cases h4 : byteZ s (j + 1) = 10
            · rw [q_esc_line hj h1 h3 h4] at h; omega
            · rw [q_esc hj h1 h3 h4] at h ⊢
              have := ih _ (by omega) h rfl
              omega
          · rw [q_next hj h1 h2 h3] at h ⊢
            have := ih _ (by omega) h rfl
            omega
    · rw [q_end hj] at h; omega

theorem cut_at {s : ByteArray} {K E j : Nat} (h : E ≤ s.size) (hj : K + j < E) (h' : j < (s.extract K E).size) : (s.extract K E)[j] = s[K + j]'(by omega) := by
  rw [← chars.byte_at _ j h', ← chars.byte_at s (K + j) (by omega)]
  exact cut_get h hj

theorem q_cut {s : ByteArray} {g : Int} {K E : Nat} (hE : E ≤ s.size) (hK : K ≤ E) (j : Nat) (h : qEnd s g (K + j) = (E : Int)) : qEnd (s.extract K E) g j = (E : Int) - (K : Int) := by
  generalize hn : s.size - (K + j) = n
  induction n using Nat.strongRecOn generalizing j with
  | ind n ih =>
    have hp := q_props (s := s) (g := g) (j := K + j) (by omega)
    have hlt : K + j < E := by omega
    have hs : K + j < s.size := by omega
    have ht : j < (s.extract K E).size := by rw [cut_size hE]; omega
    have hg := cut_at hE hlt ht
    by_cases h1 : (s[K + j].toNat : Int) = g
    · rw [q_sign hs h1] at h
      rw [q_sign ht (by rw [hg]; exact h1)]
      omega
    · by_cases h2 : (s[K + j].toNat : Int) = 10
      · rw [q_line hs h1 h2] at h; omega
      · by_cases h3 : (s[K + j].toNat : Int) = 92
        · by_cases h4 : byteZ s ((K + j : Nat) + 1) = 10
          · rw [q_esc_line hs h1 h3 h4] at h; omega
          · rw [q_esc hs h1 h3 h4] at h
            have hp2 := q_props (s := s) (g := g) (j := K + j + 2) (by omega)
            have b1 := cut_byte hE hK ((j : Int) + 1) (by omega) (by omega)
            rw [show (K : Int) + ((j : Int) + 1) = ((K + j : Nat) : Int) + 1 by omega] at b1
            rw [q_esc ht (by rw [hg]; exact h1) (by rw [hg]; exact h3) (by rw [b1]; exact h4)]
            exact ih _ (by omega) (j + 2) h rfl
        · rw [q_next hs h1 h2 h3] at h
          rw [q_next ht (by rw [hg]; exact h1) (by rw [hg]; exact h2) (by rw [hg]; exact h3)]
          exact ih _ (by omega) (j + 1) h rfl

theorem str_cut {s : ByteArray} {k : Int} (h : 0 ≤ strEnd s k) : ∃ K E : Nat, k = K ∧ strEnd s k = E ∧ K < E ∧ E ≤ s.size ∧ strEnd (s.extract K E) 0 = ((s.extract K E).size : Int) := by
  unfold strEnd at h ⊢
  have hb : byteZ s k = 34 := by
    by_cases hb : byteZ s k = 34
    · exact hb
    · rw [quoted_out hb] at h; omega
  have hr := byte_range (s := s) (i := k) (by omega)
  obtain ⟨K, rfl⟩ : ∃ K : Nat, k = K := ⟨k.toNat, by omega⟩
  rw [quoted_in hb] at h ⊢
  have hp := q_props h
  obtain ⟨E, hE⟩ : ∃ E : Nat, qEnd s 34 (K + 1) = E := ⟨(qEnd s 34 (K + 1)).toNat, by omega⟩
  have hEs : E ≤ s.size := by omega
  have hKE : K ≤ E := by omega
  refine ⟨K, E, rfl, hE, by omega, hEs, ?_⟩
  have b0 := cut_byte hEs hKE 0 (by omega) (by omega)
  rw [show (K : Int) + 0 = K by omega] at b0
  have e : quoted (s.extract K E) 0 34 = qEnd (s.extract K E) 34 (0 + 1) := quoted_in (I := 0) (b0.trans hb)
  rw [e, q_cut hEs hKE (0 + 1) hE, cut_size hEs]
  omega

/-- A name's end, and what stands at its head. -/
theorem name_props {s : ByteArray} {k : Int} (h : 0 ≤ nameEnd s k) : ∃ K E : Nat, k = K ∧ nameEnd s k = E ∧ K < E ∧ E ≤ s.size ∧ chars.isLetter (byteZ s K) = true := by
  unfold nameEnd at h ⊢
  by_cases hl : chars.isLetter (byteZ s k) = true
  · rw [if_pos hl] at h ⊢
    have hr := cls_letter.range hl
    obtain ⟨K, rfl⟩ : ∃ K : Nat, k = K := ⟨k.toNat, by omega⟩
    have h1 := run_lt cls_word (word_of_letter hl)
    have h2 := run_le chars.isWord s K (by omega)
    exact ⟨K, (runEnd chars.isWord s K).toNat, rfl, by omega, by omega, by omega, hl⟩
  · rw [if_neg hl] at h; omega
end Go.Proofs.YtlbloemmabjmoaaDoor.scan
