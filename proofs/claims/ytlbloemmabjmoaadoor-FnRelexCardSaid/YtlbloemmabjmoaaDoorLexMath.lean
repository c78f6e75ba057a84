/-
  The lexer as mathematics: where a gap ends ('gapZ'), the kind and the end of the token at a place ('kindAt'), all tokens from a place on ('lexZ'), of a whole text ('lexF'). No program's text is walked here.
-/
import Derived.Test.YtlbloemmabjmoaaDoorTk
import Derived.Test.YtlbloemmabjmoaaDoorScanCut
import Derived.Test.YtlbloemmabjmoaaDoorSpell
import Derived.Test.YtlbloemmabjmoaaDoorOperand
import Derived.Test.YtlbloemmabjmoaaDoorOps
namespace Go.Proofs.YtlbloemmabjmoaaDoor.lex
open Go.RowKit
open tk scan
set_option linter.unusedVariables false

/-- The place behind blanks and joined lines. -/
def gapZ (s : ByteArray) (i : Nat) : Nat :=
  if h : i < s.size then
    if chars.isBlank (byteZ s i) = true then gapZ s (i + 1)
    else if byteZ s i = 92 ∧ byteZ s ((i : Int) + 1) = 10 then gapZ s (i + 2)
    else i
  else i
termination_by s.size - i
decreasing_by all_goals omega

theorem gap_out {s : ByteArray} {i : Nat} (h : ¬ i < s.size) : gapZ s i = i := by rw [gapZ, dif_neg h]
theorem gap_blank {s : ByteArray} {i : Nat} (h : i < s.size) (hb : chars.isBlank (byteZ s i) = true) : gapZ s i = gapZ s (i + 1) := by
  rw [gapZ, dif_pos h, if_pos hb]
theorem gap_join {s : ByteArray} {i : Nat} (h : i < s.size) (hb : chars.isBlank (byteZ s i) = false) (hj : byteZ s i = 92 ∧ byteZ s ((i : Int) + 1) = 10) : gapZ s i = gapZ s (i + 2) := by
  rw [gapZ, dif_pos h, if_neg (by rw [hb]; decide), if_pos hj]
theorem gap_stop {s : ByteArray} {i : Nat} (h : i < s.size) (hb : chars.isBlank (byteZ s i) = false) (hj : ¬ (byteZ s i = 92 ∧ byteZ s ((i : Int) + 1) = 10)) : gapZ s i = i := by
  rw [gapZ, dif_pos h, if_neg (by rw [hb]; decide), if_neg hj]
theorem join_lt {s : ByteArray} {i : Nat} (hj : byteZ s ((i : Int) + 1) = 10) : i + 1 < s.size := by
  have := byte_range (s := s) (i := (i : Int) + 1) (by omega)
  omega
theorem gap_bd (s : ByteArray) (i : Nat) : i ≤ gapZ s i ∧ (i ≤ s.size → gapZ s i ≤ s.size) := by
  generalize hn : s.size - i = n
  induction n using Nat.strongRecOn generalizing i with
  | ind n ih =>
    by_cases h : i < s.size
    · cases hb : chars.isBlank (byteZ s i)
      · by_cases hj : byteZ s i = 92 ∧ byteZ s ((i : Int) + 1) = 10
        · rw [gap_join h hb hj]
          have hlt := join_lt hj.2
          have := ih _ (by omega) (i + 2) rfl
          omega
        · rw [gap_stop h hb hj]; omega
      · rw [gap_blank h hb]
        have := ih _ (by omega) (i + 1) rfl
        omega
    · rw [gap_out h]; omega

/-- No newline. -/
def line (n : Int) : Bool := n != 10 && n != -1
theorem cls_line : Cls line := by unfold Cls; decide
def cmtEnd (s : ByteArray) (i : Int) : Int := runEnd line s i

/-- The kind and the end of the word at a letter. -/
def wordAt (s : ByteArray) (i : Nat) : Int × Int :=
  if chars.nameShape (s.extract i (nameEnd s i).toNat) = true then
    if spell.keyword (s.extract i (nameEnd s i).toNat) = 0 then
      if toks.isBuiltin (s.extract i (nameEnd s i).toNat) = true then (8, nameEnd s i)
      else if byteZ s (nameEnd s i) = 40 then (7, nameEnd s i) else (6, nameEnd s i)
    else (spell.keyword (s.extract i (nameEnd s i).toNat), nameEnd s i)
  else (0, -1)

/-- The kind and the end of the token at a place; no end behind the place where none is there. -/
def kindAt (s : ByteArray) (i : Nat) (prev : Int) : Int × Int :=
  if byteZ s i = 10 then (1, (i : Int) + 1)
  else if byteZ s i = 35 then (2, cmtEnd s i)
  else if chars.isDigit (byteZ s i) = true ∨ byteZ s i = 46 then (3, numEnd s i)
  else if byteZ s i = 34 then (4, strEnd s i)
  else if byteZ s i = 47 ∧ operand.ends prev = false then (5, ereEnd s i)
  else if chars.isLetter (byteZ s i) = true then wordAt s i
  else ((ops.opAt s i).1, (i : Int) + (ops.opAt s i).2)

theorem num_end_bd (s : ByteArray) (i : Nat) : numEnd s i = -1 ∨ (i : Int) < numEnd s i ∧ numEnd s i ≤ s.size := by
  by_cases h : 0 ≤ numEnd s i
  · obtain ⟨K, E, hK, hE, h1, h2, _⟩ := num_cut h
    right
    omega
  · left
    unfold numEnd at h ⊢
    split at h
    · split at h
      · rename_i h1 h2
        rw [if_pos h1, if_pos h2]
      · have := run_ge chars.isDigit s i
        have := run_ge chars.isDigit s (runEnd chars.isDigit s i + 1)
        have := exp_ge s (runEnd chars.isDigit s (runEnd chars.isDigit s i + 1))
        omega
    · split at h
      · rename_i h1 h2
        rw [if_neg h1, if_pos h2]
      · have := run_ge chars.isDigit s i
        have := exp_ge s (runEnd chars.isDigit s i)
        omega
theorem qEnd_bd (s : ByteArray) (g : Int) (j : Nat) : qEnd s g j = -1 ∨ (j : Int) < qEnd s g j ∧ qEnd s g j ≤ s.size := by
  by_cases h : 0 ≤ qEnd s g j
  · exact .inr (q_props h)
  · left
    generalize hn : s.size - j = n
    induction n using Nat.strongRecOn generalizing j with
    | ind n ih =>
      by_cases hj : j < s.size
      · by_cases h1 : (s[j].toNat : Int) = g
        · rw [q_sign hj h1] at h; omega
        · by_cases h2 : (s[j].toNat : Int) = 10
          · exact q_line hj h1 h2
          · by_cases h3 : (s[j].toNat : Int) = 92
            · by_cases h4 : byteZ s (j + 1) = 10
              · exact q_esc_line hj h1 h3 h4
              · rw [q_esc hj h1 h3 h4] at h ⊢
                exact ih _ (by omega) _ h rfl
            · rw [q_next hj h1 h2 h3] at h ⊢
              exact ih _ (by omega) _ h rfl
      · exact q_end hj
theorem quoted_bd (s : ByteArray) (i : Nat) (g : Int) : scan.quoted s i g = -1 ∨ (i : Int) + 1 < scan.quoted s i g ∧ scan.quoted s i g ≤ s.size := by
  unfold scan.quoted
  split
  · rw [show ((i : Int) + 1).toNat = i + 1 by omega]
    rcases qEnd_bd s g (i + 1) with h | h
    · exact .inl h
    · right; omega
  · exact .inl rfl
theorem str_end_bd (s : ByteArray) (i : Nat) : strEnd s i = -1 ∨ (i : Int) < strEnd s i ∧ strEnd s i ≤ s.size := by
  have := quoted_bd s i 34
  unfold strEnd
  omega
theorem ere_end_bd (s : ByteArray) (i : Nat) : ereEnd s i = -1 ∨ (i : Int) < ereEnd s i ∧ ereEnd s i ≤ s.size := by
  have := quoted_bd s i 47
  unfold ereEnd
  split
  · exact .inl rfl
  · omega
theorem name_end_bd {s : ByteArray} {i : Nat} (h : chars.isLetter (byteZ s i) = true) : (i : Int) < nameEnd s i ∧ nameEnd s i ≤ s.size := by
  have h0 : 0 ≤ nameEnd s i := by
    unfold nameEnd
    rw [if_pos h]
    have := run_ge chars.isWord s i
    omega
  obtain ⟨K, E, hK, hE, h1, h2, _⟩ := name_props h0
  omega

/-- What the longest operator at a place is. -/
theorem opTo_facts (s : ByteArray) (i : Nat) (hi : i ≤ s.size) : ∀ k, k ≤ 39 → ops.opTo s i k = (0, 0) ∨ (30 ≤ (ops.opTo s i k).1 ∧ (ops.opTo s i k).1 ≤ 68 ∧ 1 ≤ (ops.opTo s i k).2 ∧ (i : Int) + (ops.opTo s i k).2 ≤ s.size)
  | 0, _ => .inl rfl
  | k + 1, h => by
    have hb := ops.sign_bd k (by omega)
    rw [ops.opTo]
    split
    · rename_i hc
      right
      have h1 := hc.1
      rw [ops.here_cut hi] at h1
      simp only [Bool.and_eq_true, decide_eq_true_eq] at h1
      refine ⟨?_, ?_, ?_, ?_⟩ <;> simp only <;> omega
    · exact opTo_facts s i hi k (by omega)
theorem op_facts (s : ByteArray) (i : Nat) (hi : i ≤ s.size) : ops.opAt s i = (0, 0) ∨ (30 ≤ (ops.opAt s i).1 ∧ (ops.opAt s i).1 ≤ 68 ∧ 1 ≤ (ops.opAt s i).2 ∧ (i : Int) + (ops.opAt s i).2 ≤ s.size) :=
  opTo_facts s i hi 39 (Nat.le_refl _)

/-- A token is there, of some kind, within the text; or there is none. -/
theorem kind_facts (s : ByteArray) (i : Nat) (prev : Int) (hi : i < s.size) : ((kindAt s i prev).2 ≤ i ∧ -1 ≤ (kindAt s i prev).2) ∨ (1 ≤ (kindAt s i prev).1 ∧ (kindAt s i prev).1 ≤ 68 ∧ (i : Int) < (kindAt s i prev).2 ∧ (kindAt s i prev).2 ≤ s.size) := by
  unfold kindAt
  split
  · right; simp only; omega
  split
  · rename_i h1 h2
    right
    have hl : line (byteZ s i) = true := by rw [h2]; decide
    have := run_lt cls_line hl
    have := run_le line s i (by omega)
    unfold cmtEnd
    simp only
    omega
  split
  · have := num_end_bd s i
    simp only
    omega
  split
  · have := str_end_bd s i
    simp only
    omega
  split
  · have := ere_end_bd s i
    simp only
    omega
  split
  · rename_i hl
    have hb := name_end_bd hl
    unfold wordAt
    split
    · split
      · split
        · right; simp only; omega
        split
        · right; simp only; omega
        · right; simp only; omega
      · rename_i hk
        have := spell.kw_bd (s.extract i (nameEnd s i).toNat)
        right; simp only; omega
    · left; simp only; omega
  · rcases op_facts s i (by omega) with h | h
    · left
      rw [h]
      simp only
      omega
    · right
      simp only
      omega

/-- All tokens from a place on, the one before being of a kind; or the place where none begins. -/
def lexZ (s : ByteArray) (i : Nat) (prev : Int) : Nat ⊕ List Tk :=
  if h : gapZ s i < s.size then
    if h2 : (gapZ s i : Int) < (kindAt s (gapZ s i) prev).2 then
      match lexZ s (kindAt s (gapZ s i) prev).2.toNat (kindAt s (gapZ s i) prev).1 with
      | .inl f => .inl f
      | .inr l => .inr (⟨(kindAt s (gapZ s i) prev).1, s.extract (gapZ s i) (kindAt s (gapZ s i) prev).2.toNat, gapZ s i⟩ :: l)
    else .inl (gapZ s i)
  else .inr []
termination_by s.size - i
decreasing_by
  have := (gap_bd s i).1
  omega

def push (d : List Tk) : Nat ⊕ List Tk → Nat ⊕ List Tk
  | .inl f => .inl f
  | .inr l => .inr (d ++ l)
theorem push_push (d : List Tk) (t : Tk) (x : Nat ⊕ List Tk) : push (d ++ [t]) x = push d (push [t] x) := by
  cases x <;> simp [push]
theorem push_nil (x : Nat ⊕ List Tk) : push [] x = x := by cases x <;> simp [push]

theorem lex_end {s : ByteArray} {i : Nat} {prev : Int} (h : ¬ gapZ s i < s.size) : lexZ s i prev = .inr [] := by
  rw [lexZ, dif_neg h]
theorem lex_none {s : ByteArray} {i : Nat} {prev : Int} (h : gapZ s i < s.size) (h2 : (kindAt s (gapZ s i) prev).2 ≤ gapZ s i) : lexZ s i prev = .inl (gapZ s i) := by
  rw [lexZ, dif_pos h, dif_neg (by omega)]
theorem lex_step {s : ByteArray} {i : Nat} {prev k : Int} {g e : Nat} (hg : gapZ s i = g) (h : g < s.size) (hk : kindAt s g prev = (k, (e : Int))) (h2 : g < e) :
    lexZ s i prev = push [⟨k, s.extract g e, g⟩] (lexZ s e k) := by
  subst hg
  rw [lexZ, dif_pos h, dif_pos (by rw [hk]; simp only; omega), hk]
  simp only [Int.toNat_natCast]
  cases lexZ s e k <;> simp [push]

/-- A gap is no matter. -/
theorem gap_gap (s : ByteArray) (i : Nat) : gapZ s (gapZ s i) = gapZ s i := by
  generalize hn : s.size - i = n
  induction n using Nat.strongRecOn generalizing i with
  | ind n ih =>
    by_cases h : i < s.size
    · cases hb : chars.isBlank (byteZ s i)
      · by_cases hj : byteZ s i = 92 ∧ byteZ s ((i : Int) + 1) = 10
        · rw [gap_join h hb hj]
          have hlt := join_lt hj.2
          exact ih _ (by omega) (i + 2) rfl
        · rw [gap_stop h hb hj, gap_stop h hb hj]
      · rw [gap_blank h hb]
        exact ih _ (by omega) (i + 1) rfl
    · rw [gap_out h, gap_out h]
theorem lex_gap {s : ByteArray} {i j : Nat} {prev : Int} (h : gapZ s i = gapZ s j) : lexZ s i prev = lexZ s j prev := by
  rw [lexZ, lexZ.eq_1 s j, h]

/-- The lexer's two results. -/
def lexF (s : ByteArray) : List Tk × (Int × Int) :=
  if 3000 < s.size then ([], (1, 0)) else match lexZ s 0 0 with
  | .inl f => ([], (2, (f : Int)))
  | .inr l => (l, (0, 0))
end Go.Proofs.YtlbloemmabjmoaaDoor.lex
