/-
  Places in a text: the byte at a place, where a run of bytes ends, where a number, a literal between two signs and a name end. Plain functions of the text; no program's text is walked here.
-/
import Derived.Test.YtckeepjfbpphaaaGreatDoorBase
import Derived.Test.YtckeepjfbpphaaaGreatDoorChars
namespace Go.Proofs.YtckeepjfbpphaaaGreatDoor.scan
open Go.RowKit
set_option linter.unusedVariables false

/-- The byte at a place; -1 where there is none. -/
def byteZ (s : ByteArray) (i : Int) : Int := if 0 ≤ i ∧ i < (s.size : Int) then ((s.data.toList.getD i.toNat 0).toNat : Int) else -1

theorem byte_out {s : ByteArray} {i : Int} (h : i < 0 ∨ (s.size : Int) ≤ i) : byteZ s i = -1 := by
  unfold byteZ
  rw [if_neg (by omega)]
theorem byte_in {s : ByteArray} {I : Nat} (h : I < s.size) : byteZ s I = (s[I].toNat : Int) := by
  unfold byteZ
  rw [if_pos (by omega)]
  rw [show ((I : Int)).toNat = I by omega, chars.byte_at s I h]
theorem byte_bd (s : ByteArray) (i : Int) : -1 ≤ byteZ s i ∧ byteZ s i < 256 := by
  by_cases h : 0 ≤ i ∧ i < (s.size : Int)
  · obtain ⟨I, rfl⟩ : ∃ I : Nat, i = I := ⟨i.toNat, by omega⟩
    have hI : I < s.size := by omega
    rw [byte_in hI]
    have := s[I].toNat_lt
    omega
  · rw [byte_out (by omega)]; omega
theorem byte_range {s : ByteArray} {i : Int} (h : byteZ s i ≠ -1) : 0 ≤ i ∧ i < (s.size : Int) := by
  by_cases h' : 0 ≤ i ∧ i < (s.size : Int)
  · exact h'
  · exact absurd (byte_out (by omega)) h

/-- Where the bytes of a class end, from a place on. -/
def runEnd (p : Int → Bool) (s : ByteArray) (i : Int) : Int :=
  if h : p (byteZ s i) = true ∧ 0 ≤ i ∧ i < (s.size : Int) then runEnd p s (i + 1) else i
termination_by ((s.size : Int) - i).toNat
decreasing_by omega

/-- A class to which no -1 belongs. -/
def Cls (p : Int → Bool) : Prop := p (-1) = false
theorem cls_digit : Cls chars.isDigit := by unfold Cls; decide
theorem cls_word : Cls chars.isWord := by unfold Cls; decide
theorem cls_letter : Cls chars.isLetter := by unfold Cls; decide

theorem Cls.range {p : Int → Bool} (hp : Cls p) {s : ByteArray} {i : Int} (h : p (byteZ s i) = true) : 0 ≤ i ∧ i < (s.size : Int) := by
  refine byte_range fun e => ?_
  rw [e, hp] at h
  cases h
theorem run_step {p : Int → Bool} (hp : Cls p) {s : ByteArray} {i : Int} (h : p (byteZ s i) = true) : runEnd p s i = runEnd p s (i + 1) := by
  rw [runEnd, dif_pos ⟨h, hp.range h⟩]
theorem run_stop {p : Int → Bool} {s : ByteArray} {i : Int} (h : p (byteZ s i) = false) : runEnd p s i = i := by
  rw [runEnd, dif_neg (by rw [h]; simp)]
theorem run_out {p : Int → Bool} {s : ByteArray} {i : Int} (h : i < 0 ∨ (s.size : Int) ≤ i) : runEnd p s i = i := by
  rw [runEnd, dif_neg (by omega)]
theorem run_ge (p : Int → Bool) (s : ByteArray) (i : Int) : i ≤ runEnd p s i := by
  generalize hn : ((s.size : Int) - i).toNat = n
  induction n using Nat.strongRecOn generalizing i with
  | ind n ih =>
    rw [runEnd]
    split
    · rename_i h
      have := ih _ (by omega) (i + 1) rfl
      omega
    · omega
theorem run_le (p : Int → Bool) (s : ByteArray) (i : Int) (hi : i ≤ (s.size : Int)) : runEnd p s i ≤ (s.size : Int) := by
  generalize hn : ((s.size : Int) - i).toNat = n
  induction n using Nat.strongRecOn generalizing i with
  | ind n ih =>
    rw [runEnd]
    split
    · rename_i h
      exact ih _ (by omega) (i + 1) (by omega) rfl
    · exact hi
theorem run_lt {p : Int → Bool} (hp : Cls p) {s : ByteArray} {i : Int} (h : p (byteZ s i) = true) : i < runEnd p s i := by
  rw [run_step hp h]
  have := run_ge p s (i + 1)
  omega

abbrev digEnd (s : ByteArray) (i : Int) : Int := runEnd chars.isDigit s i
/-- The end of an exponent; the place itself where none is whole there. -/
def expEnd (s : ByteArray) (i : Int) : Int :=
  if byteZ s i = 101 ∨ byteZ s i = 69 then
    if byteZ s (i + 1) = 43 ∨ byteZ s (i + 1) = 45 then
      if runEnd chars.isDigit s (i + 1 + 1) > i + 1 + 1 then runEnd chars.isDigit s (i + 1 + 1) else i
    else
      if runEnd chars.isDigit s (i + 1) > i + 1 then runEnd chars.isDigit s (i + 1) else i
  else i
/-- The end of a number; -1 where none begins. -/
def numEnd (s : ByteArray) (i : Int) : Int :=
  if byteZ s (runEnd chars.isDigit s i) = 46 then
    if runEnd chars.isDigit s i = i ∧ runEnd chars.isDigit s (runEnd chars.isDigit s i + 1) = runEnd chars.isDigit s i + 1 then -1
    else expEnd s (runEnd chars.isDigit s (runEnd chars.isDigit s i + 1))
  else if runEnd chars.isDigit s i = i then -1 else expEnd s (runEnd chars.isDigit s i)

theorem num_out {s : ByteArray} {i : Int} (h : i < 0 ∨ (s.size : Int) ≤ i) : numEnd s i = -1 := by
  have hr : runEnd chars.isDigit s i = i := run_out h
  unfold numEnd
  rw [hr, byte_out h]
  simp

/-- The end of what stands between two signs, looked for from a place on. -/
def qEnd (s : ByteArray) (g : Int) (i : Nat) : Int :=
  if h : i < s.size then
    if (s[i].toNat : Int) = g then (i : Int) + 1
    else if (s[i].toNat : Int) = 10 then -1
    else if (s[i].toNat : Int) = 92 then (if byteZ s (i + 1) = 10 then -1 else qEnd s g (i + 2))
    else qEnd s g (i + 1)
  else -1
termination_by s.size - i
decreasing_by all_goals omega
def quoted (s : ByteArray) (i g : Int) : Int := if byteZ s i = g then qEnd s g (i + 1).toNat else -1

theorem q_end {s : ByteArray} {g : Int} {i : Nat} (h : ¬ i < s.size) : qEnd s g i = -1 := by
  rw [qEnd, dif_neg h]
theorem q_sign {s : ByteArray} {g : Int} {i : Nat} (h : i < s.size) (h1 : (s[i].toNat : Int) = g) : qEnd s g i = (i : Int) + 1 := by
  rw [qEnd, dif_pos h, if_pos h1]
theorem q_line {s : ByteArray} {g : Int} {i : Nat} (h : i < s.size) (h1 : ¬ (s[i].toNat : Int) = g) (h2 : (s[i].toNat : Int) = 10) : qEnd s g i = -1 := by
  rw [qEnd, dif_pos h, if_neg h1, if_pos h2]
theorem q_esc_line {s : ByteArray} {g : Int} {i : Nat} (h : i < s.size) (h1 : ¬ (s[i].toNat : Int) = g) (h3 : (s[i].toNat : Int) = 92) (h4 : byteZ s (i + 1) = 10) : qEnd s g i = -1 := by
  rw [qEnd, dif_pos h, if_neg h1, if_neg (by omega), if_pos h3, if_pos h4]
theorem q_esc {s : ByteArray} {g : Int} {i : Nat} (h : i < s.size) (h1 : ¬ (s[i].toNat : Int) = g) (h3 : (s[i].toNat : Int) = 92) (h4 : ¬ byteZ s (i + 1) = 10) : qEnd s g i = qEnd s g (i + 2) := by
  rw [qEnd, dif_pos h, if_neg h1, if_neg (by omega), if_pos h3, if_neg h4]
theorem q_next {s : ByteArray} {g : Int} {i : Nat} (h : i < s.size) (h1 : ¬ (s[i].toNat : Int) = g) (h2 : ¬ (s[i].toNat : Int) = 10) (h3 : ¬ (s[i].toNat : Int) = 92) : qEnd s g i = qEnd s g (i + 1) := by
  rw [qEnd, dif_pos h, if_neg h1, if_neg h2, if_neg h3]
/-- Behind a backslash a newline ends the line, too. -/
theorem q_esc_then {s : ByteArray} {g : Int} {i : Nat} (hg : g ≠ 10) (h : i < s.size) (h1 : ¬ (s[i].toNat : Int) = g) (h3 : (s[i].toNat : Int) = 92) (h4 : byteZ s (i + 1) = 10) : qEnd s g i = qEnd s g (i + 1) := by
  rw [q_esc_line h h1 h3 h4]
  have hr := byte_range (s := s) (i := (i : Int) + 1) (by rw [h4]; decide)
  have hlt : i + 1 < s.size := by omega
  have e : byteZ s (i + 1) = (s[i + 1].toNat : Int) := by
    have := byte_in hlt
    rw [← this]
    congr 1
  rw [q_line hlt (by omega) (by omega)]
theorem quoted_out {s : ByteArray} {i g : Int} (h : ¬ byteZ s i = g) : quoted s i g = -1 := by
  unfold quoted
  rw [if_neg h]
theorem quoted_in {s : ByteArray} {I : Nat} {g : Int} (h : byteZ s I = g) : quoted s I g = qEnd s g (I + 1) := by
  unfold quoted
  rw [if_pos h, show ((I : Int) + 1).toNat = I + 1 by omega]

def strEnd (s : ByteArray) (i : Int) : Int := quoted s i 34
def ereEnd (s : ByteArray) (i : Int) : Int := if quoted s i 47 = i + 2 then -1 else quoted s i 47
def nameEnd (s : ByteArray) (i : Int) : Int := if chars.isLetter (byteZ s i) = true then runEnd chars.isWord s i else -1
theorem word_of_letter {n : Int} (h : chars.isLetter n = true) : chars.isWord n = true := by
  unfold chars.isWord; rw [h]; rfl
end Go.Proofs.YtckeepjfbpphaaaGreatDoor.scan
