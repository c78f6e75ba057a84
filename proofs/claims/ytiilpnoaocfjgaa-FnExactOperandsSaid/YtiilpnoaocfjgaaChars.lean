/-
  Character classes and the shape of names: impl's functions and the model's give the same Bools ('isLetter', 'isDigit', 'isBlank', 'isWord', 'nameShape'), and leave the world alone: contracts.
-/
import Derived.Test.YtiilpnoaocfjgaaRows
import Derived.Test.YtiilpnoaocfjgaaBase
import Derived.WalkKit
import Derived.ProofKit
import Derived.OpenShut
import Derived.ShutString
import Derived.ChangeOld
import Derived.Below
import Derived.WalkSpells
import Derived.WalkLawsBesides
namespace Go.Proofs.Ytiilpnoaocfjgaa.chars
open Go.ChangeShapes Go.WideShapes Go.ChangeAt Go.RowKit
set_option linter.unusedVariables false

def inR (n a b : Int) : Bool := decide (a ≤ n) && decide (n ≤ b)
def isLetter (n : Int) : Bool := inR n 97 122 || inR n 65 90 || n == 95
def isDigit (n : Int) : Bool := inR n 48 57
def isBlank (n : Int) : Bool := n == 32 || n == 9
def isWord (n : Int) : Bool := isLetter n || isDigit n
/-- The first k bytes are word bytes. -/
def wordsTo (s : ByteArray) (k : Nat) : Bool := (s.data.toList.take k).all fun b => isWord (b.toNat : Int)
def nameShape (s : ByteArray) : Bool := inR (s.size : Int) 1 12 && (isLetter ((s.data.toList.getD 0 0).toNat : Int) && wordsTo s s.size)

theorem byte_at (s : ByteArray) (i : Nat) (h : i < s.size) : s.data.toList.getD i 0 = s[i] := by
  have : i < s.data.size := h
  rw [List.getD_eq_getElem?_getD]
  simp only [Array.getElem?_toList, Array.getElem?_eq_getElem this]
  rfl
theorem ne_empty {s : ByteArray} (h : 0 < s.size) : s.toList.isEmpty = false := by
  rw [ByteArray.toList_eq]
  have hl : 0 < s.data.toList.length := h
  cases e : s.data.toList with
  | nil => rw [e] at hl; simp at hl
  | cons _ _ => rfl
theorem words_step {s : ByteArray} {k : Nat} (h : k < s.size) (hw : wordsTo s k = true) (hb : isWord (s[k].toNat : Int) = true) : wordsTo s (k + 1) = true := by
  unfold wordsTo at *
  rw [take_snoc s k h, List.all_append, hw]
  simp [hb]
theorem words_dead {s : ByteArray} {k : Nat} (h : k < s.size) (hb : isWord (s[k].toNat : Int) = false) : wordsTo s s.size = false := by
  unfold wordsTo
  rw [List.all_eq_false]
  refine ⟨s[k], ?_, by simp [hb]⟩
  rw [List.take_of_length_le (show s.data.toList.length ≤ s.size from Nat.le_refl _)]
  exact Array.mem_toList_iff.2 (Array.getElem_mem (xs := s.data) h)
theorem shape_dead {s : ByteArray} {k : Nat} (h : k < s.size) (hb : isWord (s[k].toNat : Int) = false) : nameShape s = false := by
  simp [nameShape, words_dead h hb]
theorem shape_long {s : ByteArray} (h : 12 < s.size) : nameShape s = false := by
  simp [nameShape, inR]; omega
theorem shape_empty {s : ByteArray} (h : s.size = 0) : nameShape s = false := by
  simp [nameShape, inR, h]
theorem shape_end {s : ByteArray} (h0 : 0 < s.size) (h : s.size ≤ 12) (hw : wordsTo s s.size = true) : nameShape s = isLetter (s[0].toNat : Int) := by
  have hr : inR (s.size : Int) 1 12 = true := by simp [inR]; omega
  unfold nameShape
  rw [byte_at s 0 h0, hw, hr]
  simp
theorem shape_head {s : ByteArray} (h0 : 0 < s.size) (hb : isLetter (s[0].toNat : Int) = false) : nameShape s = false := by
  unfold nameShape
  rw [byte_at s 0 h0, hb]
  simp

theorem spec_in (n a b : Int) (w : World) : Calls Try.prog 14 #[.int .i64 n, .int .i64 a, .int .i64 b] w fun e w' => e = .returned (.bool (inR n a b)) ∧ w = w' := by
  by_cases h1 : a ≤ n
  · by_cases h2 : n ≤ b
    · have HE := Lib.hid (show inR n a b = true by simp [inR, h1, h2])
      go_enter Try.func14, Try.ntmps14
      go_wp2
      go_ret
      exact ⟨by rw [HE.out]; rfl, rfl⟩
    · have HE := Lib.hid (show inR n a b = false by simp [inR, h1, h2])
      go_enter Try.func14, Try.ntmps14
      go_wp2
      go_ret
      exact ⟨by rw [HE.out]; rfl, rfl⟩
  · have HE := Lib.hid (show inR n a b = false by simp [inR, h1])
    go_enter Try.func14, Try.ntmps14
    go_wp2
    go_ret
    exact ⟨by rw [HE.out]; rfl, rfl⟩

/-- The loops' relation. -/
def Rel (s : ByteArray) (i : Value) : Prop := ∃ I : Nat, I ≤ s.size ∧ i = .int .i64 I ∧ wordsTo s I = true


end Go.Proofs.Ytiilpnoaocfjgaa.chars
