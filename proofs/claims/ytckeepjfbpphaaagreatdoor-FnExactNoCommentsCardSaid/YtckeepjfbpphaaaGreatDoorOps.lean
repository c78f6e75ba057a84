/-
  The longest operator at a place: what it is ('opAt'), impl.OpAt and spec.OpAt: contracts. What strings.HasPrefix and strings.Contains answer, by the shelf.
-/
import Derived.Test.YtckeepjfbpphaaaGreatDoorRows
import Derived.Test.YtckeepjfbpphaaaGreatDoorBase
import Derived.Test.YtckeepjfbpphaaaGreatDoorScan
import Derived.Test.YtckeepjfbpphaaaGreatDoorSpell
import Derived.Test.YtckeepjfbpphaaaGreatDoorShelf
import Derived.WalkKit
import Derived.ProofKit
import Derived.OpenShut
import Derived.ShutString
import Derived.ChangeOld
import Derived.Below
import Derived.WalkSpells
import Derived.WalkLawsBesides
import Derived.BigQuiet
import Derived.IntWalk
import Derived.Deep.QuietTactic
import Derived.Lib.Strings
namespace Go.Proofs.YtckeepjfbpphaaaGreatDoor.ops
open Go.ChangeShapes Go.WideShapes Go.ChangeAt Go.RowKit
open toks (signs)
open spell (Held)
open scan (eq_facts ne_facts)
set_option linter.unusedVariables false
set_option maxRecDepth 20000

def signAt (k : Nat) : ByteArray := signs.getD k ⟨#[]⟩
theorem sign_bd : ∀ k, k < 39 → 1 ≤ (signAt k).size ∧ (signAt k).size ≤ 2 := by decide +kernel
/-- Does a text lie at a place? -/
def here (s : ByteArray) (i : Int) (p : ByteArray) : Bool := decide (0 ≤ i) && (decide (i ≤ s.size) && Lib.hasPrefix (s.data.toList.drop i.toNat) p.data.toList)
theorem here_neg {s : ByteArray} {i : Int} {p : ByteArray} (h : i < 0) : here s i p = false := by
  unfold here
  rw [show decide (0 ≤ i) = false by rw [decide_eq_false_iff_not]; omega]
  rfl
theorem here_far {s : ByteArray} {i : Int} {p : ByteArray} (h : (s.size : Int) < i) : here s i p = false := by
  unfold here
  rw [show decide (i ≤ (s.size : Int)) = false by rw [decide_eq_false_iff_not]; omega]
  simp
theorem here_in {s : ByteArray} {A : Nat} {p : ByteArray} (h : A ≤ s.size) : here s A p = Lib.hasPrefix (s.data.toList.drop A) p.data.toList := by
  unfold here
  simp [h]
theorem rest_data (s : ByteArray) (A : Nat) : (s.extract A s.size).data.toList = s.data.toList.drop A := by
  rw [Lib.extract_data, List.take_of_length_le]
  simp
theorem here_rest {s : ByteArray} {A : Nat} {p : ByteArray} (h : A ≤ s.size) : here s A p = Lib.hasPrefix (s.extract A s.size).data.toList p.data.toList := by
  rw [here_in h, rest_data]
theorem here_cut {s : ByteArray} {A : Nat} {p : ByteArray} (h : A ≤ s.size) : here s A p = (decide ((p.size : Int) ≤ (s.size : Int) - A) && ((s.extract A (A + p.size)).toList == p.toList)) := by
  rw [here_in h, ← Lib.hasPrefix_of_take, ByteArray.toList_eq, ByteArray.toList_eq, Lib.extract_data]
  have h1 : (s.data.toList.drop A).length = s.size - A := by simp
  have h2 : p.data.toList.length = p.size := rfl
  rw [h1, h2, show A + p.size - A = p.size by omega]
  congr 1
  rw [Bool.eq_iff_iff]
  simp
  omega

/-- The longest of the first signs that lie at a place: its kind and its length. -/
def opTo (s : ByteArray) (i : Int) : Nat → Int × Int
  | 0 => (0, 0)
  | k + 1 => if here s i (signAt k) = true ∧ (opTo s i k).2 < ((signAt k).size : Int) then ((k : Int) + 30, ((signAt k).size : Int)) else opTo s i k
def opAt (s : ByteArray) (i : Int) : Int × Int := opTo s i 39
theorem op_yes {s : ByteArray} {i : Int} {k : Nat} (h1 : here s i (signAt k) = true) (h2 : (opTo s i k).2 < ((signAt k).size : Int)) : opTo s i (k + 1) = ((k : Int) + 30, ((signAt k).size : Int)) := by
  rw [opTo, if_pos ⟨h1, h2⟩]
theorem op_no {s : ByteArray} {i : Int} {k : Nat} (h1 : ¬ (here s i (signAt k) = true ∧ (opTo s i k).2 < ((signAt k).size : Int))) : opTo s i (k + 1) = opTo s i k := by
  rw [opTo, if_neg h1]
theorem op_bd (s : ByteArray) (i : Int) : ∀ k, k ≤ 39 → 0 ≤ (opTo s i k).1 ∧ (opTo s i k).1 ≤ 68 ∧ 0 ≤ (opTo s i k).2 ∧ (opTo s i k).2 ≤ 2
  | 0, _ => by simp [opTo]
  | k + 1, h => by
    have := op_bd s i k (by omega)
    have := sign_bd k (by omega)
    rw [opTo]
    split
    · simp only; omega
    · exact op_bd s i k (by omega)
theorem op_out (s : ByteArray) (i : Int) (h : i < 0 ∨ (s.size : Int) ≤ i) : ∀ k, k ≤ 39 → opTo s i k = (0, 0)
  | 0, _ => rfl
  | k + 1, hk => by
    have hb := sign_bd k (by omega)
    rw [op_no]
    · exact op_out s i h k (by omega)
    · rintro ⟨h1, -⟩
      have : here s i (signAt k) = false := by
        rcases h with h | h
        · exact here_neg h
        · rcases Int.lt_or_eq_of_le h with h | h
          · exact here_far h
          · subst h
            rw [here_cut (Nat.le_refl _)]
            rw [show decide (((signAt k).size : Int) ≤ (s.size : Int) - (s.size : Int)) = false by rw [decide_eq_false_iff_not]; omega]
            rfl
      rw [this] at h1
      cases h1

theorem prefix_any (s p : ByteArray) (w : World) : Calls Tryz.prog 78 #[.string s, .string p] w fun e w' => e = .returned (.bool (Lib.hasPrefix s.data.toList p.data.toList)) ∧ w = w' :=
  (Tryz.strings_HasPrefix s p w).mono fun _ _ h => ⟨h.1, h.2.symm⟩
theorem contains_any (s : ByteArray) (c : UInt8) (w : World) : Calls Tryz.prog 79 #[.string s, .string ⟨#[c]⟩] w fun e w' => e = .returned (.bool (decide (0 ≤ Lib.indexByte s.data.toList c))) ∧ w = w' :=
  (Tryz.strings_Contains_one s c w).mono fun _ _ h => ⟨h.1, h.2.symm⟩

/-- impl's loop. -/
def RelO (s : ByteArray) (i : Int) (k n c : Value) : Prop := ∃ K : Nat, K ≤ 39 ∧ c = .int .i64 ((K : Int) + 30) ∧ k = .int .i64 (opTo s i K).1 ∧ n = .int .i64 (opTo s i K).2

theorem below_drewN {B : Nat} {w w1 : World} (h : Below B w w1) (n : Nat) : Below B w (w1.drewN n) := ⟨h.os, h.tape, h.output, h.size, h.block⟩

/-- spec's loop. -/
def RelS (s : ByteArray) (i : Int) (w1 : World) (k n c : Value) (wr : World) : Prop :=
  ∃ K : Nat, K ≤ 39 ∧ c = .int .i64 (K : Int) ∧ k = .int .i64 (opTo s i K).1 ∧ n = .int .i64 (opTo s i K).2 ∧ Below w1.heap.size w1 wr

end Go.Proofs.YtckeepjfbpphaaaGreatDoor.ops
