/-
  impl.Fixed at every two integers: contracts ('impl_loop', 'out').
-/
import Derived.Test.YtjphfigfmbgmkaaDoorRows
import Derived.Test.YtjphfigfmbgmkaaDoorBase
import Derived.Test.YtjphfigfmbgmkaaDoorBytes
import Derived.WalkKit
import Derived.ProofKit
import Derived.OpenShut
import Derived.ShutString
import Derived.ChangeOld
import Derived.Below
import Derived.WalkSpells
import Derived.WalkLawsBesides
import Derived.Laws.IdiomStrings
namespace Go.Proofs.YtjphfigfmbgmkaaDoor.fixed
open Go.ChangeShapes Go.WideShapes Go.ChangeAt Go.RowKit
open Go.ChangeMaps (open_string shut_string)
set_option linter.unusedVariables false

/-- The lowest byte of a number. -/
def bt (x : Int) : UInt8 := UInt8.ofNat (x % 256).toNat
/-- The k lowest bytes of n, the highest of them first. -/
def fx : Nat → Int → List UInt8
  | 0, _ => []
  | k + 1, n => bt (n / 256 ^ k) :: fx k n


theorem fx_len (k : Nat) (n : Int) : (fx k n).length = k := by
  induction k with
  | zero => rfl
  | succ k ih => simp [fx, ih]

theorem fx_get (n : Int) : ∀ (k i : Nat), i < k → (fx k n)[i]? = some (bt (n / 256 ^ (k - 1 - i)))
  | 0, i, h => by omega
  | k + 1, 0, _ => by simp [fx]
  | k + 1, i + 1, h => by
    simp only [fx, List.getElem?_cons_succ]
    rw [fx_get n k i (by omega)]
    congr 4
    omega

/-- What Fixed answers at a width and a number that are not out of range. -/
def fixS (k : Nat) (n : Int) : ByteArray := ⟨(if n / 256 ^ k = 0 then fx k n else []).toArray⟩

theorem fixS_yes {k : Nat} {n : Int} (h : n / 256 ^ k = 0) : fixS k n = ⟨(fx k n).toArray⟩ := by simp [fixS, h]
theorem fixS_no {k : Nat} {n : Int} (h : ¬ n / 256 ^ k = 0) : fixS k n = ⟨#[]⟩ := by simp [fixS, h]

theorem div_step (n : Int) (j : Nat) (h0 : 0 ≤ n) : n / 256 ^ (j + 1) = n / 256 ^ j / 256 := by
  rw [Int.pow_succ, ← Int.ediv_ediv_of_nonneg (Int.pow_nonneg (by omega))]

theorem div_bd (n : Int) (j : Nat) (h0 : 0 ≤ n) (hn : n ≤ 9223372036854775807) : 0 ≤ n / 256 ^ j ∧ n / 256 ^ j ≤ 9223372036854775807 :=
  ⟨Int.ediv_nonneg h0 (Int.pow_nonneg (by omega)), Int.le_trans (Int.ediv_le_self _ h0) hn⟩

theorem ret_str {a b : ByteArray} (h : a = b) : Ending.returned (.string a) = .returned (.string b) := by rw [h]

theorem fx_cat (j : Nat) (n x : Int) (hx : x = n / 256 ^ j % 256) : (⟨#[UInt8.ofNat x.toNat]⟩ : ByteArray) ++ ⟨(fx j n).toArray⟩ = ⟨(fx (j + 1) n).toArray⟩ := by
  subst hx
  apply ByteArray.ext
  simp [fx, bt]

/-- The row of impl.Fixed's loop behind j rounds. -/
def rowAt (k j : Nat) (n : Int) : List Value := cellsOf ((fx k n).take j) ++ List.replicate (k - j) (.int .u8 0)

theorem row_end (k : Nat) (n : Int) : rowAt k k n = cellsOf (fx k n) := by
  simp [rowAt, List.take_of_length_le (Nat.le_of_eq (fx_len k n))]

theorem row_next (k j : Nat) (n : Int) (h : j < k) : (rowAt k j n)[j]? = some (.int .u8 0) := by
  unfold rowAt
  rw [List.getElem?_append_right (by simp [cellsOf, fx_len]; omega)]
  rw [List.getElem?_replicate, if_pos (by simp [cellsOf, fx_len]; omega)]

theorem row_store (k j : Nat) (n : Int) (h : j < k) : (rowAt k j n).set j (.int .u8 (n / 2 ^ (8 * (k - 1 - j)) % 256)) = rowAt k (j + 1) n := by
  have hg := fx_get n k j h
  have e8 : (2 : Int) ^ (8 * (k - 1 - j)) = 256 ^ (k - 1 - j) := by rw [Int.pow_mul]; rfl
  rw [e8]
  unfold rowAt
  rw [List.take_add_one, hg, show k - j = (k - (j + 1)) + 1 by omega, List.replicate_succ]
  rw [List.set_append_right _ _ (by simp [cellsOf, fx_len]; omega)]
  simp [cellsOf, fx_len, Nat.min_eq_left (Nat.le_of_lt h), bt]
  omega

set_option maxHeartbeats 400000 in
theorem impl_loop (n : Int) (k : Nat) (w : World) (h0 : 0 ≤ n) (hn : n ≤ 9223372036854775807) (h1 : 1 ≤ k) (h7 : k ≤ 7) :
    Calls Tryd.prog 11 #[.int .i64 n, .int .i64 k] w fun e w' => e = .returned (.string (fixS k n)) ∧ Below w.heap.size w w' := by
  have hz : ¬ n < 0 := by omega
  have h1' : (1 : Int) ≤ (k : Int) := by omega
  have h7' : (k : Int) ≤ 7 := by omega
  have e8 : (2 : Int) ^ (8 * k) = 256 ^ k := by
    rw [Int.pow_mul]; rfl
  by_cases hq : n / 256 ^ k = 0
  · have Hq := Lib.hid (fixS_yes hq)
    have ht : (n / 2 ^ (8 * k) != 0) = false := by rw [e8, hq]; rfl
    clear hq e8
    obtain ⟨i0, hi, hz0, hz1, hz2⟩ := info_parts Tryd.infoByte
    go_enter Tryd.func11, Tryd.ntmps11
    go_wp2_with (first | (at_make; refine wpList_make_full _ rfl _ _ 22 rfl w.heap.size 5 i0 (.int .u8 0) 1 Tryd.underlying22 hi hz0 hz1 .i64 .i64 k k k rfl rfl rfl rfl (by rw [hz2]; omega) (by unfold maxLen; omega) (Nat.le_refl _) ?_; intro w1 hown hgrow) | go_in)
    have hbel1 := (Below.refl w.heap.size w).grown hgrow (Nat.le_refl _) (fun _ h => by cases h)
    have hown0 : w1.ownsRow w.heap.size 5 1 (Value.slice (some ⟨w.heap.size, 0, none⟩) k k) k (rowAt k 0 n) := by
      have e : rowAt k 0 n = (madeCells (Value.int IntKind.u8 0).cells (k * 1)).toList := by
        rw [show (Value.int IntKind.u8 0).cells = #[.int .u8 0] from rfl, toList_madeCells_one]
        simp [rowAt, cellsOf]
      rw [e]; exact hown
    clear hown hgrow hi hz0 hz1 hz2 i0
    go_loopw [6, 25] (fun _ i wr => ∃ j : Nat, j ≤ k ∧ i = .int .i64 j ∧ wr.ownsRow w.heap.size 5 1 (Value.slice (some ⟨w.heap.size, 0, none⟩) k k) k (rowAt k j n) ∧ Below w.heap.size w wr) (fun _ i _ => k - (intOf i).toNat)
    case atStart => exact ⟨0, by omega, rfl, hown0, hbel1⟩
    case round =>
      clear hown0 hbel1
      obtain ⟨j, hj, rfl, hown, hbel⟩ := hrel
      by_cases hlt : j < k
      · have hcell := hown.cellAt j (by omega)
        have hfree := hown.frozenAt j
        rw [row_next k j n hlt] at hcell
        have HR := Lib.hid (row_store k j n hlt)
        have R := Lib.hid (hown.stored j (.int .u8 (n / 2 ^ (8 * (k - 1 - j)) % 256)))
        have h1j : 0 ≤ (k : Int) - 1 - j := by omega
        clear hown
        go_wp2
        go_roundw
        case rel => exact ⟨j + 1, by omega, by go_num, by rw [← HR.out]; exact R.out.1, hbel.setCell (Nat.le_refl _) _⟩
        case measure => simp [intOf]; omega
      · obtain rfl : j = k := by omega
        have kc := conv_own wr w.heap.size _ j (fx j n) (fx_len j n).symm (by rw [row_end] at hown; exact hown)
        clear hown
        go_wp2
        go_ret
        exact ⟨ret_str Hq.out.symm, hbel⟩
  · have Hq := Lib.hid (fixS_no hq)
    have ht : (n / 2 ^ (8 * k) != 0) = true := by rw [e8]; simpa using hq
    clear hq e8
    go_enter Tryd.func11, Tryd.ntmps11
    go_wp2
    go_ret
    exact ⟨ret_str Hq.out.symm, Below.refl _ _⟩

theorem out (n k : Int) (w : World) (h : n < 0 ∨ k < 1 ∨ 7 < k) :
    Calls Tryd.prog 11 #[.int .i64 n, .int .i64 k] w fun e w' => e = .returned (.string ⟨#[]⟩) ∧ Below w.heap.size w w' := by
  by_cases h1 : k < 1
  · clear h
    go_enter Tryd.func11, Tryd.ntmps11
    go_wp2
    go_ret
    exact ⟨rfl, Below.refl _ _⟩
  · by_cases h7 : 7 < k
    · clear h
      go_enter Tryd.func11, Tryd.ntmps11
      go_wp2
      go_ret
      exact ⟨rfl, Below.refl _ _⟩
    · have hn : n < 0 := by omega
      clear h
      go_enter Tryd.func11, Tryd.ntmps11
      go_wp2
      go_ret
      exact ⟨rfl, Below.refl _ _⟩
end Go.Proofs.YtjphfigfmbgmkaaDoor.fixed
