/-
  The model's spec.Dec answers the decimal numeral of every int (the library's 'Lib.itoa'). A contract: 'spec_any'.
-/
import Derived.Test.YtjphfigfmbgmkaaDoorRows
import Derived.Test.YtjphfigfmbgmkaaDoorBase
import Derived.Test.YtjphfigfmbgmkaaDoorBytes
import Derived.WalkKit
import Derived.ProofKit
import Derived.OpenShut
import Derived.ShutString
import Derived.ChangeOld
import Derived.Below
import Derived.WalkSpells
import Derived.WalkLawsBesides
import Derived.Laws.IdiomStrings
import Derived.Lib.ItoaMem
import Derived.Lib.ItoaLen
namespace Go.Proofs.YtjphfigfmbgmkaaDoor.dec
open Go.ChangeShapes Go.WideShapes Go.ChangeAt Go.RowKit
open Go.ChangeMaps (open_string shut_string)
set_option linter.unusedVariables false

/-- The digits of what is left; none of 0. -/
def left (v : Nat) : List UInt8 := if v = 0 then [] else Lib.decDigits v

theorem left_step (v : Nat) (h : v ≠ 0) : left v = left (v / 10) ++ [UInt8.ofNat (48 + v % 10)] := by
  unfold left
  rw [if_neg h]
  by_cases h10 : v < 10
  · rw [if_pos (by omega), Lib.decDigits, dif_pos h10, Nat.mod_eq_of_lt h10]
    rfl
  · rw [if_neg (by omega), Lib.decDigits, dif_neg h10]

/-- What the loop holds: l has been written, v is left. -/
def Mid (u v : Nat) (l : List UInt8) : Prop := left v ++ l = Lib.decDigits u ∧ v ≤ u

theorem mid_start (u : Nat) (h : u ≠ 0) : Mid u u [] := ⟨by simp [left, h], Nat.le_refl _⟩
theorem mid_step {u v : Nat} {l : List UInt8} (h : Mid u v l) (hv : v ≠ 0) : Mid u (v / 10) (UInt8.ofNat (48 + v % 10) :: l) :=
  ⟨by rw [← h.1, left_step v hv]; simp, by have := h.2; omega⟩
theorem mid_end {u : Nat} {l : List UInt8} (h : Mid u 0 l) : l = Lib.decDigits u := by
  have := h.1
  simpa [left] using this
theorem mid_len {u v : Nat} {l : List UInt8} (h : Mid u v l) (hu : u < 18446744073709551616) : l.length ≤ 20 := by
  have h1 := congrArg List.length h.1
  rw [List.length_append, Lib.decDigits_length] at h1
  have := Lib.nDigits_le20 u hu
  omega

theorem ret_str {a b : ByteArray} (h : a = b) : Ending.returned (.string a) = .returned (.string b) := by rw [h]
/-- The byte of a number. -/
def dgt (x : Int) : UInt8 := UInt8.ofNat x.toNat
theorem conv_dgt (w : World) (x : Int) (h0 : 0 ≤ x) (h1 : x < 256) :
    (convert 22 9 (.slice (some ⟨w.heap.size, 0, none⟩) 1 1)).run Tryd.prog (w.alloc (.cells #[.int .u8 x] 5)) = .ok (.string ⟨#[dgt x]⟩) (w.alloc (.cells #[.int .u8 x] 5)) := conv_one w x h0 h1
theorem cat_one (x : Int) (y : Nat) (l : List UInt8) (h : x = y) : (⟨#[dgt x]⟩ : ByteArray) ++ ⟨l.toArray⟩ = ⟨(UInt8.ofNat y :: l).toArray⟩ := by
  subst h
  apply ByteArray.ext
  simp [dgt]

/-- The loop's relation, n not negative. -/
def Rel (u : Nat) (w : World) (m o : Value) (wr : World) : Prop := ∃ (v : Nat) (l : List UInt8), m = .int .i64 v ∧ o = .string ⟨l.toArray⟩ ∧ Mid u v l ∧ Below w.heap.size w wr
/-- .. n negative. -/
def RelN (u : Nat) (w : World) (m o : Value) (wr : World) : Prop := ∃ (v : Nat) (l : List UInt8), m = .int .i64 (-(v : Int)) ∧ o = .string ⟨l.toArray⟩ ∧ Mid u v l ∧ Below w.heap.size w wr

set_option maxHeartbeats 400000 in
theorem spec_pos (u : Nat) (w : World) (h0 : 0 < u) (h1 : u ≤ 9223372036854775807) :
    Calls Tryd.prog 18 #[.int .i64 u] w fun e w' => e = .returned (.string ⟨(Lib.decDigits u).toArray⟩) ∧ Below w.heap.size w w' := by
  have hz : ((u : Int) == 0) = false := by rw [beq_eq_false_iff_ne]; omega
  have hneg : decide ((u : Int) < 0) = false := by simp
  go_enter Tryd.func18, Tryd.ntmps18
  go_wp2
  go_loopw [0, 3, 5] (fun m o _ wr => Rel u w m o wr) (fun m _ _ _ => (intOf m).toNat)
  case atStart => exact ⟨u, [], rfl, rfl, mid_start u (by omega), Below.refl _ _⟩
  case round =>
    obtain ⟨v, l, rfl, rfl, hm, hbel⟩ := hrel
    have hvu := hm.2
    have hl := mid_len hm (by omega)
    by_cases hv : v = 0
    · subst hv
      have HE := Lib.hid (mid_end hm)
      clear hm
      go_wp2
      go_ret
      exact ⟨ret_str (by rw [HE.out]), hbel⟩
    · have HM := Lib.hid (mid_step hm hv)
      have hv0 : (0 : Int) < (v : Int) := by omega
      have hvt : ((v : Int) != 0) = true := by rw [bne_iff_ne]; omega
      have kc := conv_dgt wr (48 + (v : Int) % 10) (by omega) (by omega)
      have HC := Lib.hid (cat_one (48 + (v : Int) % 10) (48 + v % 10) l (by omega))
      have ka := fun w => run_string_add_sum (P := Tryd.prog) (w := w) ⟨#[dgt (48 + (v : Int) % 10)]⟩ ⟨l.toArray⟩ (by simp [ByteArray.size]; omega)
      clear hm hv
      go_wp2
      go_roundw
      case rel => exact ⟨v / 10, _, by go_num, by rw [HC.out], HM.out, hbel.alloc hbel.size _⟩
      case measure => simp [intOf]; omega

set_option maxHeartbeats 400000 in
theorem spec_neg (u : Nat) (w : World) (h0 : 0 < u) (h1 : u ≤ 9223372036854775808) :
    Calls Tryd.prog 18 #[.int .i64 (-(u : Int))] w fun e w' => e = .returned (.string ⟨(45 :: Lib.decDigits u).toArray⟩) ∧ Below w.heap.size w w' := by
  have hz : (-(u : Int) == 0) = false := by rw [beq_eq_false_iff_ne]; omega
  have hneg : decide (-(u : Int) < 0) = true := by simp; omega
  go_enter Tryd.func18, Tryd.ntmps18
  go_wp2
  go_loopw [0, 3, 5] (fun m o _ wr => RelN u w m o wr) (fun m _ _ _ => (- intOf m).toNat)
  case atStart => exact ⟨u, [], rfl, rfl, mid_start u (by omega), Below.refl _ _⟩
  case round =>
    obtain ⟨v, l, rfl, rfl, hm, hbel⟩ := hrel
    have hvu := hm.2
    have hl := mid_len hm (by omega)
    by_cases hv : v = 0
    · subst hv
      have HE := Lib.hid (mid_end hm)
      have ka := fun w => run_string_add_sum (P := Tryd.prog) (w := w) ⟨#[45]⟩ ⟨l.toArray⟩ (by simp [ByteArray.size]; omega)
      have HC := Lib.hid (show (⟨#[45]⟩ : ByteArray) ++ ⟨l.toArray⟩ = ⟨(45 :: l).toArray⟩ from cat_one 45 45 l rfl)
      clear hm
      go_wp2
      go_ret
      exact ⟨ret_str (by rw [HC.out, HE.out]), hbel⟩
    · have HM := Lib.hid (mid_step hm hv)
      have hv0 : -(v : Int) < 0 := by omega
      have hvt : (-(v : Int) != 0) = true := by rw [bne_iff_ne]; omega
      have kc := conv_dgt wr (48 + (v : Int) % 10) (by omega) (by omega)
      have HC := Lib.hid (cat_one (48 + (v : Int) % 10) (48 + v % 10) l (by omega))
      have ka := fun w => run_string_add_sum (P := Tryd.prog) (w := w) ⟨#[dgt (48 + (v : Int) % 10)]⟩ ⟨l.toArray⟩ (by simp [ByteArray.size]; omega)
      have e1 : (-(v : Int)).tmod 10 = -((v : Int) % 10) := by rw [Int.neg_tmod, Int.tmod_eq_emod_of_nonneg (by omega)]
      have e2 : (-(v : Int)).tdiv 10 = -((v : Int) / 10) := by rw [Int.neg_tdiv, Int.tdiv_eq_ediv_of_nonneg (by omega)]
      clear hm hv
      by_cases hd : (v : Int) % 10 = 0
      · rw [hd, Int.add_zero] at kc ka
        have HD := Lib.hid hd
        rw [hd, Int.neg_zero] at e1
        clear hd
        go_wp2
        go_roundw
        case rel => exact ⟨v / 10, _, by go_num, by rw [← HC.out, HD.out]; rfl, HM.out, hbel.alloc hbel.size _⟩
        case measure => simp [intOf]; omega
      · have hd' : -((v : Int) % 10) < 0 := by omega
        go_wp2
        go_roundw
        case rel => exact ⟨v / 10, _, by go_num, by rw [HC.out], HM.out, hbel.alloc hbel.size _⟩
        case measure => simp [intOf]; omega

theorem spec_zero (w : World) :
    Calls Tryd.prog 18 #[.int .i64 0] w fun e w' => e = .returned (.string ⟨#[48]⟩) ∧ Below w.heap.size w w' := by
  go_enter Tryd.func18, Tryd.ntmps18
  go_wp2
  go_ret
  exact ⟨rfl, Below.refl _ _⟩

theorem spec_any (n : Int) (w : World) (h0 : -9223372036854775808 ≤ n) (h1 : n ≤ 9223372036854775807) :
    Calls Tryd.prog 18 #[.int .i64 n] w fun e w' => e = .returned (.string ⟨(Lib.itoa n).toArray⟩) ∧ Below w.heap.size w w' := by
  rcases Int.lt_trichotomy n 0 with h | h | h
  · obtain ⟨u, rfl⟩ : ∃ u : Nat, n = -(u : Int) := ⟨n.natAbs, by omega⟩
    rw [Lib.itoa_neg u (by omega)]
    exact spec_neg u w (by omega) (by omega)
  · subst h
    have e : Lib.itoa 0 = [48] := by
      rw [show (0 : Int) = ((0 : Nat) : Int) from rfl, Lib.itoa_nonneg, Lib.decDigits]
      rfl
    rw [e]
    exact spec_zero w
  · obtain ⟨u, rfl⟩ : ∃ u : Nat, n = (u : Int) := ⟨n.toNat, by omega⟩
    rw [Lib.itoa_nonneg]
    exact spec_pos u w (by omega) (by omega)
end Go.Proofs.YtjphfigfmbgmkaaDoor.dec
