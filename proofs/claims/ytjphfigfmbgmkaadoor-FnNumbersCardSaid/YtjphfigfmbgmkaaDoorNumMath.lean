/-
  What each encoder of chapter 1 writes is read back by its decoder, whatever follows: plain facts on the functions that the contracts speak of.
-/
import Derived.Test.YtjphfigfmbgmkaaDoorVarC
import Derived.Test.YtjphfigfmbgmkaaDoorReadVarC
import Derived.Test.YtjphfigfmbgmkaaDoorFixedC
import Derived.Test.YtjphfigfmbgmkaaDoorReadFixedC
import Derived.Test.YtjphfigfmbgmkaaDoorHexC
import Derived.Test.YtjphfigfmbgmkaaDoorUnhexC
import Derived.Test.YtjphfigfmbgmkaaDoorDecMath
import Derived.Lib.Strings
namespace Go.Proofs.YtjphfigfmbgmkaaDoor.num
open Go.RowKit

/-! ### Varints -/
theorem vr_len : ∀ (f : Nat) (n : Int) (k : Nat), n < 128 ^ (k + 1) → (var.vr f n).length ≤ k + 1
  | 0, n, k, h => by simp [var.vr]
  | f + 1, n, k, h => by
    unfold var.vr
    split
    · simp
    · cases k with
      | zero => simp at h; omega
      | succ k =>
        rw [Int.pow_succ] at h
        have := vr_len f (n / 128) k (Int.ediv_lt_of_lt_mul (by omega) h)
        simp
        omega

theorem vr_pos (f : Nat) (n : Int) : 1 ≤ (var.vr f n).length := by
  cases f with
  | zero => simp [var.vr]
  | succ f =>
    unfold var.vr
    split <;> simp

theorem lo_vr : ∀ (f : Nat) (n : Int), 0 ≤ n → n < 128 ^ (f + 1) → readVar.lo (var.vr f n) = n
  | 0, n, h0, h1 => by
    simp [var.vr, readVar.lo]
    omega
  | f + 1, n, h0, h1 => by
    unfold var.vr
    split
    · simp [readVar.lo]
      omega
    · rw [Int.pow_succ] at h1
      have := lo_vr f (n / 128) (by omega) (Int.ediv_lt_of_lt_mul (by omega) h1)
      simp only [readVar.lo]
      rw [this]
      have e : ((UInt8.ofNat (n % 128 + 128).toNat).toNat : Int) = n % 128 + 128 := by simp; omega
      rw [e]
      omega

theorem varS_in {n : Int} (h : 0 ≤ n ∧ n ≤ 562949953421311) : var.varS n = ⟨(var.vr 9 n).toArray⟩ := by simp [var.varS, h]
theorem varS_out {n : Int} (h : ¬ (0 ≤ n ∧ n ≤ 562949953421311)) : var.varS n = ⟨#[]⟩ := by simp only [var.varS, if_neg h]

theorem cat_data (a b : ByteArray) : (a ++ b).data.toList = a.data.toList ++ b.data.toList := by simp

/-- WHAT Var WROTE IS READ, whatever follows. -/
theorem read_var {n : Int} (h : 0 ≤ n ∧ n ≤ 562949953421311) (t : ByteArray) {x k : Int} (ha : readVar.Ans (var.varS n ++ t) x k) : x = n ∧ k = (var.varS n).size := by
  have hl := vr_len 9 n 6 (by omega)
  have hp := vr_pos 9 n
  have es : (var.varS n).size = (var.vr 9 n).length := by rw [varS_in h]; exact size_of_list _
  have htake : (var.varS n ++ t).data.toList.take (var.vr 9 n).length = var.vr 9 n := by
    rw [cat_data, varS_in h]
    simp
  have hlo := lo_vr 9 n h.1 (by omega)
  have hg : readVar.Good (var.varS n ++ t) (var.vr 9 n).length := by
    unfold readVar.Good
    rw [htake, hlo, varS_in h]
  have hans : readVar.Ans (var.varS n ++ t) n (var.varS n).size := by
    refine .inl ⟨(var.vr 9 n).length, hp, by omega, ?_, hg, by rw [htake, hlo], by rw [es]⟩
    rw [ByteArray.size_append, es]
    omega
  exact readVar.ans_one ha hans

/-! ### Fixed -/
theorem fx_snoc (n : Int) : ∀ k, fixed.fx (k + 1) n = fixed.fx k (n / 256) ++ [fixed.bt n]
  | 0 => by simp [fixed.fx]
  | k + 1 => by
    have e : n / 256 ^ (k + 1) = n / 256 / 256 ^ k := by
      rw [Int.ediv_ediv_of_nonneg (by omega), Int.pow_succ, Int.mul_comm]
    rw [fixed.fx, fx_snoc n k, e]
    simp [fixed.fx]

theorem be_fx : ∀ (k : Nat) (n : Int), 0 ≤ n → n < 256 ^ k → readFixed.be (fixed.fx k n) = n
  | 0, n, h0, h1 => by
    simp [fixed.fx, readFixed.be]
    simp at h1
    omega
  | k + 1, n, h0, h1 => by
    rw [Int.pow_succ] at h1
    rw [fx_snoc, readFixed.be_snoc, be_fx k (n / 256) (by omega) (Int.ediv_lt_of_lt_mul (by omega) h1)]
    have e : ((fixed.bt n).toNat : Int) = n % 256 := by unfold fixed.bt; simp; omega
    rw [e]
    omega

theorem fix_in {n : Int} (h0 : 0 ≤ n) (h1 : n < 72057594037927936) : fixed.fixS 7 n = ⟨(fixed.fx 7 n).toArray⟩ :=
  fixed.fixS_yes (by rw [show (256 : Int) ^ 7 = 72057594037927936 by decide]; omega)
theorem fix_out {n : Int} (h1 : 72057594037927936 ≤ n) : fixed.fixS 7 n = ⟨#[]⟩ :=
  fixed.fixS_no (by rw [show (256 : Int) ^ 7 = 72057594037927936 by decide]; omega)
theorem fix_size {n : Int} (h0 : 0 ≤ n) (h1 : n < 72057594037927936) : (fixed.fixS 7 n).size = 7 := by
  rw [fix_in h0 h1, size_of_list, fixed.fx_len]
theorem read_fix {n : Int} (h0 : 0 ≤ n) (h1 : n < 72057594037927936) (t : ByteArray) : readFixed.be ((fixed.fixS 7 n ++ t).data.toList.take 7) = n := by
  have : (fixed.fixS 7 n ++ t).data.toList.take 7 = fixed.fx 7 n := by
    rw [cat_data, fix_in h0 h1]
    rw [List.take_append_of_le_length (by simp [fixed.fx_len])]
    rw [List.take_of_length_le (by simp [fixed.fx_len])]
  rw [this]
  exact be_fx 7 n h0 (by rw [show (256 : Int) ^ 7 = 72057594037927936 by decide]; exact h1)

/-! ### Dec -/
theorem read_dec (n : Int) {d : Int} {b : Bool} (ha : decm.Ans (Lib.itoa n) d b) : (n.natAbs < 1000000000 ∧ d = n ∧ b = true) ∨ (¬ n.natAbs < 1000000000 ∧ d = 0 ∧ b = false) := by
  by_cases h : n.natAbs < 1000000000
  · have := decm.ans_one ha (.inl ⟨h, rfl, rfl⟩)
    exact .inl ⟨h, this⟩
  · refine .inr ⟨h, ?_⟩
    exact decm.ans_one ha (.inr ⟨fun m hm e => h (by rw [← decm.itoa_inj e]; exact hm), rfl, rfl⟩)

/-! ### Hex -/
theorem hx_get : ∀ (l : List UInt8) (j : Nat), j < l.length → (hex.hx l).getD (2 * j) 0 = hex.dg ((l.getD j 0).toNat / 16) ∧ (hex.hx l).getD (2 * j + 1) 0 = hex.dg ((l.getD j 0).toNat % 16)
  | [], j, h => by simp at h
  | b :: l, 0, h => by simp [hex.hx]
  | b :: l, j + 1, h => by
    have := hx_get l j (by simpa using h)
    rw [show 2 * (j + 1) = 2 * j + 1 + 1 by omega, show 2 * j + 1 + 1 + 1 = (2 * j + 1) + 1 + 1 by omega]
    simpa [hex.hx] using this

theorem dg_fh : ∀ k, k < 16 → unhex.fh (hex.dg k) = (k : Int) := by decide +kernel

theorem byte_back (b : UInt8) : UInt8.ofNat (16 * ((b.toNat / 16 : Nat) : Int) + ((b.toNat % 16 : Nat) : Int)).toNat = b := by
  rw [show (16 * ((b.toNat / 16 : Nat) : Int) + ((b.toNat % 16 : Nat) : Int)).toNat = b.toNat by omega]
  simp

theorem pre_hx (l : List UInt8) : ∀ j, j ≤ l.length → unhex.pre ⟨(hex.hx l).toArray⟩ j = some (l.take j)
  | 0, _ => rfl
  | j + 1, h => by
    obtain ⟨h1, h2⟩ := hx_get l j (by omega)
    have hb := (l.getD j 0).toNat_lt
    unfold unhex.pre
    rw [pre_hx l j (by omega)]
    simp only
    rw [h1, h2, dg_fh _ (by omega), dg_fh _ (by omega), if_neg (by omega), List.take_succ_eq_append_getElem (by omega)]
    congr 3
    have e : l[j] = l.getD j 0 := by rw [List.getD_eq_getElem?_getD, List.getElem?_eq_getElem (by omega)]; rfl
    rw [e]
    exact byte_back _

theorem read_hex (t : ByteArray) : unhex.unS ⟨(hex.hx t.data.toList).toArray⟩ = some t.data.toList := by
  have hs : (⟨(hex.hx t.data.toList).toArray⟩ : ByteArray).size = 2 * t.data.toList.length := by rw [size_of_list, hex.hx_len]
  rw [unhex.unS_even _ (by omega), hs, show 2 * t.data.toList.length / 2 = t.data.toList.length by omega, pre_hx _ _ (Nat.le_refl _), List.take_of_length_le (Nat.le_refl _)]
end Go.Proofs.YtjphfigfmbgmkaaDoor.num
