/-
  impl.ReadVar at every string: a contract ('impl_any'); what it answers ('Ans').
-/
import Derived.Test.YtjphfigfmbgmkaaDoorRows
import Derived.Test.YtjphfigfmbgmkaaDoorBase
import Derived.Test.YtjphfigfmbgmkaaDoorBytes
import Derived.Test.YtjphfigfmbgmkaaDoorVarC
import Derived.WalkKit
import Derived.ProofKit
import Derived.OpenShut
import Derived.ShutString
import Derived.ChangeOld
import Derived.Below
import Derived.WalkSpells
import Derived.WalkLawsBesides
import Derived.RegionTactic
import Derived.Lib.Strings
import Derived.IntWalk
import Derived.Deep.RegionWith
namespace Go.Proofs.YtjphfigfmbgmkaaDoor.readVar
open Go.ChangeShapes Go.WideShapes Go.ChangeAt Go.RowKit
open Go.ChangeMaps (open_string shut_string)
set_option linter.unusedVariables false

theorem i64_join' (i : Nat) (x y : Int) (hx₀ : 0 ≤ x) (hx : x % 2 ^ i = 0) (hx₁ : x < 9223372036854775808) (h₀ : 0 ≤ y) (h₁ : y < 2 ^ i) (h₂ : y < 9223372036854775808) : bits .or .i64 y x = y + x := by
  have hc : bits .or .i64 y x = bits .or .i64 x y := by simp only [bits, BitVec.or_comm]
  rw [hc, i64_join i x y hx₀ hx hx₁ h₀ h₁ h₂, Int.add_comm]

/-- The number of the low seven bits of each byte, the first the lowest. -/
def lo : List UInt8 → Int
  | [] => 0
  | b :: l => (b.toNat : Int) % 128 + 128 * lo l

theorem lo_bd : ∀ l : List UInt8, 0 ≤ lo l ∧ lo l < (128 : Int) ^ l.length
  | [] => by simp [lo]
  | b :: l => by
    have := lo_bd l
    simp only [lo, List.length_cons, Int.pow_succ]
    omega

theorem lo_snoc : ∀ (l : List UInt8) (b : UInt8), lo (l ++ [b]) = lo l + 128 ^ l.length * ((b.toNat : Int) % 128)
  | [], b => by simp [lo]
  | a :: l, b => by
    have := lo_snoc l b
    simp only [lo, List.cons_append, List.length_cons, Int.pow_succ]
    rw [this, Int.mul_add, Int.mul_comm (128 ^ l.length) 128, Int.mul_assoc]
    omega

theorem pow_small (k : Nat) (h : k ≤ 7) : (128 : Int) ^ k ≤ 562949953421312 := by
  have h5 : (128 : Nat) ^ k ≤ 128 ^ 7 := Nat.pow_le_pow_right (by omega) h
  have h6 : (128 : Nat) ^ 7 = 562949953421312 := by decide
  have h7 : (128 : Int) ^ k = ((128 ^ k : Nat) : Int) := by simp
  omega

theorem lo_small (l : List UInt8) (k : Nat) (h : k ≤ 7) : 0 ≤ lo (l.take k) ∧ lo (l.take k) ≤ 562949953421311 := by
  have := lo_bd (l.take k)
  have := pow_small (l.take k).length (by simp; omega)
  omega

/-- Do the first k bytes spell a number as Var spells it? -/
def Good (s : ByteArray) (k : Nat) : Prop := var.varS (lo (s.data.toList.take k)) = ⟨(s.data.toList.take k).toArray⟩

/-- What ReadVar answers. -/
def Ans (s : ByteArray) (n k : Int) : Prop :=
  (∃ K : Nat, 1 ≤ K ∧ K ≤ 7 ∧ K ≤ s.size ∧ Good s K ∧ n = lo (s.data.toList.take K) ∧ k = K) ∨ ((∀ K : Nat, 1 ≤ K → K ≤ 7 → K ≤ s.size → ¬ Good s K) ∧ n = 0 ∧ k = 0)

/-- A varint's bytes: all but the last from 128 on, the last below. -/
def Shape (l : List UInt8) : Prop := ∃ a b, l = a ++ [b] ∧ b.toNat < 128 ∧ ∀ x ∈ a, 128 ≤ x.toNat

theorem vr_shape : ∀ (f : Nat) (n : Int), 0 ≤ n → n < 128 ^ (f + 1) → Shape (var.vr f n)
  | 0, n, h0, h1 => ⟨[], _, rfl, by simp; omega, by simp⟩
  | f + 1, n, h0, h1 => by
    unfold var.vr
    by_cases h : n < 128
    · rw [if_pos h]
      exact ⟨[], _, rfl, by simp; omega, by simp⟩
    · rw [if_neg h]
      rw [Int.pow_succ] at h1
      obtain ⟨a, b, e, hb, ha⟩ := vr_shape f (n / 128) (by omega) (Int.ediv_lt_of_lt_mul (by omega) h1)
      refine ⟨_ :: a, b, by rw [e]; rfl, hb, ?_⟩
      intro x hx
      rcases List.mem_cons.1 hx with rfl | hx
      · simp; omega
      · exact ha x hx

theorem good_shape {s : ByteArray} {k : Nat} (h7 : k ≤ 7) (h : Good s k) : Shape (s.data.toList.take k) := by
  unfold Good var.varS at h
  have hb := lo_small s.data.toList k h7
  rw [if_pos ⟨hb.1, hb.2⟩] at h
  have e : var.vr 9 (lo (s.data.toList.take k)) = s.data.toList.take k := by
    have := congrArg (fun b : ByteArray => b.data.toList) h
    simpa using this
  rw [← e]
  exact vr_shape 9 _ hb.1 (by omega)

theorem good_last {s : ByteArray} {k : Nat} (h1 : 1 ≤ k) (h7 : k ≤ 7) (hk : k ≤ s.size) (h : Good s k) : (s[k - 1]'(by omega)).toNat < 128 := by
  obtain ⟨a, b, e, hb, ha⟩ := good_shape h7 h
  have hs : s.data.toList.take k = s.data.toList.take (k - 1) ++ [s[k - 1]'(by omega)] := by
    have := take_snoc s (k - 1) (by omega)
    rwa [show k - 1 + 1 = k by omega] at this
  rw [hs] at e
  have := (List.append_inj' e rfl).2
  simp at this
  rw [this]
  exact hb

theorem good_before {s : ByteArray} {k i : Nat} (h1 : 1 ≤ k) (h7 : k ≤ 7) (hk : k ≤ s.size) (h : Good s k) (hi : i < k - 1) : 128 ≤ (s[i]'(by omega)).toNat := by
  obtain ⟨a, b, e, hb, ha⟩ := good_shape h7 h
  have hl : a.length = k - 1 := by
    have := congrArg List.length e
    simp at this
    have : s.data.size = s.size := rfl
    omega
  refine ha _ ?_
  have h2 : (s.data.toList.take k)[i]? = a[i]? := by rw [e, List.getElem?_append_left (by omega)]
  have h3 : (s.data.toList.take k)[i]? = some (s[i]'(by omega)) := by
    rw [List.getElem?_take, if_pos (by omega)]
    have : i < s.data.size := by have : s.data.size = s.size := rfl; omega
    simp
    exact Array.getElem?_eq_getElem this
  rw [h3] at h2
  exact List.mem_of_getElem? h2.symm

theorem ans_one {s : ByteArray} {n k n' k' : Int} (h : Ans s n k) (h' : Ans s n' k') : n = n' ∧ k = k' := by
  rcases h with ⟨K, a1, a2, a3, a4, rfl, rfl⟩ | ⟨a, rfl, rfl⟩
  · rcases h' with ⟨K', b1, b2, b3, b4, rfl, rfl⟩ | ⟨b, rfl, rfl⟩
    · have : K = K' := by
        rcases Nat.lt_trichotomy K K' with h | h | h
        · have h1 := good_last a1 a2 a3 a4
          have h2 := good_before b1 b2 b3 b4 (i := K - 1) (by omega)
          omega
        · exact h
        · have h1 := good_last b1 b2 b3 b4
          have h2 := good_before a1 a2 a3 a4 (i := K' - 1) (by omega)
          omega
      subst this
      exact ⟨rfl, rfl⟩
    · exact absurd a4 (b K a1 a2 a3)
  · rcases h' with ⟨K', b1, b2, b3, b4, rfl, rfl⟩ | ⟨b, rfl, rfl⟩
    · exact absurd b4 (a K' b1 b2 b3)
    · exact ⟨rfl, rfl⟩

/-- A result that Ans allows. -/
def SomeAns (s : ByteArray) (w : World) (e : Ending) (w' : World) : Prop := ∃ n k : Int, Ans s n k ∧ e = .returned (.tuple #[.int .i64 n, .int .i64 k]) ∧ Below w.heap.size w w'

/-! ### The model -/

/-- The inner loop: behind i rounds n says bytes k - i .. k - 1. -/
def mid (s : ByteArray) (k i : Nat) : Int := lo ((s.data.toList.take k).drop i)

theorem good_test (s : ByteArray) (K : Nat) : ((var.varS (mid s K 0)).toList == (s.extract 0 K).toList) = true ↔ Good s K := by
  have e : mid s K 0 = lo (s.data.toList.take K) := by simp [mid]
  have e2 : (s.extract 0 K).data.toList = s.data.toList.take K := by rw [Lib.extract_data]; simp
  rw [e, beq_iff_eq, ByteArray.toList_eq, ByteArray.toList_eq, e2]
  unfold Good
  constructor
  · intro h
    exact bytes_inj (by simpa using h)
  · intro h
    rw [h]

/-! ### The program -/

theorem good_test' (s : ByteArray) (K : Nat) : ((var.varS (lo (s.data.toList.take K))).toList == (s.extract 0 K).toList) = true ↔ Good s K := by
  have := good_test s K
  rwa [show mid s K 0 = lo (s.data.toList.take K) by simp [mid]] at this

theorem size_ext (s : ByteArray) (k : Nat) (h : k ≤ s.size) : (s.extract 0 k).size = k := by
  simp
  omega

theorem lo_next (s : ByteArray) (I : Nat) (h7 : I < 7) (hs : I < s.size) :
    bits .or .i64 (lo (s.data.toList.take I)) (wrap64 ((s[I].toNat : Int) % 128 * 2 ^ (7 * I))) = lo (s.data.toList.take (I + 1)) := by
  have hd : s.data.size = s.size := rfl
  have hl : (s.data.toList.take I).length = I := by simp; omega
  have hb := lo_bd (s.data.toList.take I)
  rw [hl] at hb
  rw [take_snoc s I hs, lo_snoc, hl]
  have e7 : (2 : Int) ^ (7 * I) = 128 ^ I := by rw [Int.pow_mul]; rfl
  have hp := pow_small I (by omega)
  have hp' : (128 : Int) ^ (I + 1) ≤ 562949953421312 := pow_small (I + 1) (by omega)
  rw [Int.pow_succ] at hp'
  have hp0 : (0 : Int) < 128 ^ I := Int.pow_pos (by omega)
  have hx0 : 0 ≤ (s[I].toNat : Int) % 128 * 128 ^ I := Int.mul_nonneg (by omega) (by omega)
  have hx1 : (s[I].toNat : Int) % 128 * 128 ^ I ≤ 127 * 128 ^ I := Int.mul_le_mul_of_nonneg_right (by omega) (by omega)
  rw [e7, IntWalk.wrap64_in _ ⟨by omega, by omega⟩]
  rw [i64_join' (7 * I) _ _ hx0 (by rw [e7]; simp) (by omega) hb.1 (by rw [e7]; exact hb.2) (by omega), Int.mul_comm]

/-- The byte that ends a varint ends every other: nothing longer is one. -/
theorem no_after (s : ByteArray) (I : Nat) (h7 : I < 7) (hs : I < s.size) (hb : s[I].toNat < 128) (hg : ¬ Good s (I + 1)) (hno : ∀ j : Nat, 1 ≤ j → j ≤ I → j ≤ s.size → ¬ Good s j) :
    ∀ j : Nat, 1 ≤ j → j ≤ 7 → j ≤ s.size → ¬ Good s j := by
  intro j h1 h2 h3 h4
  rcases Nat.lt_trichotomy j (I + 1) with h | h | h
  · exact hno j h1 (by omega) h3 h4
  · subst h
    exact hg h4
  · have := good_before h1 h2 h3 h4 (i := I) (by omega)
    omega

theorem shortest_any (n : Int) (s : ByteArray) (w : World) (b : Bool) (hb : ((var.varS n).toList == s.toList) = b) (hs : s.size ≤ maxLen) :
    Calls Tryd.prog 23 #[.int .i64 n, .string s] w fun e w' => e = .returned (.tuple #[.int .i64 (if b then n else 0), .int .i64 (if b then s.size else 0)]) ∧ Below w.heap.size w w' := by
  unfold maxLen at hs
  cases b with
  | true =>
    go_enter Tryd.func23, Tryd.ntmps23
    go_wp2_with (go_at_call 9; refine (var.any _ _ _ (.inr rfl)).mono ?_; rintro e w1 ⟨rfl, b1⟩)
    go_ret2
    exact ⟨rfl, by assumption⟩
  | false =>
    go_enter Tryd.func23, Tryd.ntmps23
    go_wp2_with (go_at_call 9; refine (var.any _ _ _ (.inr rfl)).mono ?_; rintro e w1 ⟨rfl, b1⟩)
    go_ret2
    exact ⟨rfl, by assumption⟩

/-- The loop's relation: every byte so far says that one more follows. -/
def Rel (s : ByteArray) (n i : Value) : Prop :=
  ∃ I : Nat, I ≤ 7 ∧ I ≤ s.size ∧ i = .int .i64 I ∧ n = .int .i64 (lo (s.data.toList.take I)) ∧ ∀ j : Nat, 1 ≤ j → j ≤ I → j ≤ s.size → ¬ Good s j

set_option maxRecDepth 100000 in
set_option maxHeartbeats 400000 in
theorem impl_any (s : ByteArray) (w : World) (hs : s.size ≤ maxLen) :
    Calls Tryd.prog 10 #[.string s] w (SomeAns s w) := by
  unfold maxLen at hs
  go_enter Tryd.func10, Tryd.ntmps10
  go_wp2
  all_goals
    go_loop [4, 5, 9] (fun n _ i => Rel s n i) (fun _ _ i => (7 - intOf i).toNat)
    case atStart => exact ⟨0, by omega, by omega, rfl, rfl, fun j h1 h2 => by omega⟩
    case round =>
      obtain ⟨I, hI7, hIs, rfl, rfl, hno⟩ := hrel
      have HN := Lib.hid hno
      clear hno
      by_cases hlt : I < 7 ∧ I < s.size
      · obtain ⟨hl7, hls⟩ := hlt
        have hlsI : (I : Int) < s.size := by omega
        have hlo := lo_small s.data.toList I (by omega)
        have hc := s[I].toNat_lt
        by_cases hb : s[I].toNat < 128
        · by_cases hg : Good s (I + 1)
          · have ht := Lib.hid ((good_test' s (I + 1)).2 hg)
            have HA := Lib.hid (show Ans s (lo (s.data.toList.take (I + 1))) ((min (I + 1) s.size : Nat) : Int) from .inl ⟨I + 1, by omega, by omega, by omega, hg, rfl, by rw [Nat.min_eq_left (by omega)]⟩)
            have HL := Lib.hid (lo_next s I hl7 hls)
            have hx : (s.extract 0 (I + 1)).size ≤ maxLen := by rw [size_ext s (I + 1) (by omega)]; unfold maxLen; omega
            clear hg
            go_wp2_with fail
            rw [HL.out]
            refine (shortest_any _ _ _ _ ht.out hx).mono ?_
            rintro e w1 ⟨rfl, b1⟩
            go_wp2
            go_ret2
            exact ⟨_, _, HA.out, rfl, b1⟩
          · have ht := Lib.hid (show ((var.varS (lo (s.data.toList.take (I + 1)))).toList == (s.extract 0 (I + 1)).toList) = false by
              rw [Bool.eq_false_iff]
              exact fun h => hg ((good_test' s (I + 1)).1 h))
            have HA := Lib.hid (show Ans s 0 0 from .inr ⟨no_after s I hl7 hls hb hg HN.out, rfl, rfl⟩)
            have HL := Lib.hid (lo_next s I hl7 hls)
            have hx : (s.extract 0 (I + 1)).size ≤ maxLen := by rw [size_ext s (I + 1) (by omega)]; unfold maxLen; omega
            clear hg
            go_wp2_with fail
            rw [HL.out]
            refine (shortest_any _ _ _ _ ht.out hx).mono ?_
            rintro e w1 ⟨rfl, b1⟩
            go_wp2
            go_ret2
            exact ⟨_, _, HA.out, rfl, b1⟩
        · have HN2 := Lib.hid (show ∀ j : Nat, 1 ≤ j → j ≤ I + 1 → j ≤ s.size → ¬ Good s j from fun j h1 h2 h3 hg => if h : j = I + 1 then by subst h; exact hb (good_last (by omega) (by omega) h3 hg) else HN.out j h1 (by omega) h3 hg)
          have HL := Lib.hid (lo_next s I hl7 hls)
          go_wp2
          go_round
          case rel => exact ⟨I + 1, by omega, by omega, by go_num, by rw [HL.out], HN2.out⟩
          case measure => simp [intOf]; omega
      · have HA := Lib.hid (show Ans s 0 0 from .inr ⟨fun j h1 h2 h3 => HN.out j h1 (by omega) h3, rfl, rfl⟩)
        first | (have : ¬ (I : Int) < 7 := by omega) | (have : ¬ (I : Int) < s.size := by omega)
        clear hlt
        go_wp2
        go_ret2
        exact ⟨0, 0, HA.out, rfl, Below.refl _ _⟩

end Go.Proofs.YtjphfigfmbgmkaaDoor.readVar
