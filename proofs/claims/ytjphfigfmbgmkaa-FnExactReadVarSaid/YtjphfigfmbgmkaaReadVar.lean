/-
  'laws.FnExactReadVar' returns true at every string, and leaves it as it was: impl.ReadVar and the model spec.ReadVar give the same number and the same length. No condition.
-/
import Derived.Test.YtjphfigfmbgmkaaRows
import Derived.Test.YtjphfigfmbgmkaaBase
import Derived.Test.YtjphfigfmbgmkaaBytes
import Derived.Test.YtjphfigfmbgmkaaVar
import Derived.WalkKit
import Derived.ProofKit
import Derived.OpenShut
import Derived.ShutString
import Derived.ChangeOld
import Derived.Below
import Derived.WalkSpells
import Derived.WalkLawsBesides
import Derived.RegionTactic
import Derived.Lib.Strings
import Derived.IntWalk
import Derived.Deep.RegionWith
namespace Go.Proofs.Ytjphfigfmbgmkaa.readVar
open Go.ChangeShapes Go.WideShapes Go.ChangeAt Go.RowKit
open Go.ChangeMaps (open_string shut_string)
set_option linter.unusedVariables false

theorem i64_join' (i : Nat) (x y : Int) (hx₀ : 0 ≤ x) (hx : x % 2 ^ i = 0) (hx₁ : x < 9223372036854775808) (h₀ : 0 ≤ y) (h₁ : y < 2 ^ i) (h₂ : y < 9223372036854775808) : bits .or .i64 y x = y + x := by
  have hc : bits .or .i64 y x = bits .or .i64 x y := by simp only [bits, BitVec.or_comm]
  rw [hc, i64_join i x y hx₀ hx hx₁ h₀ h₁ h₂, Int.add_comm]

/-- The number of the low seven bits of each byte, the first the lowest. -/
def lo : List UInt8 → Int
  | [] => 0
  | b :: l => (b.toNat : Int) % 128 + 128 * lo l

theorem lo_bd : ∀ l : List UInt8, 0 ≤ lo l ∧ lo l < (128 : Int) ^ l.length
  | [] => by simp [lo]
  | b :: l => by
    have := lo_bd l
    simp only [lo, List.length_cons, Int.pow_succ]
    omega

theorem lo_snoc : ∀ (l : List UInt8) (b : UInt8), lo (l ++ [b]) = lo l + 128 ^ l.length * ((b.toNat : Int) % 128)
  | [], b => by simp [lo]
  | a :: l, b => by
    have := lo_snoc l b
    simp only [lo, List.cons_append, List.length_cons, Int.pow_succ]
    rw [this, Int.mul_add, Int.mul_comm (128 ^ l.length) 128, Int.mul_assoc]
    omega

theorem pow_small (k : Nat) (h : k ≤ 7) : (128 : Int) ^ k ≤ 562949953421312 := by
  have h5 : (128 : Nat) ^ k ≤ 128 ^ 7 := Nat.pow_le_pow_right (by omega) h
  have h6 : (128 : Nat) ^ 7 = 562949953421312 := by decide
  have h7 : (128 : Int) ^ k = ((128 ^ k : Nat) : Int) := by simp
  omega

theorem lo_small (l : List UInt8) (k : Nat) (h : k ≤ 7) : 0 ≤ lo (l.take k) ∧ lo (l.take k) ≤ 562949953421311 := by
  have := lo_bd (l.take k)
  have := pow_small (l.take k).length (by simp; omega)
  omega

/-- Do the first k bytes spell a number as Var spells it? -/
def Good (s : ByteArray) (k : Nat) : Prop := var.varS (lo (s.data.toList.take k)) = ⟨(s.data.toList.take k).toArray⟩

/-- What ReadVar answers. -/
def Ans (s : ByteArray) (n k : Int) : Prop :=
  (∃ K : Nat, 1 ≤ K ∧ K ≤ 7 ∧ K ≤ s.size ∧ Good s K ∧ n = lo (s.data.toList.take K) ∧ k = K) ∨ ((∀ K : Nat, 1 ≤ K → K ≤ 7 → K ≤ s.size → ¬ Good s K) ∧ n = 0 ∧ k = 0)

/-- A varint's bytes: all but the last from 128 on, the last below. -/
def Shape (l : List UInt8) : Prop := ∃ a b, l = a ++ [b] ∧ b.toNat < 128 ∧ ∀ x ∈ a, 128 ≤ x.toNat

theorem vr_shape : ∀ (f : Nat) (n : Int), 0 ≤ n → n < 128 ^ (f + 1) → Shape (var.vr f n)
  | 0, n, h0, h1 => ⟨[], _, rfl, by simp; omega, by simp⟩
  | f + 1, n, h0, h1 => by
    unfold var.vr
    by_cases h : n < 128
    · rw [if_pos h]
      exact ⟨[], _, rfl, by simp; omega, by simp⟩
    · rw [if_neg h]
      rw [Int.pow_succ] at h1
      obtain ⟨a, b, e, hb, ha⟩ := vr_shape f (n / 128) (by omega) (Int.ediv_lt_of_lt_mul (by omega) h1)
      refine ⟨_ :: a, b, by rw [e]; rfl, hb, ?_⟩
      intro x hx
      rcases List.mem_cons.1 hx with rfl | hx
      · simp; omega
      · exact ha x hx

theorem good_shape {s : ByteArray} {k : Nat} (h7 : k ≤ 7) (h : Good s k) : Shape (s.data.toList.take k) := by
  unfold Good var.varS at h
  have hb := lo_small s.data.toList k h7
  rw [if_pos ⟨hb.1, hb.2⟩] at h
  have e : var.vr 9 (lo (s.data.toList.take k)) = s.data.toList.take k := by
    have := congrArg (fun b : ByteArray => b.data.toList) h
    simpa using this
  rw [← e]
  exact vr_shape 9 _ hb.1 (by omega)

theorem good_last {s : ByteArray} {k : Nat} (h1 : 1 ≤ k) (h7 : k ≤ 7) (hk : k ≤ s.size) (h : Good s k) : (s[k - 1]'(by omega)).toNat < 128 := by
  obtain ⟨a, b, e, hb, ha⟩ := good_shape h7 h
  have hs : s.data.toList.take k = s.data.toList.take (k - 1) ++ [s[k - 1]'(by omega)] := by
    have := take_snoc s (k - 1) (by omega)
    rwa [show k - 1 + 1 = k by omega] at this
  rw [hs] at e
  have := (List.append_inj' e rfl).2
  simp at this
  rw [this]
  exact hb

theorem good_before {s : ByteArray} {k i : Nat} (h1 : 1 ≤ k) (h7 : k ≤ 7) (hk : k ≤ s.size) (h : Good s k) (hi : i < k - 1) : 128 ≤ (s[i]'(by omega)).toNat := by
  obtain ⟨a, b, e, hb, ha⟩ := good_shape h7 h
  have hl : a.length = k - 1 := by
    have := congrArg List.length e
    simp at this
    have : s.data.size = s.size := rfl
    omega
  refine ha _ ?_
  have h2 : (s.data.toList.take k)[i]? = a[i]? := by rw [e, List.getElem?_append_left (by omega)]
  have h3 : (s.data.toList.take k)[i]? = some (s[i]'(by omega)) := by
    rw [List.getElem?_take, if_pos (by omega)]
    have : i < s.data.size := by have : s.data.size = s.size := rfl; omega
    simp
    exact Array.getElem?_eq_getElem this
  rw [h3] at h2
  exact List.mem_of_getElem? h2.symm

theorem ans_one {s : ByteArray} {n k n' k' : Int} (h : Ans s n k) (h' : Ans s n' k') : n = n' ∧ k = k' := by
  rcases h with ⟨K, a1, a2, a3, a4, rfl, rfl⟩ | ⟨a, rfl, rfl⟩
  · rcases h' with ⟨K', b1, b2, b3, b4, rfl, rfl⟩ | ⟨b, rfl, rfl⟩
    · have : K = K' := by
        rcases Nat.lt_trichotomy K K' with h | h | h
        · have h1 := good_last a1 a2 a3 a4
          have h2 := good_before b1 b2 b3 b4 (i := K - 1) (by omega)
          omega
        · exact h
        · have h1 := good_last b1 b2 b3 b4
          have h2 := good_before a1 a2 a3 a4 (i := K' - 1) (by omega)
          omega
      subst this
      exact ⟨rfl, rfl⟩
    · exact absurd a4 (b K a1 a2 a3)
  · rcases h' with ⟨K', b1, b2, b3, b4, rfl, rfl⟩ | ⟨b, rfl, rfl⟩
    · exact absurd b4 (a K' b1 b2 b3)
    · exact ⟨rfl, rfl⟩

/-- A result that Ans allows. -/
def SomeAns (s : ByteArray) (w : World) (e : Ending) (w' : World) : Prop := ∃ n k : Int, Ans s n k ∧ e = .returned (.tuple #[.int .i64 n, .int .i64 k]) ∧ Below w.heap.size w w'

/-! ### The model -/

/-- The inner loop: behind i rounds n says bytes k - i .. k - 1. -/
def mid (s : ByteArray) (k i : Nat) : Int := lo ((s.data.toList.take k).drop i)

theorem mid_top (s : ByteArray) (k : Nat) : mid s k k = 0 := by
  unfold mid
  rw [List.drop_of_length_le (by simp; omega)]
  rfl

theorem mid_step (s : ByteArray) (k i : Nat) (hi : i < k) (hk : k ≤ s.size) : mid s k i = mid s k (i + 1) * 128 + ((s[i]'(by omega)).toNat : Int) % 128 := by
  unfold mid
  have h0 : i < s.data.size := by have : s.data.size = s.size := rfl; omega
  rw [List.drop_eq_getElem_cons (by simp; omega)]
  simp only [lo, List.getElem_take]
  have : (s.data.toList[i]'(by simpa using h0)) = s[i]'(by omega) := rfl
  rw [this]
  omega

theorem mid_bd (s : ByteArray) (k i : Nat) (h7 : k ≤ 7) : 0 ≤ mid s k i ∧ mid s k i < 562949953421312 := by
  have := lo_bd ((s.data.toList.take k).drop i)
  have := pow_small ((s.data.toList.take k).drop i).length (by simp; omega)
  unfold mid
  omega

theorem good_test (s : ByteArray) (K : Nat) : ((var.varS (mid s K 0)).toList == (s.extract 0 K).toList) = true ↔ Good s K := by
  have e : mid s K 0 = lo (s.data.toList.take K) := by simp [mid]
  have e2 : (s.extract 0 K).data.toList = s.data.toList.take K := by rw [Lib.extract_data]; simp
  rw [e, beq_iff_eq, ByteArray.toList_eq, ByteArray.toList_eq, e2]
  unfold Good
  constructor
  · intro h
    exact bytes_inj (by simpa using h)
  · intro h
    rw [h]

/-- The outer loop's relation. -/
def Out (s : ByteArray) (w : World) (k : Value) (wr : World) : Prop :=
  ∃ K : Nat, 1 ≤ K ∧ K ≤ 8 ∧ K ≤ s.size + 1 ∧ k = .int .i64 K ∧ (∀ j : Nat, 1 ≤ j → j < K → j ≤ s.size → ¬ Good s j) ∧ Below w.heap.size w wr
/-- The inner loop's relation. -/
def Inn (s : ByteArray) (K : Nat) (n i : Value) : Prop := ∃ I : Nat, I ≤ K ∧ i = .int .i64 ((I : Int) - 1) ∧ n = .int .i64 (mid s K I)

set_option maxHeartbeats 400000 in
theorem spec_any (s : ByteArray) (w : World) (hs : s.size ≤ maxLen) :
    Calls Try.prog 15 #[.string s] w (SomeAns s w) := by
  unfold maxLen at hs
  go_enter Try.func15, Try.ntmps15
  go_wp2
  go_loopw [4, 5, 6] (fun k _ _ wr => Out s w k wr) (fun k _ _ _ => (8 - intOf k).toNat)
  case atStart => exact ⟨1, by omega, by omega, by omega, rfl, fun j h1 h2 => by omega, Below.refl _ _⟩
  case round =>
    obtain ⟨K, hK1, hK8, hKs, rfl, hno, hbel⟩ := hrel
    have HN := Lib.hid hno
    clear hno
    obtain ⟨wo, rfl⟩ : ∃ wo : World, wo = wr := ⟨_, rfl⟩
    by_cases h7 : K ≤ 7
    · by_cases hlen : K ≤ s.size
      · have h7' : (K : Int) ≤ 7 := by omega
        have hlen' : (K : Int) ≤ (s.size : Int) := by omega
        go_wp2
        go_loop [5, 6] (fun n i => Inn s K n i) (fun _ i => (intOf i + 1).toNat)
        case atStart => exact ⟨K, Nat.le_refl _, rfl, by rw [mid_top]⟩
        case round =>
          obtain ⟨I, hI, rfl, rfl⟩ := hrel
          by_cases h0 : I = 0
          · subst h0
            by_cases hg : Good s K
            · have ht := (good_test s K).2 hg
              have HA := Lib.hid (show Ans s (mid s K 0) K from .inl ⟨K, hK1, h7, hlen, hg, rfl, rfl⟩)
              clear hg
              go_wp2
              go_region_with (go_at_call 13; refine (var.any _ _ _ (.inl rfl)).mono ?_; rintro e w1 ⟨rfl, b1⟩)
              all_goals go_wp2
              all_goals go_ret2
              all_goals exact ⟨_, _, HA.out, rfl, hbel.drew.trans (b1.mono hbel.size)⟩
            · have ht : ((var.varS (mid s K 0)).toList == (s.extract 0 K).toList) = false := by
                rw [Bool.eq_false_iff]
                exact fun h => hg ((good_test s K).1 h)
              have HN2 := Lib.hid (show ∀ j : Nat, 1 ≤ j → j < K + 1 → j ≤ s.size → ¬ Good s j from fun j h1 h2 h3 => if h : j = K then h ▸ hg else HN.out j h1 (by omega) h3)
              clear hg
              go_wp2
              go_region_with (go_at_call 13; refine (var.any _ _ _ (.inl rfl)).mono ?_; rintro e w1 ⟨rfl, b1⟩)
              all_goals go_wp2
              all_goals go_roundw
              all_goals first | (simp [intOf]; omega) | exact ⟨K + 1, by omega, by omega, by omega, by go_num, HN2.out, hbel.drew.trans (b1.mono hbel.size)⟩
          · obtain ⟨J, rfl⟩ : ∃ J : Nat, I = J + 1 := ⟨I - 1, by omega⟩
            have hm := mid_bd s K (J + 1) h7
            have hJs : J < s.size := by omega
            have hc := s[J].toNat_lt
            have HS := Lib.hid (mid_step s K J (by omega) hlen)
            go_wp2
            go_round
            case rel => exact ⟨J, by omega, rfl, by rw [HS.out]⟩
            case measure => simp [intOf]
      · have hlen' : ¬ (K : Int) ≤ (s.size : Int) := by omega
        have hA : Ans s 0 0 := .inr ⟨fun j h1 h2 h3 => HN.out j h1 (by omega) h3, rfl, rfl⟩
        have HA := Lib.hid hA
        clear hA
        go_wp2
        go_ret2
        exact ⟨0, 0, HA.out, rfl, hbel⟩
    · have h7' : ¬ (K : Int) ≤ 7 := by omega
      have hA : Ans s 0 0 := .inr ⟨fun j h1 h2 h3 => HN.out j h1 (by omega) h3, rfl, rfl⟩
      have HA := Lib.hid hA
      clear hA
      go_wp2
      go_ret2
      exact ⟨0, 0, HA.out, rfl, hbel⟩

/-! ### The program -/

theorem good_test' (s : ByteArray) (K : Nat) : ((var.varS (lo (s.data.toList.take K))).toList == (s.extract 0 K).toList) = true ↔ Good s K := by
  have := good_test s K
  rwa [show mid s K 0 = lo (s.data.toList.take K) by simp [mid]] at this

theorem size_ext (s : ByteArray) (k : Nat) (h : k ≤ s.size) : (s.extract 0 k).size = k := by
  simp
  omega

theorem lo_next (s : ByteArray) (I : Nat) (h7 : I < 7) (hs : I < s.size) :
    bits .or .i64 (lo (s.data.toList.take I)) (wrap64 ((s[I].toNat : Int) % 128 * 2 ^ (7 * I))) = lo (s.data.toList.take (I + 1)) := by
  have hd : s.data.size = s.size := rfl
  have hl : (s.data.toList.take I).length = I := by simp; omega
  have hb := lo_bd (s.data.toList.take I)
  rw [hl] at hb
  rw [take_snoc s I hs, lo_snoc, hl]
  have e7 : (2 : Int) ^ (7 * I) = 128 ^ I := by rw [Int.pow_mul]; rfl
  have hp := pow_small I (by omega)
  have hp' : (128 : Int) ^ (I + 1) ≤ 562949953421312 := pow_small (I + 1) (by omega)
  rw [Int.pow_succ] at hp'
  have hp0 : (0 : Int) < 128 ^ I := Int.pow_pos (by omega)
  have hx0 : 0 ≤ (s[I].toNat : Int) % 128 * 128 ^ I := Int.mul_nonneg (by omega) (by omega)
  have hx1 : (s[I].toNat : Int) % 128 * 128 ^ I ≤ 127 * 128 ^ I := Int.mul_le_mul_of_nonneg_right (by omega) (by omega)
  rw [e7, IntWalk.wrap64_in _ ⟨by omega, by omega⟩]
  rw [i64_join' (7 * I) _ _ hx0 (by rw [e7]; simp) (by omega) hb.1 (by rw [e7]; exact hb.2) (by omega), Int.mul_comm]

/-- The byte that ends a varint ends every other: nothing longer is one. -/
theorem no_after (s : ByteArray) (I : Nat) (h7 : I < 7) (hs : I < s.size) (hb : s[I].toNat < 128) (hg : ¬ Good s (I + 1)) (hno : ∀ j : Nat, 1 ≤ j → j ≤ I → j ≤ s.size → ¬ Good s j) :
    ∀ j : Nat, 1 ≤ j → j ≤ 7 → j ≤ s.size → ¬ Good s j := by
  intro j h1 h2 h3 h4
  rcases Nat.lt_trichotomy j (I + 1) with h | h | h
  · exact hno j h1 (by omega) h3 h4
  · subst h
    exact hg h4
  · have := good_before h1 h2 h3 h4 (i := I) (by omega)
    omega

theorem shortest_any (n : Int) (s : ByteArray) (w : World) (b : Bool) (hb : ((var.varS n).toList == s.toList) = b) (hs : s.size ≤ maxLen) :
    Calls Try.prog 23 #[.int .i64 n, .string s] w fun e w' => e = .returned (.tuple #[.int .i64 (if b then n else 0), .int .i64 (if b then s.size else 0)]) ∧ Below w.heap.size w w' := by
  unfold maxLen at hs
  cases b with
  | true =>
    go_enter Try.func23, Try.ntmps23
    go_wp2_with (go_at_call 14; refine (var.any _ _ _ (.inr rfl)).mono ?_; rintro e w1 ⟨rfl, b1⟩)
    go_ret2
    exact ⟨rfl, by assumption⟩
  | false =>
    go_enter Try.func23, Try.ntmps23
    go_wp2_with (go_at_call 14; refine (var.any _ _ _ (.inr rfl)).mono ?_; rintro e w1 ⟨rfl, b1⟩)
    go_ret2
    exact ⟨rfl, by assumption⟩

/-- The loop's relation: every byte so far says that one more follows. -/
def Rel (s : ByteArray) (n i : Value) : Prop :=
  ∃ I : Nat, I ≤ 7 ∧ I ≤ s.size ∧ i = .int .i64 I ∧ n = .int .i64 (lo (s.data.toList.take I)) ∧ ∀ j : Nat, 1 ≤ j → j ≤ I → j ≤ s.size → ¬ Good s j

set_option maxRecDepth 100000 in
set_option maxHeartbeats 400000 in
theorem impl_any (s : ByteArray) (w : World) (hs : s.size ≤ maxLen) :
    Calls Try.prog 16 #[.string s] w (SomeAns s w) := by
  unfold maxLen at hs
  go_enter Try.func16, Try.ntmps16
  go_wp2
  all_goals
    go_loop [4, 5, 9] (fun n _ i => Rel s n i) (fun _ _ i => (7 - intOf i).toNat)
    case atStart => exact ⟨0, by omega, by omega, rfl, rfl, fun j h1 h2 => by omega⟩
    case round =>
      obtain ⟨I, hI7, hIs, rfl, rfl, hno⟩ := hrel
      have HN := Lib.hid hno
      clear hno
      by_cases hlt : I < 7 ∧ I < s.size
      · obtain ⟨hl7, hls⟩ := hlt
        have hlsI : (I : Int) < s.size := by omega
        have hlo := lo_small s.data.toList I (by omega)
        have hc := s[I].toNat_lt
        by_cases hb : s[I].toNat < 128
        · by_cases hg : Good s (I + 1)
          · have ht := Lib.hid ((good_test' s (I + 1)).2 hg)
            have HA := Lib.hid (show Ans s (lo (s.data.toList.take (I + 1))) ((min (I + 1) s.size : Nat) : Int) from .inl ⟨I + 1, by omega, by omega, by omega, hg, rfl, by rw [Nat.min_eq_left (by omega)]⟩)
            have HL := Lib.hid (lo_next s I hl7 hls)
            have hx : (s.extract 0 (I + 1)).size ≤ maxLen := by rw [size_ext s (I + 1) (by omega)]; unfold maxLen; omega
            clear hg
            go_wp2_with fail
            rw [HL.out]
            refine (shortest_any _ _ _ _ ht.out hx).mono ?_
            rintro e w1 ⟨rfl, b1⟩
            go_wp2
            go_ret2
            exact ⟨_, _, HA.out, rfl, b1⟩
          · have ht := Lib.hid (show ((var.varS (lo (s.data.toList.take (I + 1)))).toList == (s.extract 0 (I + 1)).toList) = false by
              rw [Bool.eq_false_iff]
              exact fun h => hg ((good_test' s (I + 1)).1 h))
            have HA := Lib.hid (show Ans s 0 0 from .inr ⟨no_after s I hl7 hls hb hg HN.out, rfl, rfl⟩)
            have HL := Lib.hid (lo_next s I hl7 hls)
            have hx : (s.extract 0 (I + 1)).size ≤ maxLen := by rw [size_ext s (I + 1) (by omega)]; unfold maxLen; omega
            clear hg
            go_wp2_with fail
            rw [HL.out]
            refine (shortest_any _ _ _ _ ht.out hx).mono ?_
            rintro e w1 ⟨rfl, b1⟩
            go_wp2
            go_ret2
            exact ⟨_, _, HA.out, rfl, b1⟩
        · have HN2 := Lib.hid (show ∀ j : Nat, 1 ≤ j → j ≤ I + 1 → j ≤ s.size → ¬ Good s j from fun j h1 h2 h3 hg => if h : j = I + 1 then by subst h; exact hb (good_last (by omega) (by omega) h3 hg) else HN.out j h1 (by omega) h3 hg)
          have HL := Lib.hid (lo_next s I hl7 hls)
          go_wp2
          go_round
          case rel => exact ⟨I + 1, by omega, by omega, by go_num, by rw [HL.out], HN2.out⟩
          case measure => simp [intOf]; omega
      · have HA := Lib.hid (show Ans s 0 0 from .inr ⟨fun j h1 h2 h3 => HN.out j h1 (by omega) h3, rfl, rfl⟩)
        first | (have : ¬ (I : Int) < 7 := by omega) | (have : ¬ (I : Int) < s.size := by omega)
        clear hlt
        go_wp2
        go_ret2
        exact ⟨0, 0, HA.out, rfl, Below.refl _ _⟩

/-- THE WALK: the law's own text. -/
theorem walk (s : ByteArray) (w : World) (hs : s.size ≤ maxLen) :
    Calls Try.prog 6 #[.string s] w fun e w' => e = .returned (.bool true) ∧ Below w.heap.size w w' := by
  have hm := hs
  unfold maxLen at hm
  by_cases hbig : 1048576 < s.size
  · go_enter Try.func6, Try.ntmps6
    go_wp2
    go_ret
    exact ⟨rfl, Below.refl _ _⟩
  · go_enter Try.func6, Try.ntmps6
    go_wp2_with fail
    refine (spec_any s _ hs).mono ?_
    rintro e w1 ⟨n, k, ha, rfl, b1⟩
    have HA := Lib.hid ha
    clear ha
    go_wp2_with fail
    refine (impl_any s _ hs).mono ?_
    rintro e w2 ⟨n', k', ha', rfl, b2⟩
    obtain ⟨rfl, rfl⟩ := ans_one HA.out ha'
    clear ha' HA
    go_wp2
    go_ret
    exact ⟨rfl, b1.trans (b2.mono b1.size)⟩
end Go.Proofs.Ytjphfigfmbgmkaa.readVar
namespace Go.Proofs.Ytjphfigfmbgmkaa.readVar
open Go.ChangeShapes Go.WideShapes Go.ChangeAt Go.RowKit
open Go.ChangeMaps (open_string shut_string)
theorem own : ownKnob Try.prog.godebug = none := by kernel_rfl

set_option maxRecDepth 100000 in
theorem lifted (os : Os) (started : os.Started) (H : Type) (enc : TypeId × Value → H) :
    ReturnsInHanded {} Try.checked os 6 .any (Rows.fnExactReadVarSpec.pre6 enc Try.prog Try.f6 Rows.fnExactReadVarRow.domain false) (Rows.fnExactReadVarSpec.post enc Try.prog Try.f6 false true false false) := by
  refine returnsInHanded_of_change (C := Try.checked) own started (by kernel_rfl) Try.func6
    (ChangeSpec.witness6 (enc := enc) (C := Try.checked) false ⟨#[], #[.string ⟨#[]⟩], []⟩ 8 (by kernel_rfl) (by kernel_rfl) (by kernel_rfl) (by kernel_rfl)) ?_
  intro W base args ds gs before hval0 hW hcnd _
  have hval : ∀ (j : Nat) t v, Try.f6.params[j]? = some t → args[j]? = some v → Value.okWide Try.prog W .any base t v := hval0
  have hW' := hW
  obtain ⟨p, q, hA0, hV, rfl, hfz, hnd⟩ := hW
  have hA : DataW.TrodAll enc Try.prog W 0 (fun _ => true) true Try.f6.params.toList args.toList ds p := hA0
  rw [Try.params6] at hA hval
  obtain ⟨v0, vs0, d0, ds0, p0, q0, hargs, rfl, rfl, h0, r0⟩ := trodAll_cons hA
  obtain ⟨rfl, rfl, rfl⟩ := trodAll_nil r0
  obtain rfl : args = #[v0] := by cases args; simp_all
  obtain ⟨rfl, rfl⟩ := trodVars_none hV
  obtain ⟨a0, rfl, rfl, rfl, w0⟩ := open_string Try.underlying9 (hval 0 9 v0 rfl rfl) h0
  clear hA0 hval0
  refine (walk a0 W w0).mono fun e W' ⟨he, bel⟩ => ?_
  subst he
  exact ⟨_, rfl, _, _, _, [], _, [], hW', trodAll_mk1 (shut_bool Try.underlying4 _), (trodAll_cons_mk (shut_string Try.underlying9 w0) trodAll_mk0), rfl, bel.frame _, fun h => by cases h⟩

theorem over : Rows.fnExactReadVarRow.holds Try.pinned (OpenSpec.ofChange Rows.fnExactReadVarSpec) :=
  OpenClaim.holds_of_wide 6 Try.f6 rfl rfl rfl rfl rfl rfl rfl ⟨rfl, rfl, rfl, rfl, rfl⟩ rfl rfl rfl rfl rfl (by kernel_rfl) Try.func6 (by kernel_rfl)
    (of_decide_eq_true (by kernel_rfl)) (by unfold Func.isWrapper; first | (rw [if_pos (by decide +kernel)]; kernel_rfl) | (rw [if_neg (by decide +kernel)]; exact ⟨rfl, rfl⟩))
    (fun os started H enc _ => lifted os started H enc)
end Go.Proofs.Ytjphfigfmbgmkaa.readVar
namespace Go.Proofs.Ytjphfigfmbgmkaa
/-- The statement. -/
theorem fnExactReadVar_holds : Rows.FnExactReadVarSaid := readVar.over
end Go.Proofs.Ytjphfigfmbgmkaa
