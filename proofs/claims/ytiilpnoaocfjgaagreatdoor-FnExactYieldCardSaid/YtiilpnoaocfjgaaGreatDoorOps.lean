/-
  The longest operator at a place: what it is ('opAt'), impl.OpAt and spec.OpAt: contracts. What strings.HasPrefix and strings.Contains answer, by the shelf.
-/
import Derived.Test.YtiilpnoaocfjgaaGreatDoorRows
import Derived.Test.YtiilpnoaocfjgaaGreatDoorBase
import Derived.Test.YtiilpnoaocfjgaaGreatDoorScan
import Derived.Test.YtiilpnoaocfjgaaGreatDoorSpell
import Derived.Test.YtiilpnoaocfjgaaGreatDoorShelf
import Derived.WalkKit
import Derived.ProofKit
import Derived.OpenShut
import Derived.ShutString
import Derived.ChangeOld
import Derived.Below
import Derived.WalkSpells
import Derived.WalkLawsBesides
import Derived.BigQuiet
import Derived.IntWalk
import Derived.Deep.QuietTactic
import Derived.Lib.Strings
namespace Go.Proofs.YtiilpnoaocfjgaaGreatDoor.ops
open Go.ChangeShapes Go.WideShapes Go.ChangeAt Go.RowKit
open toks (signs)
open spell (Held)
open scan (eq_facts ne_facts)
set_option linter.unusedVariables false
set_option maxRecDepth 20000

def signAt (k : Nat) : ByteArray := signs.getD k ⟨#[]⟩
theorem sign_bd : ∀ k, k < 39 → 1 ≤ (signAt k).size ∧ (signAt k).size ≤ 2 := by decide +kernel
/-- Does a text lie at a place? -/
def here (s : ByteArray) (i : Int) (p : ByteArray) : Bool := decide (0 ≤ i) && (decide (i ≤ s.size) && Lib.hasPrefix (s.data.toList.drop i.toNat) p.data.toList)
theorem here_neg {s : ByteArray} {i : Int} {p : ByteArray} (h : i < 0) : here s i p = false := by
  unfold here
  rw [show decide (0 ≤ i) = false by rw [decide_eq_false_iff_not]; omega]
  rfl
theorem here_far {s : ByteArray} {i : Int} {p : ByteArray} (h : (s.size : Int) < i) : here s i p = false := by
  unfold here
  rw [show decide (i ≤ (s.size : Int)) = false by rw [decide_eq_false_iff_not]; omega]
  simp
theorem here_in {s : ByteArray} {A : Nat} {p : ByteArray} (h : A ≤ s.size) : here s A p = Lib.hasPrefix (s.data.toList.drop A) p.data.toList := by
  unfold here
  simp [h]
theorem rest_data (s : ByteArray) (A : Nat) : (s.extract A s.size).data.toList = s.data.toList.drop A := by
  rw [Lib.extract_data, List.take_of_length_le]
  simp
theorem here_rest {s : ByteArray} {A : Nat} {p : ByteArray} (h : A ≤ s.size) : here s A p = Lib.hasPrefix (s.extract A s.size).data.toList p.data.toList := by
  rw [here_in h, rest_data]
theorem here_cut {s : ByteArray} {A : Nat} {p : ByteArray} (h : A ≤ s.size) : here s A p = (decide ((p.size : Int) ≤ (s.size : Int) - A) && ((s.extract A (A + p.size)).toList == p.toList)) := by
  rw [here_in h, ← Lib.hasPrefix_of_take, ByteArray.toList_eq, ByteArray.toList_eq, Lib.extract_data]
  have h1 : (s.data.toList.drop A).length = s.size - A := by simp
  have h2 : p.data.toList.length = p.size := rfl
  rw [h1, h2, show A + p.size - A = p.size by omega]
  congr 1
  rw [Bool.eq_iff_iff]
  simp
  omega

/-- The longest of the first signs that lie at a place: its kind and its length. -/
def opTo (s : ByteArray) (i : Int) : Nat → Int × Int
  | 0 => (0, 0)
  | k + 1 => if here s i (signAt k) = true ∧ (opTo s i k).2 < ((signAt k).size : Int) then ((k : Int) + 30, ((signAt k).size : Int)) else opTo s i k
def opAt (s : ByteArray) (i : Int) : Int × Int := opTo s i 39
theorem op_yes {s : ByteArray} {i : Int} {k : Nat} (h1 : here s i (signAt k) = true) (h2 : (opTo s i k).2 < ((signAt k).size : Int)) : opTo s i (k + 1) = ((k : Int) + 30, ((signAt k).size : Int)) := by
  rw [opTo, if_pos ⟨h1, h2⟩]
theorem op_no {s : ByteArray} {i : Int} {k : Nat} (h1 : ¬ (here s i (signAt k) = true ∧ (opTo s i k).2 < ((signAt k).size : Int))) : opTo s i (k + 1) = opTo s i k := by
  rw [opTo, if_neg h1]
theorem op_bd (s : ByteArray) (i : Int) : ∀ k, k ≤ 39 → 0 ≤ (opTo s i k).1 ∧ (opTo s i k).1 ≤ 68 ∧ 0 ≤ (opTo s i k).2 ∧ (opTo s i k).2 ≤ 2
  | 0, _ => by simp [opTo]
  | k + 1, h => by
    have := op_bd s i k (by omega)
    have := sign_bd k (by omega)
    rw [opTo]
    split
    · simp only; omega
    · exact op_bd s i k (by omega)
theorem op_out (s : ByteArray) (i : Int) (h : i < 0 ∨ (s.size : Int) ≤ i) : ∀ k, k ≤ 39 → opTo s i k = (0, 0)
  | 0, _ => rfl
  | k + 1, hk => by
    have hb := sign_bd k (by omega)
    rw [op_no]
    · exact op_out s i h k (by omega)
    · rintro ⟨h1, -⟩
      have : here s i (signAt k) = false := by
        rcases h with h | h
        · exact here_neg h
        · rcases Int.lt_or_eq_of_le h with h | h
          · exact here_far h
          · subst h
            rw [here_cut (Nat.le_refl _)]
            rw [show decide (((signAt k).size : Int) ≤ (s.size : Int) - (s.size : Int)) = false by rw [decide_eq_false_iff_not]; omega]
            rfl
      rw [this] at h1
      cases h1

theorem prefix_any (s p : ByteArray) (w : World) : Calls Tryz.prog 218 #[.string s, .string p] w fun e w' => e = .returned (.bool (Lib.hasPrefix s.data.toList p.data.toList)) ∧ w = w' :=
  (Tryz.strings_HasPrefix s p w).mono fun _ _ h => ⟨h.1, h.2.symm⟩
theorem contains_any (s : ByteArray) (c : UInt8) (w : World) : Calls Tryz.prog 219 #[.string s, .string ⟨#[c]⟩] w fun e w' => e = .returned (.bool (decide (0 ≤ Lib.indexByte s.data.toList c))) ∧ w = w' :=
  (Tryz.strings_Contains_one s c w).mono fun _ _ h => ⟨h.1, h.2.symm⟩

/-- impl's loop. -/
def RelO (s : ByteArray) (i : Int) (k n c : Value) : Prop := ∃ K : Nat, K ≤ 39 ∧ c = .int .i64 ((K : Int) + 30) ∧ k = .int .i64 (opTo s i K).1 ∧ n = .int .i64 (opTo s i K).2

set_option maxHeartbeats 1600000 in
theorem impl_op (s : ByteArray) (i : Int) (w : World) (hs : s.size ≤ 1048576) (hh : Held w) : Calls Tryz.prog 251 #[.string s, .int .i64 i] w fun e w' => e = .returned (.tuple #[.int .i64 (opAt s i).1, .int .i64 (opAt s i).2]) ∧ w = w' := by
  have HH := Lib.hid hh
  clear hh
  by_cases h0 : i < 0
  · have HE := Lib.hid (show opAt s i = (0, 0) from op_out s i (.inl h0) 39 (by omega))
    go_enter Tryz.func251, Tryz.ntmps251
    go_wp2
    go_ret2
    exact ⟨by rw [HE.out]; rfl, rfl⟩
  obtain ⟨A, rfl⟩ : ∃ A : Nat, i = A := ⟨i.toNat, by omega⟩
  clear h0
  by_cases h1 : s.size ≤ A
  · have HE := Lib.hid (show opAt s A = (0, 0) from op_out s A (.inr (by omega)) 39 (by omega))
    go_enter Tryz.func251, Tryz.ntmps251
    go_wp2
    go_ret2
    exact ⟨by rw [HE.out]; rfl, rfl⟩
  have hA : A < s.size := by omega
  have hA' : A ≤ s.size := by omega
  have hz : decide ((A : Int) < 0) = false := by rw [decide_eq_false_iff_not]; omega
  have hz2 : decide (s.size ≤ A) = false := by rw [decide_eq_false_iff_not]; omega
  clear h1
  go_enter Tryz.func251, Tryz.ntmps251
  go_wp2
  go_loop [6, 7, 8] (fun k n c => RelO s A k n c) (fun _ _ c => (69 - intOf c).toNat)
  case atStart => exact ⟨0, by omega, rfl, rfl, rfl⟩
  case round =>
    obtain ⟨K, hK, rfl, rfl, rfl⟩ := hrel
    obtain ⟨P, hP⟩ : ∃ P, P = opTo s A K := ⟨_, rfl⟩
    have hb := op_bd s A K hK
    rw [← hP] at hb ⊢
    have HP := Lib.hid hP
    clear hP
    by_cases hlt : K < 39
    · have hc : (K : Int) + 30 ≤ 68 := by omega
      have HS := Lib.hid (show spell.spell ((K : Int) + 30) = signAt K from spell.spell_sign K hlt)
      obtain ⟨x, hx⟩ : ∃ x, x = signAt K := ⟨_, rfl⟩
      have hxb := sign_bd K hlt
      rw [← hx] at hxb
      have HX := Lib.hid hx
      clear hx
      by_cases h2 : P.2 < (x.size : Int)
      · have h4 : here s A x = Lib.hasPrefix (List.take (s.size - A) (List.drop A s.data.toList)) x.data.toList := by
          rw [here_rest hA', Lib.extract_data]
        have H4 := Lib.hid h4
        clear h4
        cases h3 : Lib.hasPrefix (List.take (s.size - A) (List.drop A s.data.toList)) x.data.toList
        · have HN := Lib.hid (show opTo s A (K + 1) = P by
            rw [op_no, ← HP.out]
            rw [← HX.out, H4.out, h3]
            simp)
          go_wp2_with (first | (go_at_call 95; refine (spell.impl_spell _ _ HH.out).mono ?_; rintro e w' ⟨he, rfl⟩; rw [HS.out, ← HX.out] at he; subst he) | (go_at_call 218; refine (prefix_any _ _ _).mono ?_; rintro e w' ⟨rfl, rfl⟩))
          go_round
          case rel => exact ⟨K + 1, by omega, congrArg (Value.int .i64) (by omega), by rw [HN.out], by rw [HN.out]⟩
          case measure => simp [intOf]; omega
        · have HN := Lib.hid (show opTo s A (K + 1) = ((K : Int) + 30, (x.size : Int)) by
            rw [HX.out]
            refine op_yes ?_ ?_
            · rw [← HX.out, H4.out, h3]
            · rw [← HP.out, ← HX.out]; exact h2)
          go_wp2_with (first | (go_at_call 95; refine (spell.impl_spell _ _ HH.out).mono ?_; rintro e w' ⟨he, rfl⟩; rw [HS.out, ← HX.out] at he; subst he) | (go_at_call 218; refine (prefix_any _ _ _).mono ?_; rintro e w' ⟨rfl, rfl⟩))
          go_round
          case rel => exact ⟨K + 1, by omega, congrArg (Value.int .i64) (by omega), by rw [HN.out], by rw [HN.out]⟩
          case measure => simp [intOf]; omega
      · have HN := Lib.hid (show opTo s A (K + 1) = P by
          rw [op_no, ← HP.out]
          rintro ⟨-, h⟩
          rw [← HP.out, ← HX.out] at h
          exact h2 h)
        have h2' : (x.size : Int) ≤ P.2 := by omega
        clear h2
        go_wp2_with (go_at_call 95; refine (spell.impl_spell _ _ HH.out).mono ?_; rintro e w' ⟨he, rfl⟩; rw [HS.out, ← HX.out] at he; subst he)
        go_round
        case rel => exact ⟨K + 1, by omega, congrArg (Value.int .i64) (by omega), by rw [HN.out], by rw [HN.out]⟩
        case measure => simp [intOf]; omega
    · obtain rfl : K = 39 := by omega
      have HE := Lib.hid (show opAt s A = P from HP.out.symm)
      go_wp2
      go_ret2
      exact ⟨by rw [HE.out]; rfl, rfl⟩

theorem below_drewN {B : Nat} {w w1 : World} (h : Below B w w1) (n : Nat) : Below B w (w1.drewN n) := ⟨h.os, h.tape, h.output, h.size, h.block⟩

/-- spec's loop. -/
def RelS (s : ByteArray) (i : Int) (w1 : World) (k n c : Value) (wr : World) : Prop :=
  ∃ K : Nat, K ≤ 39 ∧ c = .int .i64 (K : Int) ∧ k = .int .i64 (opTo s i K).1 ∧ n = .int .i64 (opTo s i K).2 ∧ Below w1.heap.size w1 wr

set_option maxHeartbeats 3200000 in
theorem spec_op (s : ByteArray) (i : Int) (w : World) (hs : s.size ≤ 1048576) : Calls Tryz.prog 257 #[.string s, .int .i64 i] w fun e w' => e = .returned (.tuple #[.int .i64 (opAt s i).1, .int .i64 (opAt s i).2]) ∧ Below w.heap.size w w' := by
  go_enter Tryz.func257, Tryz.ntmps257
  go_wp2_with fail
  refine (toks.signs_list _).mono ?_
  rintro e w1 ⟨rfl, b1, hh⟩
  have HW := Lib.hid hh
  have hlt1 : w.heap.size < w1.heap.size := by
    rcases Nat.lt_or_ge w.heap.size w1.heap.size with h | h
    · exact h
    · rw [Array.getElem?_eq_none h] at hh; cases hh
  clear hh
  go_wp2
  go_loopw [6, 7, 9] (fun k n c wr => RelS s i w1 k n c wr) (fun _ _ c _ => (39 - intOf c).toNat)
  case atStart => exact ⟨0, by omega, rfl, rfl, rfl, Below.refl _ _⟩
  case round =>
    obtain ⟨K, hK, rfl, rfl, rfl, hbel⟩ := hrel
    obtain ⟨P, hP⟩ : ∃ P, P = opTo s i K := ⟨_, rfl⟩
    have hb := op_bd s i K hK
    rw [← hP] at hb ⊢
    have HP := Lib.hid hP
    clear hP
    by_cases hlt : K < 39
    · have hcell : wr.cell? ⟨w.heap.size, K, none⟩ = some (.string (signAt K)) := by
        have e : wr.heap[w.heap.size]? = w1.heap[w.heap.size]? := hbel.block _ hlt1
        rw [cell_of_row wr _ K _ _ _ (e.trans HW.out)]
        have : K < signs.length := hlt
        simp [toks.strCells, signAt, this, List.getD]
      have hk1 : (K : Int) < 39 := by omega
      have hk0 : (0 : Int) ≤ (K : Int) := by omega
      obtain ⟨x, hx⟩ : ∃ x, x = signAt K := ⟨_, rfl⟩
      have hxb := sign_bd K hlt
      rw [← hx] at hxb hcell
      have HX := Lib.hid hx
      clear hx
      by_cases hi0 : i < 0
      · have HN := Lib.hid (show opTo s i (K + 1) = P by
          rw [op_no, ← HP.out]
          rw [here_neg hi0]
          simp)
        have t1 : decide (0 ≤ i) = false := by rw [decide_eq_false_iff_not]; omega
        clear hi0
        go_wp2
        go_quiet (fail)
        go_wp2
        go_roundw
        case rel => exact ⟨K + 1, by omega, by go_num, by rw [HN.out], by rw [HN.out], below_drewN hbel _⟩
        case measure => simp [intOf]; omega
      · obtain ⟨A, rfl⟩ : ∃ A : Nat, i = A := ⟨i.toNat, by omega⟩
        have t1 : decide ((0 : Int) ≤ (A : Int)) = true := by rw [decide_eq_true_iff]; omega
        clear hi0
        by_cases hA : A ≤ s.size
        · have H4 := Lib.hid (here_cut (p := x) hA)
          have t2 : decide (A ≤ s.size) = true := by rw [decide_eq_true_iff]; omega
          have t2' : decide ((A : Int) ≤ (s.size : Int)) = true := by rw [decide_eq_true_iff]; omega
          have s1 : IntKind.i64.wrap ((s.size : Int) - (A : Int)) = (s.size : Int) - (A : Int) := by rw [IntKind.wrap_i64]; omega
          have s2 : IntKind.i64.wrap ((A : Int) + (x.size : Int)) = ((A + x.size : Nat) : Int) := by rw [IntKind.wrap_i64]; omega
          by_cases hn : (x.size : Int) ≤ (s.size : Int) - (A : Int)
          · have t3 : decide ((x.size : Int) ≤ (s.size : Int) - (A : Int)) = true := by rw [decide_eq_true_iff]; exact hn
            have u1 : A ≤ A + x.size := by omega
            have u2 : A + x.size ≤ s.size := by omega
            cases he : ((s.extract A (A + x.size)).toList == x.toList)
            · have HN := Lib.hid (show opTo s A (K + 1) = P by
                rw [op_no, ← HP.out]
                rw [← HX.out, H4.out, he]
                simp)
              clear hn hA
              go_wp2
              go_quiet (fail)
              go_wp2
              go_roundw
              case rel => exact ⟨K + 1, by omega, by go_num, by rw [HN.out], by rw [HN.out], below_drewN hbel _⟩
              case measure => simp [intOf]; omega
            · by_cases hg : P.2 < (x.size : Int)
              · have HN := Lib.hid (show opTo s A (K + 1) = ((K : Int) + 30, (x.size : Int)) by
                  rw [HX.out]
                  refine op_yes ?_ ?_
                  · rw [← HX.out, H4.out, he, t3]; rfl
                  · rw [← HP.out, ← HX.out]; exact hg)
                have t4 : decide (P.2 < (x.size : Int)) = true := by rw [decide_eq_true_iff]; exact hg
                clear hn hA hg
                go_wp2
                go_quiet (fail)
                go_wp2
                go_roundw
                case rel => exact ⟨K + 1, by omega, by go_num, by rw [HN.out]; exact congrArg (Value.int .i64) (Int.add_comm _ _), by rw [HN.out], below_drewN hbel _⟩
                case measure => simp [intOf]; omega
              · have HN := Lib.hid (show opTo s A (K + 1) = P by
                  rw [op_no, ← HP.out]
                  rintro ⟨-, h⟩
                  rw [← HP.out, ← HX.out] at h
                  exact hg h)
                have t4 : decide (P.2 < (x.size : Int)) = false := by rw [decide_eq_false_iff_not]; exact hg
                clear hn hA hg
                go_wp2
                go_quiet (fail)
                go_wp2
                go_roundw
                case rel => exact ⟨K + 1, by omega, by go_num, by rw [HN.out], by rw [HN.out], below_drewN hbel _⟩
                case measure => simp [intOf]; omega
          · have t3 : decide ((x.size : Int) ≤ (s.size : Int) - (A : Int)) = false := by rw [decide_eq_false_iff_not]; exact hn
            have HN := Lib.hid (show opTo s A (K + 1) = P by
              rw [op_no, ← HP.out]
              rw [← HX.out, H4.out, t3]
              simp)
            clear hn hA
            go_wp2
            go_quiet (fail)
            go_wp2
            go_roundw
            case rel => exact ⟨K + 1, by omega, by go_num, by rw [HN.out], by rw [HN.out], below_drewN hbel _⟩
            case measure => simp [intOf]; omega
        · have HN := Lib.hid (show opTo s A (K + 1) = P by
            rw [op_no, ← HP.out]
            rw [here_far (by omega)]
            simp)
          have t2 : decide (A ≤ s.size) = false := by rw [decide_eq_false_iff_not]; omega
          have t2' : decide ((A : Int) ≤ (s.size : Int)) = false := by rw [decide_eq_false_iff_not]; omega
          clear hA
          go_wp2
          go_quiet (fail)
          go_wp2
          go_roundw
          case rel => exact ⟨K + 1, by omega, by go_num, by rw [HN.out], by rw [HN.out], below_drewN hbel _⟩
          case measure => simp [intOf]; omega
    · obtain rfl : K = 39 := by omega
      have HE := Lib.hid (show opAt s i = P from HP.out.symm)
      go_wp2
      go_ret2
      exact ⟨by rw [HE.out]; rfl, b1.trans (hbel.mono (Nat.le_of_lt hlt1))⟩
end Go.Proofs.YtiilpnoaocfjgaaGreatDoor.ops
