/-
  impl's lexer, function by function: gapEnd, commentEnd, wordAt, kindAt: contracts.
-/
import Derived.Test.YtlbloemmabjmoaaDoorLexMath
import Derived.Test.YtlbloemmabjmoaaDoorScan
import Derived.Test.YtlbloemmabjmoaaDoorTok
import Derived.Lib.IndexLaws
namespace Go.Proofs.YtlbloemmabjmoaaDoor.lex
open Go.ChangeShapes Go.WideShapes Go.ChangeAt Go.RowKit
open tk scan
open spell (Held)
set_option linter.unusedVariables false

theorem impl_isBlank (n : Int) (w : World) : Calls Tryd.prog 66 #[.int .i64 n] w fun e w' => e = .returned (.bool (chars.isBlank n)) ∧ w = w' := chars.impl_blank n w

/-- A joined line ahead, as HasPrefix sees it. -/
theorem join_prefix {s : ByteArray} {A : Nat} (hA : A ≤ s.size) : Lib.hasPrefix (s.extract A s.size).data.toList [92, 10] = decide (byteZ s A = 92 ∧ byteZ s ((A : Int) + 1) = 10) := by
  rw [ops.rest_data]
  have g : ∀ j, (s.data.toList.drop A)[j]? = s.data.toList[A + j]? := fun j => by rw [List.getElem?_drop]
  have hb : ∀ j, A + j < s.size → s.data.toList[A + j]? = some (s.data.toList.getD (A + j) 0) := fun j hj => by
    have : A + j < s.data.toList.length := hj
    rw [List.getD_eq_getElem?_getD, List.getElem?_eq_getElem this]; rfl
  have hz : ∀ j, A + j < s.size → byteZ s ((A : Int) + (j : Int)) = ((s.data.toList.getD (A + j) 0).toNat : Int) := fun j hj => by
    unfold byteZ
    rw [if_pos (by omega), show ((A : Int) + (j : Int)).toNat = A + j by omega]
  by_cases h1 : A + 1 < s.size
  · have e0 := g 0
    have e1 := g 1
    rw [hb 0 (by omega)] at e0
    rw [hb 1 h1] at e1
    have z0 := hz 0 (by omega)
    have z1 := hz 1 h1
    simp only [Int.natCast_zero, Int.add_zero] at z0
    rw [show ((A : Int) + ((1 : Nat) : Int)) = (A : Int) + 1 by omega] at z1
    rw [z0, z1]
    generalize s.data.toList.getD (A + 0) 0 = x0 at *
    generalize s.data.toList.getD (A + 1) 0 = x1 at *
    match hl : s.data.toList.drop A with
    | [] => rw [hl] at e0; simp at e0
    | [_] => rw [hl] at e1; simp at e1
    | a :: b :: t =>
      rw [hl] at e0 e1
      simp at e0 e1
      subst e0 e1
      unfold Lib.hasPrefix
      rw [Bool.eq_iff_iff]
      simp only [List.isPrefixOf, Bool.and_true, Bool.and_eq_true, beq_iff_eq, decide_eq_true_eq]
      constructor
      · rintro ⟨h, h'⟩; subst h h'; exact ⟨rfl, rfl⟩
      · rintro ⟨h, h'⟩
        exact ⟨(UInt8.toNat_inj.1 (by show a.toNat = 92; omega)).symm, (UInt8.toNat_inj.1 (by show b.toNat = 10; omega)).symm⟩
  · have hno : ¬ (byteZ s A = 92 ∧ byteZ s ((A : Int) + 1) = 10) := fun h => h1 (join_lt h.2)
    rw [decide_eq_false hno]
    have hlen : (s.data.toList.drop A).length ≤ 1 := by
      rw [List.length_drop]
      have : s.data.toList.length = s.size := rfl
      omega
    match hl : s.data.toList.drop A with
    | [] => rfl
    | [a] => unfold Lib.hasPrefix; simp [List.isPrefixOf]
    | a :: b :: t => rw [hl] at hlen; simp at hlen

def RelGap (s : ByteArray) (A : Nat) (v : Value) : Prop := ∃ J : Nat, v = .int .i64 (J : Int) ∧ J ≤ s.size ∧ gapZ s J = gapZ s A

set_option maxHeartbeats 800000 in
theorem impl_gap (s : ByteArray) (A : Nat) (w : World) (hs : s.size ≤ 1048576) (hA : A ≤ s.size) :
    Calls Tryd.prog 36 #[.string s, .int .i64 (A : Int)] w fun e w' => e = .returned (.int .i64 (gapZ s A : Int)) ∧ w = w' := by
  go_enter Tryd.func36, Tryd.ntmps36
  go_wp2
  go_loop [1] (fun j => RelGap s A j) (fun j => s.size - (intOf j).toNat)
  case atStart => exact ⟨A, rfl, hA, rfl⟩
  case round =>
    obtain ⟨J, rfl, hJ, hg⟩ := hrel
    have HG := Lib.hid hg
    clear hg
    have hj1 : (J : Int) ≤ (s.size : Int) := by omega
    cases hb : chars.isBlank (byteZ s J)
    · by_cases hj : byteZ s J = 92 ∧ byteZ s ((J : Int) + 1) = 10
      · have hlt := join_lt hj.2
        have HP := Lib.hid (show Lib.hasPrefix (s.extract J s.size).data.toList [92, 10] = true by rw [join_prefix hJ, decide_eq_true hj])
        have HS := Lib.hid ((gap_join (by omega) hb hj).symm.trans HG.out)
        clear hj
        go_wp2_with (first | (go_at_call 57; refine (impl_byte s _ _ hs).mono ?_; rintro e w' ⟨rfl, rfl⟩) | (go_at_call 66; refine (impl_isBlank _ _).mono ?_; rintro e w' ⟨rfl, rfl⟩) | (go_at_call 67; refine (ops.prefix_any _ _ _).mono ?_; rintro e w' ⟨he, rfl⟩; rw [HP.out] at he; subst he))
        go_round
        case rel => exact ⟨J + 2, by go_num, by omega, HS.out⟩
        case measure => simp [intOf]; omega
      · have HP := Lib.hid (show Lib.hasPrefix (s.extract J s.size).data.toList [92, 10] = false by rw [join_prefix hJ, decide_eq_false hj])
        have HS := Lib.hid (show gapZ s A = J by
          rw [← HG.out]
          by_cases hlt : J < s.size
          · exact gap_stop hlt hb hj
          · exact gap_out hlt)
        clear hj
        go_wp2_with (first | (go_at_call 57; refine (impl_byte s _ _ hs).mono ?_; rintro e w' ⟨rfl, rfl⟩) | (go_at_call 66; refine (impl_isBlank _ _).mono ?_; rintro e w' ⟨rfl, rfl⟩) | (go_at_call 67; refine (ops.prefix_any _ _ _).mono ?_; rintro e w' ⟨he, rfl⟩; rw [HP.out] at he; subst he))
        go_ret
        exact ⟨by rw [HS.out]; rfl, rfl⟩
    · have hlt : J < s.size := by
        have := byte_range (s := s) (i := J) (by intro e; rw [e] at hb; revert hb; decide)
        omega
      have HS := Lib.hid ((gap_blank hlt hb).symm.trans HG.out)
      go_wp2_with (first | (go_at_call 57; refine (impl_byte s _ _ hs).mono ?_; rintro e w' ⟨rfl, rfl⟩) | (go_at_call 66; refine (impl_isBlank _ _).mono ?_; rintro e w' ⟨rfl, rfl⟩))
      go_round
      case rel => exact ⟨J + 1, by go_num, by omega, HS.out⟩
      case measure => simp [intOf]; omega

/-- The line's end, as IndexByte finds it. -/
theorem cmt_run {s : ByteArray} {A : Nat} (hA : A ≤ s.size) (n : Nat) (hn : A + n ≤ s.size) (hx : ∀ j, j < n → byteZ s ((A : Int) + (j : Int)) ≠ 10) : runEnd line s A = runEnd line s ((A : Int) + (n : Int)) := by
  induction n with
  | zero => simp
  | succ n ih =>
    rw [ih (by omega) (fun j hj => hx j (by omega))]
    have hb := hx n (by omega)
    have hz : byteZ s ((A : Int) + (n : Int)) = (s[A + n].toNat : Int) := by
      have := byte_in (s := s) (I := A + n) (by omega)
      rw [← this]; congr 1
    rw [run_step cls_line (by unfold line; rw [hz] at hb ⊢; simp [hb])]
    congr 1
theorem cmt_index {s : ByteArray} {A : Nat} (hA : A ≤ s.size) : cmtEnd s A = if 0 ≤ Lib.indexByte (s.extract A s.size).data.toList 10 then (A : Int) + Lib.indexByte (s.extract A s.size).data.toList 10 else (s.size : Int) := by
  rw [ops.rest_data]
  have g : ∀ j, (s.data.toList.drop A)[j]? = s.data.toList[A + j]? := fun j => by rw [List.getElem?_drop]
  have hz : ∀ j, A + j < s.size → ∀ b, s.data.toList[A + j]? = some b → byteZ s ((A : Int) + (j : Int)) = (b.toNat : Int) := fun j hj b hb => by
    unfold byteZ
    rw [if_pos (by omega), show ((A : Int) + (j : Int)).toNat = A + j by omega, List.getD_eq_getElem?_getD, hb]
    rfl
  have hsz : s.data.toList.length = s.size := rfl
  split
  · rename_i h0
    obtain ⟨o, ho⟩ : ∃ o : Nat, Lib.indexByte (s.data.toList.drop A) 10 = o := ⟨(Lib.indexByte (s.data.toList.drop A) 10).toNat, by omega⟩
    obtain ⟨h1, h2⟩ := Lib.indexByte_some ho
    rw [ho]
    have hlt : A + o < s.size := by
      rcases Nat.lt_or_ge (A + o) s.size with h | h
      · exact h
      · rw [g, List.getElem?_eq_none (by omega)] at h1; cases h1
    unfold cmtEnd
    rw [cmt_run hA o (by omega)]
    · rw [g] at h1
      have := hz o hlt 10 h1
      rw [run_stop (by rw [this]; decide)]
    · intro j hj
      have hj2 : A + j < s.data.toList.length := by omega
      have h3 := h2 j hj
      rw [g, List.getElem?_eq_getElem hj2] at h3
      rw [hz j (by omega) _ (List.getElem?_eq_getElem hj2)]
      intro e
      exact h3 (congrArg some (UInt8.toNat_inj.1 (by show (s.data.toList[A + j]).toNat = 10; omega)))
  · rename_i h0
    have hge := Lib.indexByte_ge (s.data.toList.drop A) 10
    have hn := Lib.indexByte_none (l := s.data.toList.drop A) (c := 10) (by omega)
    unfold cmtEnd
    rw [cmt_run hA (s.size - A) (by omega), run_out (.inr (by omega))]
    · omega
    · intro j hj
      have hj2 : A + j < s.data.toList.length := by omega
      have h3 := hn j
      rw [g, List.getElem?_eq_getElem hj2] at h3
      rw [hz j (by omega) _ (List.getElem?_eq_getElem hj2)]
      intro e
      exact h3 (congrArg some (UInt8.toNat_inj.1 (by show (s.data.toList[A + j]).toNat = 10; omega)))

theorem index_any (s : ByteArray) (w : World) : Calls Tryd.prog 100 #[.string s, .int .u8 10] w fun e w' => e = .returned (.int .i64 (Lib.indexByte s.data.toList 10)) ∧ w = w' :=
  (Tryd.strings_IndexByte s 10 w).mono fun _ _ h => ⟨h.1, h.2.symm⟩

theorem impl_comment (s : ByteArray) (A : Nat) (w : World) (hs : s.size ≤ 1048576) (hA : A ≤ s.size) :
    Calls Tryd.prog 68 #[.string s, .int .i64 (A : Int)] w fun e w' => e = .returned (.int .i64 (cmtEnd s A)) ∧ w = w' := by
  have hc := cmt_index hA
  have hle := run_le line s A (by omega)
  have hj1 : (A : Int) ≤ (s.size : Int) := by omega
  obtain ⟨o, ho⟩ : ∃ o, o = Lib.indexByte (s.extract A s.size).data.toList 10 := ⟨_, rfl⟩
  rw [← ho] at hc
  have HO := Lib.hid ho
  clear ho
  unfold cmtEnd at hc ⊢
  obtain ⟨c, hcc⟩ : ∃ c, c = runEnd line s A := ⟨_, rfl⟩
  rw [← hcc] at hc hle ⊢
  clear hcc
  by_cases h0 : 0 ≤ o
  · rw [if_pos h0] at hc
    have HC := Lib.hid hc
    have hb : (A : Int) + o ≤ 1048576 := by omega
    clear hc hle
    go_enter Tryd.func68, Tryd.ntmps68
    go_wp2_with (go_at_call 100; refine (index_any _ _).mono ?_; rintro e w' ⟨he, rfl⟩; rw [← HO.out] at he; subst he)
    go_ret
    exact ⟨by rw [HC.out]; rfl, rfl⟩
  · rw [if_neg h0] at hc
    have HC := Lib.hid hc
    have hb : o < 0 := by omega
    clear hc hle h0
    go_enter Tryd.func68, Tryd.ntmps68
    go_wp2_with (go_at_call 100; refine (index_any _ _).mono ?_; rintro e w' ⟨he, rfl⟩; rw [← HO.out] at he; subst he)
    go_ret
    exact ⟨by rw [HC.out]; rfl, rfl⟩
end Go.Proofs.YtlbloemmabjmoaaDoor.lex
