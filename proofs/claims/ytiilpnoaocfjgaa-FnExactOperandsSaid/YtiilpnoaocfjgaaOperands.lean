/-
  Operands over tokens in memory: contracts of both sides.
-/
import Derived.Test.YtiilpnoaocfjgaaTk
import Derived.Test.YtiilpnoaocfjgaaChars
namespace Go.Proofs.Ytiilpnoaocfjgaa.yd
open Go.ChangeShapes Go.WideShapes Go.ChangeAt Go.RowKit
open tk
set_option linter.unusedVariables false

/-- Is it a kind of tokens with texts of their own? -/
def isL (k : Int) : Bool := decide (3 ≤ k ∧ k ≤ 8)
def oc (l : List Tk) : Nat → Nat
  | 0 => 0
  | I + 1 => oc l I + if isL (l.getD I default).k = true then 1 else 0
theorem oc_le (l : List Tk) : ∀ I, oc l I ≤ I := by
  intro I
  induction I with
  | zero => exact Nat.le_refl _
  | succ I ih =>
    show oc l I + _ ≤ _
    split <;> omega
theorem oc_step {l : List Tk} {I : Nat} (h : I < l.length) : oc l (I + 1) = oc l I + if isL l[I].k = true then 1 else 0 := by
  show oc l I + _ = _
  rw [List.getD_eq_getElem?_getD, List.getElem?_eq_getElem h]
  rfl
theorem impl_is (k : Int) (w : World) : Calls Try.prog 12 #[.int .i64 k] w fun e w' => e = .returned (.bool (isL k)) ∧ w = w' := by
  by_cases h3 : 3 ≤ k
  · by_cases h8 : k ≤ 8
    · go_enter Try.func12, Try.ntmps12
      go_wp2
      all_goals
        go_ret
        exact ⟨congrArg (fun b => Ending.returned (Value.bool b)) (by first | (simp_all [isL]; done) | (simp_all [isL]; omega)), rfl⟩
    · go_enter Try.func12, Try.ntmps12
      go_wp2
      all_goals
        go_ret
        exact ⟨congrArg (fun b => Ending.returned (Value.bool b)) (by first | (simp_all [isL]; done) | (simp_all [isL]; omega)), rfl⟩
  · go_enter Try.func12, Try.ntmps12
    go_wp2
    all_goals
      go_ret
      exact ⟨congrArg (fun b => Ending.returned (Value.bool b)) (by first | (simp_all [isL]; done) | (simp_all [isL]; omega)), rfl⟩
theorem spec_is (k : Int) (w : World) : Calls Try.prog 10 #[.int .i64 k] w fun e w' => e = .returned (.bool (isL k)) ∧ w = w' := by
  go_enter Try.func10, Try.ntmps10
  go_wp2_with (go_at_call 14; refine (chars.spec_in _ _ _ _).mono ?_; rintro e w' ⟨rfl, rfl⟩)
  go_ret
  exact ⟨congrArg (fun b => Ending.returned (Value.bool b)) (by rw [Bool.eq_iff_iff]; simp [isL, chars.inR]), rfl⟩

def RelO (w : World) (l : List Tk) (n i : Value) (wr : World) : Prop :=
  ∃ I : Nat, I ≤ l.length ∧ i = .int .i64 (I : Int) ∧ n = .int .i64 (oc l I : Int) ∧ Below w.heap.size w wr

set_option maxHeartbeats 1600000 in
theorem impl_operands (l : List Tk) (a : Option Addr) (cap : Nat) (w : World) (hn : l.length ≤ 1048576) (hc : Lies w.heap.size w a l) :
    Calls Try.prog 7 #[.slice a l.length cap] w fun e w' => e = .returned (.int .i64 (oc l l.length : Int)) ∧ Below w.heap.size w w' := by
  have HC := Lib.hid hc
  clear hc
  obtain ⟨n, hln⟩ : ∃ n, n = l.length := ⟨_, rfl⟩
  have HLN := Lib.hid hln
  rw [← hln]
  rw [← hln] at hn
  clear hln
  go_enter Try.func7, Try.ntmps7
  go_wp2
  go_loopw [3, 8] (fun m i wr => RelO w l m i wr) (fun _ i _ => n - (intOf i).toNat)
  case atStart => exact ⟨0, by omega, rfl, rfl, Below.refl _ _⟩
  case round =>
    obtain ⟨I, hI, rfl, rfl, hbel⟩ := hrel
    have HB := Lib.hid hbel
    rw [← HLN.out] at hI
    clear hbel
    have hpl := oc_le l I
    obtain ⟨P, hP⟩ : ∃ P, P = oc l I := ⟨_, rfl⟩
    rw [← hP] at hpl ⊢
    have HP := Lib.hid hP
    clear hP
    by_cases hlt : I < n
    · have hltl : I < l.length := by have := HLN.out; omega
      obtain ⟨b, o, rfl, hb, hcell⟩ := lies_at HC.out hltl
      obtain ⟨c0, c1, c2⟩ := (hcell I hltl).keep HB.out hb
      have HST := Lib.hid (oc_step hltl)
      obtain ⟨t, ht⟩ : ∃ t, t = l[I] := ⟨_, rfl⟩
      rw [← ht] at c0 c1 c2 HST
      clear hcell ht
      have hi1 : (I : Int) < (n : Int) := by omega
      cases hq : isL t.k
      · have HREL := Lib.hid (show ∀ wr', Below w.heap.size w wr' → RelO w l (.int .i64 (P : Int)) (.int .i64 ((I : Int) + 1)) wr' from fun wr' hb' => ⟨I + 1, by have := HLN.out; omega, rfl, by rw [HST.out, hq, ← HP.out]; rfl, hb'⟩)
        have HQ := Lib.hid hq
        clear hq
        go_wp2_with (go_at_call 12; refine (impl_is _ _).mono ?_; rw [HQ.out]; rintro e w' ⟨rfl, rfl⟩)
        go_roundw
        case rel => exact HREL.out _ ((Below.refl _ _).alloc HB.out.size _ |> HB.out.trans)
        case measure => simp [intOf]; omega
      · have HREL := Lib.hid (show ∀ wr', Below w.heap.size w wr' → RelO w l (.int .i64 ((P : Int) + 1)) (.int .i64 ((I : Int) + 1)) wr' from fun wr' hb' => ⟨I + 1, by have := HLN.out; omega, rfl, by rw [HST.out, hq, ← HP.out]; rfl, hb'⟩)
        have HQ := Lib.hid hq
        clear hq
        go_wp2_with (go_at_call 12; refine (impl_is _ _).mono ?_; rw [HQ.out]; rintro e w' ⟨rfl, rfl⟩)
        go_roundw
        case rel => exact HREL.out _ ((Below.refl _ _).alloc HB.out.size _ |> HB.out.trans)
        case measure => simp [intOf]; omega
    · obtain rfl : I = n := by omega
      go_wp2
      go_ret
      exact ⟨by rw [HP.out]; rfl, HB.out⟩

set_option maxHeartbeats 1600000 in
theorem spec_operands (l : List Tk) (a : Option Addr) (cap : Nat) (w : World) (hn : l.length ≤ 1048576) (hc : Lies w.heap.size w a l) :
    Calls Try.prog 5 #[.slice a l.length cap] w fun e w' => e = .returned (.int .i64 (oc l l.length : Int)) ∧ Below w.heap.size w w' := by
  have HC := Lib.hid hc
  clear hc
  obtain ⟨n, hln⟩ : ∃ n, n = l.length := ⟨_, rfl⟩
  have HLN := Lib.hid hln
  rw [← hln]
  rw [← hln] at hn
  clear hln
  go_enter Try.func5, Try.ntmps5
  go_wp2
  go_loopw [3, 4] (fun m i wr => RelO w l m i wr) (fun _ i _ => n - (intOf i).toNat)
  case atStart => exact ⟨0, by omega, rfl, rfl, Below.refl _ _⟩
  case round =>
    obtain ⟨I, hI, rfl, rfl, hbel⟩ := hrel
    have HB := Lib.hid hbel
    rw [← HLN.out] at hI
    clear hbel
    have hpl := oc_le l I
    obtain ⟨P, hP⟩ : ∃ P, P = oc l I := ⟨_, rfl⟩
    rw [← hP] at hpl ⊢
    have HP := Lib.hid hP
    clear hP
    by_cases hlt : I < n
    · have hltl : I < l.length := by have := HLN.out; omega
      obtain ⟨b, o, rfl, hb, hcell⟩ := lies_at HC.out hltl
      obtain ⟨c0, c1, c2⟩ := (hcell I hltl).keep HB.out hb
      have HST := Lib.hid (oc_step hltl)
      obtain ⟨t, ht⟩ : ∃ t, t = l[I] := ⟨_, rfl⟩
      rw [← ht] at c0 c1 c2 HST
      clear hcell ht
      have hi1 : (I : Int) < (n : Int) := by omega
      cases hq : isL t.k
      · have HREL := Lib.hid (show RelO w l (.int .i64 (P : Int)) (.int .i64 ((I : Int) + 1)) wr from ⟨I + 1, by have := HLN.out; omega, rfl, by rw [HST.out, hq, ← HP.out]; rfl, HB.out⟩)
        have HQ := Lib.hid hq
        clear hq
        go_wp2_with (go_at_call 10; refine (spec_is _ _).mono ?_; rw [HQ.out]; rintro e w' ⟨rfl, rfl⟩)
        go_roundw
        case rel => exact HREL.out
        case measure => simp [intOf]; omega
      · have HREL := Lib.hid (show RelO w l (.int .i64 ((P : Int) + 1)) (.int .i64 ((I : Int) + 1)) wr from ⟨I + 1, by have := HLN.out; omega, rfl, by rw [HST.out, hq, ← HP.out]; rfl, HB.out⟩)
        have HQ := Lib.hid hq
        clear hq
        go_wp2_with (go_at_call 10; refine (spec_is _ _).mono ?_; rw [HQ.out]; rintro e w' ⟨rfl, rfl⟩)
        go_roundw
        case rel => exact HREL.out
        case measure => simp [intOf]; omega
    · obtain rfl : I = n := by omega
      go_wp2
      go_ret
      exact ⟨by rw [HP.out]; rfl, HB.out⟩
end Go.Proofs.Ytiilpnoaocfjgaa.yd
