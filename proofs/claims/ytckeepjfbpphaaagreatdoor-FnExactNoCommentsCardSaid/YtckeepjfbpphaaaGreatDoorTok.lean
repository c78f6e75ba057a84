/-
  Is a text right for a kind? What it is ('tokOk'), impl.TokenOk and spec.TokenOk: contracts.
-/
import Derived.Test.YtckeepjfbpphaaaGreatDoorRows
import Derived.Test.YtckeepjfbpphaaaGreatDoorBase
import Derived.Test.YtckeepjfbpphaaaGreatDoorScan
import Derived.Test.YtckeepjfbpphaaaGreatDoorSpell
import Derived.Test.YtckeepjfbpphaaaGreatDoorOps
import Derived.WalkKit
import Derived.ProofKit
import Derived.OpenShut
import Derived.ShutString
import Derived.ChangeOld
import Derived.Below
import Derived.WalkSpells
import Derived.WalkLawsBesides
import Derived.BigQuiet
import Derived.IntWalk
import Derived.Deep.QuietTactic
import Derived.Deep.RegionHeld3
import Derived.Lib.Strings
import Derived.Lib.IndexLaws
namespace Go.Proofs.YtckeepjfbpphaaaGreatDoor.tok
open Go.ChangeShapes Go.WideShapes Go.ChangeAt Go.RowKit
open spell (Held)
open scan (eq_facts ne_facts)
set_option linter.unusedVariables false
set_option maxRecDepth 20000

/-- A comment's text: a sign ahead, no newline. -/
def comment (s : ByteArray) : Bool := Lib.hasPrefix s.data.toList [35] && !decide (0 ≤ Lib.indexByte s.data.toList 10)
def tokOk (k : Int) (s : ByteArray) : Bool :=
  if k = 2 then comment s
  else if k = 3 then scan.numEnd s 0 == (s.size : Int)
  else if k = 4 then scan.strEnd s 0 == (s.size : Int)
  else if k = 5 then scan.ereEnd s 0 == (s.size : Int)
  else if k = 6 ∨ k = 7 then spell.nameOk s
  else if k = 8 then toks.isBuiltin s
  else !s.toList.isEmpty && (s.toList == (spell.spell k).toList)

theorem below_drewN {B : Nat} {w w1 : World} (h : Below B w w1) (n : Nat) : Below B w (w1.drewN n) := ⟨h.os, h.tape, h.output, h.size, h.block⟩
theorem below_box (w : World) (c : Obj) : Below w.heap.size w (w.alloc c) := (Below.refl _ _).alloc (Nat.le_refl _) _

theorem hash_any (s : ByteArray) (w : World) : Calls Tryz.prog 78 #[.string s, .string ⟨#[35]⟩] w fun e w' => e = .returned (.bool (Lib.hasPrefix s.data.toList [35])) ∧ w = w' := ops.prefix_any s ⟨#[35]⟩ w

set_option maxHeartbeats 1600000 in
theorem impl_tok (k a : Int) (s : ByteArray) (w : World) (hs : s.size ≤ 1048576) (hh : Held w) : Calls Tryz.prog 61 #[.agg #[.int .i64 k, .string s, .int .i64 a]] w fun e w' => e = .returned (.bool (tokOk k s)) ∧ Below w.heap.size w w' := by
  have HH := Lib.hid hh
  clear hh
  by_cases h2 : k = 2
  · subst h2
    cases hp : Lib.hasPrefix s.data.toList [35]
    · have HE := Lib.hid (show tokOk 2 s = false by show comment s = false; unfold comment; rw [hp]; rfl)
      go_enter Tryz.func61, Tryz.ntmps61
      go_wp2_with (go_at_call 78; refine (hash_any _ _).mono ?_; rintro e w' ⟨rfl, rfl⟩)
      go_ret
      exact ⟨by rw [HE.out]; rfl, below_box _ _⟩
    · have HE := Lib.hid (show tokOk 2 s = !decide (0 ≤ Lib.indexByte s.data.toList 10) by show comment s = _; unfold comment; rw [hp]; rfl)
      go_enter Tryz.func61, Tryz.ntmps61
      go_wp2_with (first | (go_at_call 78; refine (hash_any _ _).mono ?_; rintro e w' ⟨rfl, rfl⟩) | (go_at_call 79; refine (ops.contains_any _ _ _).mono ?_; rintro e w' ⟨rfl, rfl⟩))
      go_ret
      exact ⟨by rw [HE.out]; rfl, below_box _ _⟩
  by_cases h3 : k = 3
  · subst h3
    have HE := Lib.hid (show tokOk 3 s = (scan.numEnd s 0 == (s.size : Int)) from rfl)
    go_enter Tryz.func61, Tryz.ntmps61
    go_wp2
    go_quiet ((go_at_call 80; exact Calls.quiet_of_same ((scan.impl_num s 0 _ hs).mono fun _ _ h => ⟨h.1, h.2.symm⟩)))
    go_wp2
    go_ret
    exact ⟨by rw [HE.out]; rfl, below_drewN (below_box _ _) _⟩
  by_cases h4 : k = 4
  · subst h4
    have HE := Lib.hid (show tokOk 4 s = (scan.strEnd s 0 == (s.size : Int)) from rfl)
    go_enter Tryz.func61, Tryz.ntmps61
    go_wp2
    go_quiet ((go_at_call 81; exact Calls.quiet_of_same ((scan.impl_str s 0 _ hs).mono fun _ _ h => ⟨h.1, h.2.symm⟩)))
    go_wp2
    go_ret
    exact ⟨by rw [HE.out]; rfl, below_drewN (below_box _ _) _⟩
  by_cases h5 : k = 5
  · subst h5
    have HE := Lib.hid (show tokOk 5 s = (scan.ereEnd s 0 == (s.size : Int)) from rfl)
    go_enter Tryz.func61, Tryz.ntmps61
    go_wp2
    go_quiet ((go_at_call 82; exact Calls.quiet_of_same ((scan.impl_ere s 0 _ hs).mono fun _ _ h => ⟨h.1, h.2.symm⟩)))
    go_wp2
    go_ret
    exact ⟨by rw [HE.out]; rfl, below_drewN (below_box _ _) _⟩
  by_cases h6 : k = 6
  · subst h6
    have HE := Lib.hid (show tokOk 6 s = spell.nameOk s from rfl)
    go_enter Tryz.func61, Tryz.ntmps61
    go_wp2_with (go_at_call 59; refine (spell.impl_name s _ hs (HH.out.below (below_box _ _))).mono ?_; rintro e w' ⟨rfl, rfl⟩)
    go_ret
    exact ⟨by rw [HE.out]; rfl, below_box _ _⟩
  by_cases h7 : k = 7
  · subst h7
    have HE := Lib.hid (show tokOk 7 s = spell.nameOk s from rfl)
    go_enter Tryz.func61, Tryz.ntmps61
    go_wp2_with (go_at_call 59; refine (spell.impl_name s _ hs (HH.out.below (below_box _ _))).mono ?_; rintro e w' ⟨rfl, rfl⟩)
    go_ret
    exact ⟨by rw [HE.out]; rfl, below_box _ _⟩
  by_cases h8 : k = 8
  · subst h8
    have HE := Lib.hid (show tokOk 8 s = toks.isBuiltin s from rfl)
    go_enter Tryz.func61, Tryz.ntmps61
    go_wp2_with (go_at_call 60; refine (toks.impl_builtin s _).mono ?_; rintro e w' ⟨rfl, rfl⟩)
    go_ret
    exact ⟨by rw [HE.out]; rfl, below_box _ _⟩
  have HD := Lib.hid (show tokOk k s = (!s.toList.isEmpty && (s.toList == (spell.spell k).toList)) by simp [tokOk, h2, h3, h4, h5, h6, h7, h8])
  obtain ⟨d2, -⟩ := ne_facts h2
  obtain ⟨d3, -⟩ := ne_facts h3
  obtain ⟨d4, -⟩ := ne_facts h4
  obtain ⟨d5, -⟩ := ne_facts h5
  obtain ⟨d6, -⟩ := ne_facts h6
  obtain ⟨d7, -⟩ := ne_facts h7
  obtain ⟨d8, -⟩ := ne_facts h8
  clear h2 h3 h4 h5 h6 h7 h8
  cases he : s.toList.isEmpty
  · have HE := Lib.hid (show tokOk k s = (s.toList == (spell.spell k).toList) by rw [HD.out, he]; rfl)
    have he' : ¬ s.toList = [] := by intro h; rw [h] at he; cases he
    go_enter Tryz.func61, Tryz.ntmps61
    go_wp2
    go_quiet ((go_at_call 83; exact Calls.quiet_of_same ((spell.impl_spell k _ (HH.out.below (below_drewN (below_box _ _) _))).mono fun _ _ h => ⟨h.1, h.2.symm⟩)))
    go_wp2
    go_ret
    exact ⟨by rw [HE.out]; rfl, below_drewN (below_box _ _) _⟩
  · have HE := Lib.hid (show tokOk k s = false by rw [HD.out, he]; rfl)
    have he' : s.toList = [] := by simpa using he
    go_enter Tryz.func61, Tryz.ntmps61
    go_wp2
    go_quiet (fail)
    go_wp2
    go_ret
    exact ⟨by rw [HE.out]; rfl, below_drewN (below_box _ _) _⟩

/-! ### The model's -/
/-- No newline among the first bytes. -/
def free10 (s : ByteArray) (I : Nat) : Prop := ∀ j, j < I → s.data.toList[j]? ≠ some 10
theorem byte_get (s : ByteArray) (I : Nat) (h : I < s.size) : s.data.toList[I]? = some s[I] := by
  have : I < s.data.size := h
  simp
  exact Array.getElem?_eq_getElem this
theorem free_step {s : ByteArray} {I : Nat} (h : I < s.size) (hf : free10 s I) (hb : ¬ (s[I].toNat : Int) = 10) : free10 s (I + 1) := by
  intro j hj
  by_cases hjI : j < I
  · exact hf j hjI
  · obtain rfl : j = I := by omega
    rw [byte_get s j h]
    intro e
    apply hb
    rw [Option.some.inj e]
    rfl
theorem free_end {s : ByteArray} (hf : free10 s s.size) : decide (0 ≤ Lib.indexByte s.data.toList 10) = false := by
  rw [decide_eq_false_iff_not]
  intro h
  obtain ⟨o, ho⟩ : ∃ o : Nat, Lib.indexByte s.data.toList 10 = o := ⟨(Lib.indexByte s.data.toList 10).toNat, by omega⟩
  obtain ⟨h1, -⟩ := Lib.indexByte_some ho
  refine hf o ?_ h1
  have h2 : o < s.data.toList.length := by
    rcases Nat.lt_or_ge o s.data.toList.length with h | h
    · exact h
    · rw [List.getElem?_eq_none h] at h1; cases h1
  exact h2
theorem free_found {s : ByteArray} {I : Nat} (h : I < s.size) (hb : (s[I].toNat : Int) = 10) : decide (0 ≤ Lib.indexByte s.data.toList 10) = true := by
  rw [decide_eq_true_iff]
  have hge := Lib.indexByte_ge s.data.toList 10
  rcases Int.lt_or_le (Lib.indexByte s.data.toList 10) 0 with h' | h'
  · refine absurd (byte_get s I h) ?_
    have : s[I] = 10 := UInt8.toNat_inj.1 (by show s[I].toNat = 10; omega)
    rw [this]
    exact Lib.indexByte_none (by omega) I
  · exact h'
def RelPlain (s : ByteArray) (i : Value) : Prop := ∃ I : Nat, I ≤ s.size ∧ i = .int .i64 (I : Int) ∧ free10 s I

theorem spec_plain (s : ByteArray) (w : World) (hs : s.size ≤ 1048576) : Calls Tryz.prog 68 #[.string s] w fun e w' => e = .returned (.bool (!decide (0 ≤ Lib.indexByte s.data.toList 10))) ∧ w = w' := by
  go_enter Tryz.func68, Tryz.ntmps68
  go_wp2
  go_loop [3] (fun i => RelPlain s i) (fun i => s.size - (intOf i).toNat)
  case atStart => exact ⟨0, by omega, rfl, fun j hj => absurd hj (Nat.not_lt_zero j)⟩
  case round =>
    obtain ⟨I, hI, rfl, hf⟩ := hrel
    have HF := Lib.hid hf
    clear hf
    by_cases hlt : I < s.size
    · have hc := s[I].toNat_lt
      by_cases hb : (s[I].toNat : Int) = 10
      · have HS := Lib.hid (free_found hlt hb)
        obtain ⟨b1, b2⟩ := eq_facts hb
        clear hb
        go_wp2
        go_ret
        exact ⟨by rw [HS.out]; rfl, rfl⟩
      · have HS := Lib.hid (free_step hlt HF.out hb)
        obtain ⟨b1, b2⟩ := ne_facts hb
        clear hb
        go_wp2
        go_round
        case rel => exact ⟨I + 1, by omega, by go_num, HS.out⟩
        case measure => simp [intOf]; omega
    · obtain rfl : I = s.size := by omega
      have HS := Lib.hid (free_end HF.out)
      go_wp2
      go_ret
      exact ⟨by rw [HS.out]; rfl, rfl⟩

theorem hash_empty {s : ByteArray} (h : s.size = 0) : Lib.hasPrefix s.data.toList [35] = false := by
  have : s.data.toList = [] := List.length_eq_zero_iff.1 h
  rw [this]
  rfl
theorem hash_head {s : ByteArray} (h : 0 < s.size) : Lib.hasPrefix s.data.toList [35] = decide ((s[0].toNat : Int) = 35) := by
  have hl : 0 < s.data.toList.length := h
  have hg := byte_get s 0 h
  cases e : s.data.toList with
  | nil => rw [e] at hl; simp at hl
  | cons b t =>
    rw [e] at hg
    have hb : b = s[0] := Option.some.inj hg
    subst hb
    unfold Lib.hasPrefix
    rw [Bool.eq_iff_iff]
    simp only [List.isPrefixOf, Bool.and_true, beq_iff_eq, decide_eq_true_eq]
    constructor
    · intro h; rw [← h]; rfl
    · intro h; exact (UInt8.toNat_inj.1 (by show s[0].toNat = 35; omega)).symm

/-- The box of a token, and what a call that only adds memory leaves of it. -/
theorem box_start (w : World) (k a : Int) (s : ByteArray) (t : TypeId) :
    (w.alloc (.cells #[.int .i64 k, .string s, .int .i64 a] t)).cell? ⟨w.heap.size, 0, none⟩ = some (.int .i64 k) ∧ (w.alloc (.cells #[.int .i64 k, .string s, .int .i64 a] t)).cell? ⟨w.heap.size, 1, none⟩ = some (.string s) ∧
      Below w.heap.size w (w.alloc (.cells #[.int .i64 k, .string s, .int .i64 a] t)) ∧ w.heap.size < (w.alloc (.cells #[.int .i64 k, .string s, .int .i64 a] t)).heap.size := by
  have hh := heap_alloc_new w (.cells #[.int .i64 k, .string s, .int .i64 a] t)
  refine ⟨?_, ?_, below_box _ _, by simp⟩
  · rw [cell_of_row _ _ 0 _ _ _ hh]; rfl
  · rw [cell_of_row _ _ 1 _ _ _ hh]; rfl
theorem box_keep {w W w1 : World} {k : Int} {s : ByteArray}
    (h : W.cell? ⟨w.heap.size, 0, none⟩ = some (.int .i64 k) ∧ W.cell? ⟨w.heap.size, 1, none⟩ = some (.string s) ∧ Below w.heap.size w W ∧ w.heap.size < W.heap.size) (hb : Below W.heap.size W w1) :
    w1.cell? ⟨w.heap.size, 0, none⟩ = some (.int .i64 k) ∧ w1.cell? ⟨w.heap.size, 1, none⟩ = some (.string s) ∧ Below w.heap.size w w1 ∧ w.heap.size < w1.heap.size :=
  ⟨(hb.cell (p := ⟨w.heap.size, 0, none⟩) h.2.2.2).trans h.1, (hb.cell (p := ⟨w.heap.size, 1, none⟩) h.2.2.2).trans h.2.1, h.2.2.1.trans (hb.mono (Nat.le_of_lt h.2.2.2)), Nat.lt_of_lt_of_le h.2.2.2 hb.size⟩
theorem box_drew {w W : World} {k : Int} {s : ByteArray}
    (h : W.cell? ⟨w.heap.size, 0, none⟩ = some (.int .i64 k) ∧ W.cell? ⟨w.heap.size, 1, none⟩ = some (.string s) ∧ Below w.heap.size w W ∧ w.heap.size < W.heap.size) :
    W.drew.cell? ⟨w.heap.size, 0, none⟩ = some (.int .i64 k) ∧ W.drew.cell? ⟨w.heap.size, 1, none⟩ = some (.string s) ∧ Below w.heap.size w W.drew ∧ w.heap.size < W.drew.heap.size :=
  ⟨h.1, h.2.1, h.2.2.1.drew, h.2.2.2⟩

set_option maxHeartbeats 1600000 in
theorem spec_tok (k a : Int) (s : ByteArray) (w : World) (hs : s.size ≤ 1048576) : Calls Tryz.prog 52 #[.agg #[.int .i64 k, .string s, .int .i64 a]] w fun e w' => e = .returned (.bool (tokOk k s)) ∧ Below w.heap.size w w' := by
  by_cases h2 : k = 2
  · subst h2
    by_cases h0 : s.size = 0
    · have HE := Lib.hid (show tokOk 2 s = false by show comment s = false; unfold comment; rw [hash_empty h0]; rfl)
      have z1 : decide (0 < s.size) = false := by rw [decide_eq_false_iff_not]; omega
      clear h0
      go_enter Tryz.func52, Tryz.ntmps52
      go_wp2
      go_ret
      exact ⟨by rw [HE.out]; rfl, below_box _ _⟩
    · have hpos : 0 < s.size := by omega
      have hc := s[0].toNat_lt
      clear h0
      by_cases hp : (s[0].toNat : Int) = 35
      · have HE := Lib.hid (show tokOk 2 s = !decide (0 ≤ Lib.indexByte s.data.toList 10) by show comment s = _; unfold comment; rw [hash_head hpos, decide_eq_true hp]; rfl)
        obtain ⟨p1, p2⟩ := eq_facts hp
        clear hp
        go_enter Tryz.func52, Tryz.ntmps52
        go_wp2_with (go_at_call 68; refine (spec_plain _ _ hs).mono ?_; rintro e w' ⟨rfl, rfl⟩)
        go_ret
        exact ⟨by rw [HE.out]; rfl, below_box _ _⟩
      · have HE := Lib.hid (show tokOk 2 s = false by show comment s = _; unfold comment; rw [hash_head hpos, decide_eq_false hp]; rfl)
        obtain ⟨p1, p2⟩ := ne_facts hp
        clear hp
        go_enter Tryz.func52, Tryz.ntmps52
        go_wp2
        go_ret
        exact ⟨by rw [HE.out]; rfl, below_box _ _⟩
  by_cases h3 : k = 3
  · subst h3
    by_cases h0 : s.size = 0
    · have HE := Lib.hid (show tokOk 3 s = false by show (scan.numEnd s 0 == (s.size : Int)) = false; rw [scan.num_out (.inr (by omega)), h0]; rfl)
      have z1 : decide (0 < s.size) = false := by rw [decide_eq_false_iff_not]; omega
      clear h0
      go_enter Tryz.func52, Tryz.ntmps52
      go_wp2
      go_ret
      exact ⟨by rw [HE.out]; rfl, below_box _ _⟩
    · have hpos : 0 < s.size := by omega
      have HE := Lib.hid (show tokOk 3 s = (scan.numEnd s 0 == (s.size : Int)) from rfl)
      clear h0
      go_enter Tryz.func52, Tryz.ntmps52
      go_wp2_with (go_at_call 69; refine (scan.spec_num s _ _ hs).mono ?_; rintro e w' ⟨rfl, rfl⟩)
      go_ret
      exact ⟨by rw [HE.out]; rfl, below_box _ _⟩
  by_cases h4 : k = 4
  · subst h4
    have HE := Lib.hid (show tokOk 4 s = (scan.strEnd s 0 == (s.size : Int)) from rfl)
    go_enter Tryz.func52, Tryz.ntmps52
    go_wp2_with (go_at_call 70; refine (scan.spec_str s _ _ hs).mono ?_; rintro e w' ⟨rfl, rfl⟩)
    go_ret
    exact ⟨by rw [HE.out]; rfl, below_box _ _⟩
  by_cases h5 : k = 5
  · subst h5
    have HE := Lib.hid (show tokOk 5 s = (scan.ereEnd s 0 == (s.size : Int)) from rfl)
    go_enter Tryz.func52, Tryz.ntmps52
    go_wp2_with (go_at_call 71; refine (scan.spec_ere s _ _ hs).mono ?_; rintro e w' ⟨rfl, rfl⟩)
    go_ret
    exact ⟨by rw [HE.out]; rfl, below_box _ _⟩
  by_cases h6 : k = 6
  · subst h6
    have HE := Lib.hid (show tokOk 6 s = spell.nameOk s from rfl)
    go_enter Tryz.func52, Tryz.ntmps52
    go_wp2_with fail
    refine (spell.spec_name s _ hs).mono ?_
    rintro e w1 ⟨rfl, b1⟩
    go_wp2
    go_ret
    exact ⟨by rw [HE.out]; rfl, (below_box w _).trans (b1.mono (by simp))⟩
  by_cases h7 : k = 7
  · subst h7
    have HE := Lib.hid (show tokOk 7 s = spell.nameOk s from rfl)
    go_enter Tryz.func52, Tryz.ntmps52
    go_wp2_with fail
    refine (spell.spec_name s _ hs).mono ?_
    rintro e w1 ⟨rfl, b1⟩
    go_wp2
    go_ret
    exact ⟨by rw [HE.out]; rfl, (below_box w _).trans (b1.mono (by simp))⟩
  by_cases h8 : k = 8
  · subst h8
    have HE := Lib.hid (show tokOk 8 s = toks.isBuiltin s from rfl)
    go_enter Tryz.func52, Tryz.ntmps52
    go_wp2_with fail
    refine (toks.spec_builtin s _).mono ?_
    rintro e w1 ⟨rfl, b1⟩
    go_wp2
    go_ret
    exact ⟨by rw [HE.out]; rfl, (below_box w _).trans (b1.mono (by simp))⟩
  have HD := Lib.hid (show tokOk k s = (!s.toList.isEmpty && (s.toList == (spell.spell k).toList)) by simp [tokOk, h2, h3, h4, h5, h6, h7, h8])
  obtain ⟨d2, -⟩ := ne_facts h2
  obtain ⟨d3, -⟩ := ne_facts h3
  obtain ⟨d4, -⟩ := ne_facts h4
  obtain ⟨d5, -⟩ := ne_facts h5
  obtain ⟨d6, -⟩ := ne_facts h6
  obtain ⟨d7, -⟩ := ne_facts h7
  obtain ⟨d8, -⟩ := ne_facts h8
  clear h2 h3 h4 h5 h6 h7 h8
  cases he : s.toList.isEmpty
  · have HE := Lib.hid (show tokOk k s = ((spell.spell k).toList == s.toList) by rw [HD.out, he]; simp only [Bool.not_false, Bool.true_and]; rw [Bool.eq_iff_iff, beq_iff_eq, beq_iff_eq]; exact eq_comm)
    have he' : ¬ s.toList = [] := by intro h; rw [h] at he; cases he
    go_enter Tryz.func52, Tryz.ntmps52
    go_wp2
    go_region_held3 (fun w' => w'.cell? ⟨w.heap.size, 0, none⟩ = some (.int .i64 k) ∧ w'.cell? ⟨w.heap.size, 1, none⟩ = some (.string s) ∧ Below w.heap.size w w' ∧ w.heap.size < w'.heap.size)
      (first | exact box_start _ _ _ _ _ | exact box_drew (box_start _ _ _ _ _) | exact box_keep (by assumption) (by assumption) | exact box_drew (by assumption) | go_keep)
      (first | (go_at_call 72; refine (spell.spec_spell k _).mono ?_; rintro e w1 ⟨rfl, b1⟩))
    go_wp2
    go_ret
    exact ⟨by rw [HE.out]; rfl, by first | assumption | exact (by assumption : _ ∧ _ ∧ Below w.heap.size w _ ∧ _).2.2.1 | fail "SEE"⟩
  · have HE := Lib.hid (show tokOk k s = false by rw [HD.out, he]; rfl)
    have he' : s.toList = [] := by simpa using he
    go_enter Tryz.func52, Tryz.ntmps52
    go_wp2
    go_quiet (fail)
    go_wp2
    go_ret
    exact ⟨by rw [HE.out]; rfl, below_drewN (below_box _ _) _⟩
end Go.Proofs.YtckeepjfbpphaaaGreatDoor.tok
