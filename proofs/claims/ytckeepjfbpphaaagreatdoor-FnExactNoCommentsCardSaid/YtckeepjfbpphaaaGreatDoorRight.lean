/-
  Right nodes: what fields, how many kids, which kids a node may have (the mathematics), and the functions of chapter 7 on one node, both sides: contracts.
-/
import Derived.Test.YtckeepjfbpphaaaGreatDoorKindB
import Derived.Test.YtckeepjfbpphaaaGreatDoorTok
import Derived.Test.YtckeepjfbpphaaaGreatDoorNdEq
import Derived.Deep.QuietTactic
import Derived.Deep.RegionHeld3
namespace Go.Proofs.YtckeepjfbpphaaaGreatDoor.rt
open Go.ChangeShapes Go.WideShapes Go.ChangeAt Go.RowKit
open chars (inR)
open spell (Held nameOk)
open toks (isBuiltin)
open tok (tokOk below_box)
set_option linter.unusedVariables false
set_option maxRecDepth 20000
set_option linter.unusedSimpArgs false

def isNode (k : Int) : Bool := isExpr k || k == 16 || isStmt k || isItem k || k == 45
theorem node_in (k : Int) : isNode k = (inR k 1 16 || inR k 20 34 || inR k 40 45) := by
  rw [Bool.eq_iff_iff]
  simp [isNode, isExpr, isStmt, isItem, inR]
  omega
def isBin (op : Int) : Bool := op == 60 || op == 57 || op == 58 || op == 59 || op == 55 || op == 56 || op == 99 || op == 63 || op == 48 || op == 47 || op == 50 || op == 62 || op == 49 || op == 67 || op == 46 || op == 45 || op == 44
def opOk (k op : Int) : Bool :=
  if k = 9 ∨ k = 10 then op == 51 || op == 52
  else if k = 11 then op == 55 || op == 56 || op == 61
  else if k = 12 then isBin op
  else if k = 15 then op == 54 || inR op 38 43
  else if k = 21 then op == 0 || op == 1
  else if k = 42 then inR op 1 3
  else if k = 43 then op == 1 || op == 3
  else op == 0
def textOk (k : Int) (s : ByteArray) : Bool :=
  if k = 1 ∨ k = 5 ∨ k = 7 ∨ k = 13 ∨ k = 27 ∨ k = 32 ∨ k = 44 then nameOk s
  else if k = 8 then isBuiltin s
  else if k = 2 then tokOk 3 s
  else if k = 3 then tokOk 4 s
  else if k = 4 then tokOk 5 s
  else if k = 34 then tokOk 2 s
  else s.toList.isEmpty
def otherOk (k : Int) (t : ByteArray) : Bool :=
  if k = 21 then t.toList.isEmpty || t.toList == [62] || t.toList == [62, 62] || t.toList == [124]
  else if k = 32 then nameOk t
  else t.toList.isEmpty
/-- The least and the greatest number of kids; 'mx' where there is none. -/
def lim0 (k op : Int) (t : ByteArray) : Int × Int :=
  if k = 6 ∨ k = 9 ∨ k = 10 ∨ k = 11 ∨ k = 20 ∨ k = 32 ∨ k = 40 ∨ k = 41 then (1, 1)
  else if k = 12 ∨ k = 15 ∨ k = 29 ∨ k = 30 then (2, 2)
  else if k = 14 then (3, 3)
  else if k = 31 then (4, 4)
  else if k = 5 ∨ k = 13 then (1, 6)
  else if k = 7 ∨ k = 8 ∨ k = 27 then (0, 6)
  else if k = 21 then (if t.toList.isEmpty = true then (op, 6) else (op + 1, 7))
  else if k = 23 ∨ k = 24 then (0, 1)
  else if k = 28 then (2, 3)
  else if k = 42 then (if op = 3 then (2, 2) else (1, 1))
  else if k = 43 then (if op = 3 then (3, 3) else (2, 2))
  else if k = 44 then (1, 7)
  else (0, 0)
def lim (mx k op : Int) (t : ByteArray) : Int × Int := if k = 33 ∨ k = 45 then (0, mx) else lim0 k op t
def many (k op : Int) (t : ByteArray) (n : Int) : Bool := decide ((lim n k op t).1 ≤ n) && decide (n ≤ (lim n k op t).2)
theorem many_max {k op : Int} {t : ByteArray} {n mx : Int} (h : n ≤ mx) : many k op t n = (decide ((lim mx k op t).1 ≤ n) && decide (n ≤ (lim mx k op t).2)) := by
  unfold many lim
  by_cases hk : k = 33 ∨ k = 45
  · simp only [if_pos hk]
    rw [decide_eq_true (Int.le_refl n), decide_eq_true h]
  · simp only [if_neg hk]
def fieldsOk (k op : Int) (s t : ByteArray) (n : Int) : Bool := isNode k && opOk k op && textOk k s && otherOk k t && many k op t n

/-- The box of a node, and what a call that only adds memory leaves of it. -/
structure Bx (w W : World) (k op : Int) (s t : ByteArray) (v : Value) : Prop where
  c0 : W.cell? ⟨w.heap.size, 0, none⟩ = some (.int .i64 k)
  c1 : W.cell? ⟨w.heap.size, 1, none⟩ = some (.int .i64 op)
  c2 : W.cell? ⟨w.heap.size, 2, none⟩ = some (.string s)
  c3 : W.cell? ⟨w.heap.size, 3, none⟩ = some (.string t)
  c4 : W.cell? ⟨w.heap.size, 4, none⟩ = some v
  b : Below w.heap.size w W
  lt : w.heap.size < W.heap.size
theorem Bx.start (w : World) (k op : Int) (s t : ByteArray) (v : Value) (ty : TypeId) : Bx w (w.alloc (.cells #[.int .i64 k, .int .i64 op, .string s, .string t, v] ty)) k op s t v := by
  have hh := heap_alloc_new w (.cells #[.int .i64 k, .int .i64 op, .string s, .string t, v] ty)
  refine ⟨?_, ?_, ?_, ?_, ?_, below_box _ _, by simp⟩
  · rw [cell_of_row _ _ 0 _ _ _ hh]; rfl
  · rw [cell_of_row _ _ 1 _ _ _ hh]; rfl
  · rw [cell_of_row _ _ 2 _ _ _ hh]; rfl
  · rw [cell_of_row _ _ 3 _ _ _ hh]; rfl
  · rw [cell_of_row _ _ 4 _ _ _ hh]; rfl
theorem Bx.keep {w W w1 : World} {k op : Int} {s t : ByteArray} {v : Value} (h : Bx w W k op s t v) (hb : Below W.heap.size W w1) : Bx w w1 k op s t v :=
  ⟨(hb.cell (p := ⟨w.heap.size, 0, none⟩) h.lt).trans h.c0, (hb.cell (p := ⟨w.heap.size, 1, none⟩) h.lt).trans h.c1, (hb.cell (p := ⟨w.heap.size, 2, none⟩) h.lt).trans h.c2, (hb.cell (p := ⟨w.heap.size, 3, none⟩) h.lt).trans h.c3, (hb.cell (p := ⟨w.heap.size, 4, none⟩) h.lt).trans h.c4, h.b.trans (hb.mono (Nat.le_of_lt h.lt)), Nat.lt_of_lt_of_le h.lt hb.size⟩

/-! ### impl's -/
theorem impl_node (k : Int) (w : World) : Calls Tryz.prog 43 #[.int .i64 k] w fun e w' => e = .returned (.bool (isNode k)) ∧ w = w' := by
  go_enter Tryz.func43, Tryz.ntmps43
  go_wp2_with (first | (go_at_call 55; refine (impl_isExpr _ _).mono ?_; rintro e w' ⟨rfl, rfl⟩) | (go_at_call 56; refine (impl_isStmt _ _).mono ?_; rintro e w' ⟨rfl, rfl⟩) | (go_at_call 57; refine (impl_isItem _ _).mono ?_; rintro e w' ⟨rfl, rfl⟩))
  all_goals
    go_ret
    exact ⟨congrArg (fun b => Ending.returned (Value.bool b)) (by simp_all [isNode]), rfl⟩

theorem impl_bin (op : Int) (w : World) : Calls Tryz.prog 58 #[.int .i64 op] w fun e w' => e = .returned (.bool (isBin op)) ∧ w = w' := by
  go_enter Tryz.func58, Tryz.ntmps58
  go_wp2
  all_goals
    go_ret
    exact ⟨congrArg (fun b => Ending.returned (Value.bool b)) (by simp_all [isBin]), rfl⟩

theorem spec_bin (op : Int) (w : World) : Calls Tryz.prog 49 #[.int .i64 op] w fun e w' => e = .returned (.bool (isBin op)) ∧ w = w' := by
  go_enter Tryz.func49, Tryz.ntmps49
  go_wp2
  all_goals
    go_ret
    exact ⟨congrArg (fun b => Ending.returned (Value.bool b)) (by simp_all [isBin]), rfl⟩

theorem spec_asg (op : Int) (w : World) : Calls Tryz.prog 50 #[.int .i64 op] w fun e w' => e = .returned (.bool (op == 54 || inR op 38 43)) ∧ w = w' := by
  go_enter Tryz.func50, Tryz.ntmps50
  go_wp2_with (go_at_call 33; refine (chars.spec_in _ _ _ _).mono ?_; rintro e w' ⟨rfl, rfl⟩)
  all_goals
    go_ret
    exact ⟨congrArg (fun b => Ending.returned (Value.bool b)) (by simp_all), rfl⟩

set_option maxHeartbeats 1600000 in
theorem impl_opK (k op : Int) (s t : ByteArray) (a : Option Addr) (n cap : Nat) (w : World) : Calls Tryz.prog 44 #[.agg #[.int .i64 k, .int .i64 op, .string s, .string t, .slice a n cap]] w fun e w' => e = .returned (.bool (opOk k op)) ∧ Below w.heap.size w w' := by
  go_enter Tryz.func44, Tryz.ntmps44
  go_wp2_with (go_at_call 58; refine (impl_bin _ _).mono ?_; rintro e w' ⟨rfl, rfl⟩)
  all_goals
    go_ret
    exact ⟨congrArg (fun b => Ending.returned (Value.bool b)) (by first | (simp_all [opOk, inR]; done) | (simp_all [opOk, inR]; omega)), below_box _ _⟩

set_option maxHeartbeats 1600000 in
theorem spec_opK (k op : Int) (s t : ByteArray) (a : Option Addr) (n cap : Nat) (w : World) : Calls Tryz.prog 36 #[.agg #[.int .i64 k, .int .i64 op, .string s, .string t, .slice a n cap]] w fun e w' => e = .returned (.bool (opOk k op)) ∧ Below w.heap.size w w' := by
  go_enter Tryz.func36, Tryz.ntmps36
  go_wp2_with (first | (go_at_call 49; refine (spec_bin _ _).mono ?_; rintro e w' ⟨rfl, rfl⟩) | (go_at_call 50; refine (spec_asg _ _).mono ?_; rintro e w' ⟨rfl, rfl⟩) | (go_at_call 33; refine (chars.spec_in _ _ _ _).mono ?_; rintro e w' ⟨rfl, rfl⟩))
  all_goals
    go_ret
    exact ⟨congrArg (fun b => Ending.returned (Value.bool b)) (by first | (simp_all [opOk]; done) | (rw [Bool.eq_iff_iff]; simp_all [opOk, inR]; omega)), below_box _ _⟩

set_option maxHeartbeats 1600000 in
theorem impl_text (k op : Int) (s t : ByteArray) (a : Option Addr) (n cap : Nat) (w : World) (hs : s.size ≤ 1048576) (hh : Held w) : Calls Tryz.prog 45 #[.agg #[.int .i64 k, .int .i64 op, .string s, .string t, .slice a n cap]] w fun e w' => e = .returned (.bool (textOk k s)) ∧ Below w.heap.size w w' := by
  have HH := Lib.hid (hh.below (below_box w (.cells #[.int .i64 k, .int .i64 op, .string s, .string t, .slice a n cap] 36)))
  clear hh
  go_enter Tryz.func45, Tryz.ntmps45
  go_wp2_with (first | (go_at_call 59; refine (spell.impl_name s _ hs HH.out).mono ?_; rintro e w' ⟨rfl, rfl⟩) | (go_at_call 60; refine (toks.impl_builtin s _).mono ?_; rintro e w' ⟨rfl, rfl⟩) | (go_at_call 61; refine (tok.impl_tok _ _ s _ hs HH.out).mono ?_; rintro e w1 ⟨rfl, b1⟩))
  all_goals
    go_ret
    exact ⟨congrArg (fun b => Ending.returned (Value.bool b)) (by simp_all [textOk]), by first | exact below_box _ _ | exact (below_box w _).trans ((by assumption : Below _ _ _).mono (by simp))⟩

set_option maxHeartbeats 1600000 in
theorem impl_other (k op : Int) (s t : ByteArray) (a : Option Addr) (n cap : Nat) (w : World) (ht : t.size ≤ 1048576) (hh : Held w) : Calls Tryz.prog 46 #[.agg #[.int .i64 k, .int .i64 op, .string s, .string t, .slice a n cap]] w fun e w' => e = .returned (.bool (otherOk k t)) ∧ Below w.heap.size w w' := by
  have HH := Lib.hid (hh.below (below_box w (.cells #[.int .i64 k, .int .i64 op, .string s, .string t, .slice a n cap] 36)))
  clear hh
  go_enter Tryz.func46, Tryz.ntmps46
  go_wp2_with (go_at_call 59; refine (spell.impl_name t _ ht HH.out).mono ?_; rintro e w' ⟨rfl, rfl⟩)
  all_goals
    go_ret
    exact ⟨congrArg (fun b => Ending.returned (Value.bool b)) (by simp_all [otherOk]), below_box _ _⟩

theorem impl_prl (k op : Int) (s t : ByteArray) (a : Option Addr) (n cap : Nat) (w : World) (h0 : 0 ≤ op) (h1 : op ≤ 3) : Calls Tryz.prog 62 #[.agg #[.int .i64 k, .int .i64 op, .string s, .string t, .slice a n cap]] w fun e w' => e = .returned (.tuple (if t.toList.isEmpty = true then #[.int .i64 op, .int .i64 6] else #[.int .i64 (op + 1), .int .i64 7])) ∧ Below w.heap.size w w' := by
  go_enter Tryz.func62, Tryz.ntmps62
  go_wp2
  all_goals
    go_ret2
    exact ⟨by simp_all, below_box _ _⟩

theorem impl_rul (k op : Int) (s t : ByteArray) (a : Option Addr) (n cap : Nat) (w : World) (m : Int) (h0 : 0 ≤ m) (h1 : m ≤ 3) : Calls Tryz.prog 63 #[.agg #[.int .i64 k, .int .i64 op, .string s, .string t, .slice a n cap], .int .i64 m] w fun e w' => e = .returned (.tuple (if op = 3 then #[.int .i64 (m + 1), .int .i64 (m + 1)] else #[.int .i64 m, .int .i64 m])) ∧ Below w.heap.size w w' := by
  go_enter Tryz.func63, Tryz.ntmps63
  go_wp2
  all_goals
    go_ret2
    exact ⟨by simp_all, below_box _ _⟩

theorem op_print {op : Int} (h : opOk 21 op = true) : 0 ≤ op ∧ op ≤ 3 := by
  simp [opOk] at h
  omega
set_option maxHeartbeats 3200000 in
theorem impl_lim (k op : Int) (s t : ByteArray) (a : Option Addr) (n cap : Nat) (w : World) (ho : opOk k op = true) : Calls Tryz.prog 47 #[.agg #[.int .i64 k, .int .i64 op, .string s, .string t, .slice a n cap]] w fun e w' => e = .returned (.tuple #[.int .i64 (lim 9223372036854775807 k op t).1, .int .i64 (lim 9223372036854775807 k op t).2]) ∧ Below w.heap.size w w' := by
  by_cases h21 : k = 21
  · subst h21
    obtain ⟨h0, h1⟩ := op_print ho
    cases ht : t.toList.isEmpty
    · go_enter Tryz.func47, Tryz.ntmps47
      go_wp2_with fail
      refine (impl_prl _ _ _ _ _ _ _ _ h0 h1).mono ?_
      rw [ht]
      rintro e w1 ⟨rfl, b1⟩
      go_wp2
      go_ret2
      exact ⟨by simp [lim, lim0, ht], (below_box w _).trans (b1.mono (by simp))⟩
    · go_enter Tryz.func47, Tryz.ntmps47
      go_wp2_with fail
      refine (impl_prl _ _ _ _ _ _ _ _ h0 h1).mono ?_
      rw [ht]
      rintro e w1 ⟨rfl, b1⟩
      go_wp2
      go_ret2
      exact ⟨by simp [lim, lim0, ht], (below_box w _).trans (b1.mono (by simp))⟩
  have HO := Lib.hid ho
  clear ho
  by_cases h42 : k = 42 ∨ k = 43
  · by_cases h3 : op = 3
    · subst h3
      rcases h42 with rfl | rfl
      all_goals
        go_enter Tryz.func47, Tryz.ntmps47
        go_wp2_with fail
        refine (impl_rul _ _ _ _ _ _ _ _ _ (by decide) (by decide)).mono ?_
        rw [if_pos rfl]
        rintro e w1 ⟨rfl, b1⟩
        go_wp2
        go_ret2
        exact ⟨by simp [lim, lim0], (below_box w _).trans (b1.mono (by simp))⟩
    · rcases h42 with rfl | rfl
      all_goals
        go_enter Tryz.func47, Tryz.ntmps47
        go_wp2_with fail
        refine (impl_rul _ _ _ _ _ _ _ _ _ (by decide) (by decide)).mono ?_
        rw [if_neg h3]
        rintro e w1 ⟨rfl, b1⟩
        go_wp2
        go_ret2
        exact ⟨by simp [lim, lim0, h3], (below_box w _).trans (b1.mono (by simp))⟩
  obtain ⟨d21, -⟩ := ne_facts h21
  obtain ⟨d42, -⟩ := ne_facts (fun e => h42 (.inl e))
  obtain ⟨d43, -⟩ := ne_facts (fun e => h42 (.inr e))
  go_enter Tryz.func47, Tryz.ntmps47
  go_wp2
  all_goals
    go_ret2
    exact ⟨by simp_all [lim, lim0], below_box _ _⟩
end Go.Proofs.YtckeepjfbpphaaaGreatDoor.rt
