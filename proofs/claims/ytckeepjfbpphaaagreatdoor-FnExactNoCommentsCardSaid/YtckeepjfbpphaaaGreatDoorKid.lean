/-
  Right kids: which kinds a node's kids may have (the model's form, the program's form, and that they are one), and the functions of both sides on one kid: contracts.
-/
import Derived.Test.YtckeepjfbpphaaaGreatDoorFields
namespace Go.Proofs.YtckeepjfbpphaaaGreatDoor.rt
open Go.ChangeShapes Go.WideShapes Go.ChangeAt Go.RowKit
open chars (inR)
open tok (below_box)
set_option linter.unusedVariables false
set_option linter.unusedSimpArgs false

def wants (k op n p : Int) : Bool :=
  if k = 28 ∨ k = 29 then decide (0 < p)
  else if k = 30 then p == 0
  else if k = 32 ∨ k = 40 ∨ k = 41 then true
  else if k = 31 ∨ k = 44 then p == n - 1
  else if k = 42 ∨ k = 43 then p == n - 1 && op != 1
  else false
def kidI (wb : Bool) (k p q : Int) : Bool :=
  if wb = true then q == 33
  else if k = 9 ∨ k = 10 then isLval q
  else if k = 15 then isExpr q && (decide (0 < p) || isLval q)
  else if k = 31 then isExpr q || q == 16
  else if k = 33 then isStmt q
  else if k = 44 then q == 1
  else if k = 45 then isItem q || q == 34
  else isExpr q
def kid (k op n p q : Int) : Bool :=
  if k = 9 ∨ k = 10 then isLval q
  else if k = 15 then isExpr q && (decide (0 < p) || isLval q)
  else if k = 28 then (p == 0 && isExpr q) || (decide (0 < p) && q == 33)
  else if k = 29 then (p == 0 && isExpr q) || (p == 1 && q == 33)
  else if k = 30 then (p == 0 && q == 33) || (p == 1 && isExpr q)
  else if k = 31 then (decide (p < 3) && (isExpr q || q == 16)) || (p == 3 && q == 33)
  else if k = 32 ∨ k = 40 ∨ k = 41 then q == 33
  else if k = 33 then isStmt q
  else if k = 42 then (op == 1 && isExpr q) || (op == 2 && q == 33) || (op == 3 && ((p == n - 1 && q == 33) || (!(p == n - 1) && isExpr q)))
  else if k = 43 then (decide (p < 2) && isExpr q) || (p == 2 && q == 33)
  else if k = 44 then (p == n - 1 && q == 33) || (!(p == n - 1) && q == 1)
  else if k = 45 then isItem q || q == 34
  else isExpr q

theorem fields_parts {k op : Int} {s t : ByteArray} {n : Int} (h : fieldsOk k op s t n = true) : opOk k op = true ∧ (lim n k op t).1 ≤ n ∧ n ≤ (lim n k op t).2 := by
  simp [fieldsOk, many] at h
  exact ⟨h.1.1.1.2, h.2.1, h.2.2⟩
theorem kid_eq {k op : Int} {s t : ByteArray} {n p q : Int} (h : fieldsOk k op s t n = true) (h0 : 0 ≤ p) (h1 : p < n) : kidI (wants k op n p) k p q = kid k op n p q := by
  obtain ⟨ho, l0, l1⟩ := fields_parts h
  clear h
  by_cases h28 : k = 28
  · subst h28
    by_cases hp : p = 0
    · subst hp; simp [kidI, wants, kid]
    · have h2 : 0 < p := by omega
      simp [kidI, wants, kid, hp, h2]
  by_cases h29 : k = 29
  · subst h29
    simp [lim, lim0] at l0 l1
    obtain rfl | rfl : p = 0 ∨ p = 1 := by omega
    · simp [kidI, wants, kid]
    · simp [kidI, wants, kid]
  by_cases h30 : k = 30
  · subst h30
    simp [lim, lim0] at l0 l1
    obtain rfl | rfl : p = 0 ∨ p = 1 := by omega
    · simp [kidI, wants, kid]
    · simp [kidI, wants, kid]
  by_cases h31 : k = 31
  · subst h31
    simp [lim, lim0] at l0 l1
    obtain rfl : n = 4 := by omega
    obtain rfl | rfl | rfl | rfl : p = 0 ∨ p = 1 ∨ p = 2 ∨ p = 3 := by omega
    all_goals simp [kidI, wants, kid]
  by_cases h32 : k = 32 ∨ k = 40 ∨ k = 41
  · rcases h32 with rfl | rfl | rfl
    all_goals simp [kidI, wants, kid]
  by_cases h42 : k = 42
  · subst h42
    obtain rfl | rfl | rfl : op = 1 ∨ op = 2 ∨ op = 3 := by simp [opOk, inR] at ho; omega
    all_goals simp [lim, lim0] at l0 l1
    · simp [kidI, wants, kid]
    · obtain rfl : n = 1 := by omega
      obtain rfl : p = 0 := by omega
      simp [kidI, wants, kid]
    · obtain rfl : n = 2 := by omega
      obtain rfl | rfl : p = 0 ∨ p = 1 := by omega
      all_goals simp [kidI, wants, kid]
  by_cases h43 : k = 43
  · subst h43
    obtain rfl | rfl : op = 1 ∨ op = 3 := by simp [opOk] at ho; omega
    all_goals simp [lim, lim0] at l0 l1
    · obtain rfl : n = 2 := by omega
      obtain rfl | rfl : p = 0 ∨ p = 1 := by omega
      all_goals simp [kidI, wants, kid]
    · obtain rfl : n = 3 := by omega
      obtain rfl | rfl | rfl : p = 0 ∨ p = 1 ∨ p = 2 := by omega
      all_goals simp [kidI, wants, kid]
  by_cases h44 : k = 44
  · subst h44
    by_cases hp : p = n - 1
    · subst hp; simp [kidI, wants, kid]
    · have hf : (p == n - 1) = false := by simpa using hp
      simp [kidI, wants, kid, hf]
  have hw : wants k op n p = false := by simp [wants, h28, h29, h30, h31, h44, h42, h43, h32]
  rw [hw]
  simp only [kidI, kid]
  simp [h28, h29, h30, h31, h44, h42, h43, h32]


set_option maxHeartbeats 1600000 in
theorem impl_wants (k op : Int) (s t : ByteArray) (a : Option Addr) (n cap : Nat) (p : Int) (w : World) (hn : n ≤ 1048576) : Calls Tryz.prog 64 #[.agg #[.int .i64 k, .int .i64 op, .string s, .string t, .slice a n cap], .int .i64 p] w fun e w' => e = .returned (.bool (wants k op n p)) ∧ Below w.heap.size w w' := by
  go_enter Tryz.func64, Tryz.ntmps64
  go_wp2
  all_goals
    go_ret
    exact ⟨congrArg (fun b => Ending.returned (Value.bool b)) (by simp_all [wants]), by first | exact below_box _ _ | exact tok.below_drewN (below_box _ _) _⟩

set_option maxHeartbeats 3200000 in
theorem impl_kidW (k op : Int) (s t : ByteArray) (a : Option Addr) (n cap : Nat) (p : Int) (w : World) (hn : n ≤ 1048576) (q : Int) : Calls Tryz.prog 48 #[.agg #[.int .i64 k, .int .i64 op, .string s, .string t, .slice a n cap], .int .i64 p, .int .i64 q] w fun e w' => e = .returned (.bool (kidI (wants k op n p) k p q)) ∧ Below w.heap.size w w' := by
  have HS := Bx.start w k op s t (.slice a n cap) 36
  cases hw : wants k op n p
  · go_enter Tryz.func48, Tryz.ntmps48
    go_wp2_with fail
    refine (impl_wants k op s t a n cap p _ hn).mono ?_
    rw [hw]
    rintro e w1 ⟨rfl, b1⟩
    have B1 := Lib.hid (HS.keep b1)
    obtain ⟨c0, c1, c2, c3, c4, -, -⟩ := B1.out
    clear HS hw b1
    go_wp2_with (first | (go_at_call 65; refine (impl_isLval _ _).mono ?_; rintro e w' ⟨rfl, rfl⟩) | (go_at_call 55; refine (impl_isExpr _ _).mono ?_; rintro e w' ⟨rfl, rfl⟩) | (go_at_call 56; refine (impl_isStmt _ _).mono ?_; rintro e w' ⟨rfl, rfl⟩) | (go_at_call 57; refine (impl_isItem _ _).mono ?_; rintro e w' ⟨rfl, rfl⟩))
    all_goals
      go_ret
      exact ⟨congrArg (fun b => Ending.returned (Value.bool b)) (by clear c0 c1 c2 c3 c4; simp_all [kidI]), B1.out.b⟩
  · go_enter Tryz.func48, Tryz.ntmps48
    go_wp2_with fail
    refine (impl_wants k op s t a n cap p _ hn).mono ?_
    rw [hw]
    rintro e w1 ⟨rfl, b1⟩
    go_wp2
    go_ret
    exact ⟨congrArg (fun b => Ending.returned (Value.bool b)) (by simp [kidI]), (HS.keep b1).b⟩

set_option maxRecDepth 20000 in
set_option maxHeartbeats 3200000 in
theorem spec_kid (k op : Int) (s t : ByteArray) (a : Option Addr) (n cap : Nat) (p : Int) (w : World) (hn : n ≤ 1048576) (q : Int) (h0 : 0 ≤ p) : Calls Tryz.prog 25 #[.agg #[.int .i64 k, .int .i64 op, .string s, .string t, .slice a n cap], .int .i64 p, .int .i64 q] w fun e w' => e = .returned (.bool (kid k op n p q)) ∧ Below w.heap.size w w' := by
  go_enter Tryz.func25, Tryz.ntmps25
  go_wp2_with (first | (go_at_call 38; refine (spec_isLval _ _).mono ?_; rintro e w' ⟨rfl, rfl⟩) | (go_at_call 39; refine (spec_isExpr _ _).mono ?_; rintro e w' ⟨rfl, rfl⟩) | (go_at_call 40; refine (spec_isStmt _ _).mono ?_; rintro e w' ⟨rfl, rfl⟩) | (go_at_call 33; refine (chars.spec_in _ _ _ _).mono ?_; rintro e w' ⟨rfl, rfl⟩))
  all_goals
    go_ret
    exact ⟨congrArg (fun b => Ending.returned (Value.bool b)) (by first | (simp_all [kid, isItem]; done) | (simp_all [kid]; omega) | (simp_all [kid]; intro h; omega)), by first | exact below_box _ _ | exact tok.below_drewN (below_box _ _) _⟩
end Go.Proofs.YtckeepjfbpphaaaGreatDoor.rt
