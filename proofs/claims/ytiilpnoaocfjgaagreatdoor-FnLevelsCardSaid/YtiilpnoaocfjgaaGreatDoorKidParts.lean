/-
  The positions of kids: what impl.KidPos and spec.KidPos call: contracts.
-/
import Derived.Test.YtiilpnoaocfjgaaGreatDoorPos
namespace Go.Proofs.YtiilpnoaocfjgaaGreatDoor.ps
open Go.ChangeShapes Go.WideShapes Go.ChangeAt Go.RowKit
open chars (inR)
open lv (levelOf opLevel box_below Bx)
set_option linter.unusedVariables false
set_option maxRecDepth 20000


/-! ### A position's box as a block -/
def B5 (q : Nat) (L : Int) (d i g s : Bool) (w : World) : Prop := w.heap[q]? = some (.cells #[.int .i64 L, .bool d, .bool i, .bool g, .bool s] 26 (0, 0))
section
variable {q : Nat} {L : Int} {d i g s : Bool} {w w' : World}
theorem B5.lt (h : B5 q L d i g s w) : q < w.heap.size := by
  rcases Nat.lt_or_ge q w.heap.size with h' | h'
  · exact h'
  · unfold B5 at h; rw [Array.getElem?_eq_none h'] at h; cases h
theorem B5.keep {B : Nat} (h : B5 q L d i g s w) (hb : Below B w w') (hq : q < B) : B5 q L d i g s w' := (hb.block q hq).trans h
theorem B5.drew (h : B5 q L d i g s w) : B5 q L d i g s w.drew := h
theorem B5.c (h : B5 q L d i g s w) : w.cell? ⟨q, 0, none⟩ = some (.int .i64 L) ∧ w.cell? ⟨q, 1, none⟩ = some (.bool d) ∧ w.cell? ⟨q, 2, none⟩ = some (.bool i) ∧ w.cell? ⟨q, 3, none⟩ = some (.bool g) ∧ w.cell? ⟨q, 4, none⟩ = some (.bool s) :=
  ⟨by rw [cell_of_row w q 0 _ _ _ h]; rfl, by rw [cell_of_row w q 1 _ _ _ h]; rfl, by rw [cell_of_row w q 2 _ _ _ h]; rfl, by rw [cell_of_row w q 3 _ _ _ h]; rfl, by rw [cell_of_row w q 4 _ _ _ h]; rfl⟩
theorem B5.f (h : B5 q L d i g s w) (j : Nat) : w.frozen? ⟨q, j, none⟩ = false := frozen_of_row w q j _ _ h
theorem B5.new (w : World) (L : Int) (d i g s : Bool) : B5 w.heap.size L d i g s (w.alloc (.cells #[.int .i64 L, .bool d, .bool i, .bool g, .bool s] 26)) := heap_alloc_new w _
/-- Five stores. -/
def set5 (w : World) (q : Nat) (L : Int) (d i g s : Bool) : World := ((((w.setCell ⟨q, 0, none⟩ (.int .i64 L)).setCell ⟨q, 1, none⟩ (.bool d)).setCell ⟨q, 2, none⟩ (.bool i)).setCell ⟨q, 3, none⟩ (.bool g)).setCell ⟨q, 4, none⟩ (.bool s)
theorem B5.put (h : B5 q L d i g s w) (L' : Int) (d' i' g' s' : Bool) : B5 q L' d' i' g' s' (set5 w q L' d' i' g' s') :=
  heap_setCell_same _ q 4 _ _ _ (heap_setCell_same _ q 3 _ _ _ (heap_setCell_same _ q 2 _ _ _ (heap_setCell_same _ q 1 _ _ _ (heap_setCell_same _ q 0 _ _ _ h))))
theorem B5.cput (h : B5 q L d i g s w) (L' : Int) (d' i' g' s' : Bool) : (((((w.setCell ⟨q, 0, none⟩ (.int .i64 L')).setCell ⟨q, 1, none⟩ (.bool d')).setCell ⟨q, 2, none⟩ (.bool i')).setCell ⟨q, 3, none⟩ (.bool g')).setCell ⟨q, 4, none⟩ (.bool s')).cell? ⟨q, 0, none⟩ = some (.int .i64 L') ∧ (((((w.setCell ⟨q, 0, none⟩ (.int .i64 L')).setCell ⟨q, 1, none⟩ (.bool d')).setCell ⟨q, 2, none⟩ (.bool i')).setCell ⟨q, 3, none⟩ (.bool g')).setCell ⟨q, 4, none⟩ (.bool s')).cell? ⟨q, 1, none⟩ = some (.bool d') ∧ (((((w.setCell ⟨q, 0, none⟩ (.int .i64 L')).setCell ⟨q, 1, none⟩ (.bool d')).setCell ⟨q, 2, none⟩ (.bool i')).setCell ⟨q, 3, none⟩ (.bool g')).setCell ⟨q, 4, none⟩ (.bool s')).cell? ⟨q, 2, none⟩ = some (.bool i') ∧ (((((w.setCell ⟨q, 0, none⟩ (.int .i64 L')).setCell ⟨q, 1, none⟩ (.bool d')).setCell ⟨q, 2, none⟩ (.bool i')).setCell ⟨q, 3, none⟩ (.bool g')).setCell ⟨q, 4, none⟩ (.bool s')).cell? ⟨q, 3, none⟩ = some (.bool g') ∧ (((((w.setCell ⟨q, 0, none⟩ (.int .i64 L')).setCell ⟨q, 1, none⟩ (.bool d')).setCell ⟨q, 2, none⟩ (.bool i')).setCell ⟨q, 3, none⟩ (.bool g')).setCell ⟨q, 4, none⟩ (.bool s')).cell? ⟨q, 4, none⟩ = some (.bool s') :=
  (h.put L' d' i' g' s').c
theorem below_set5 {B : Nat} {W : World} (h : Below B W w) (hq : B ≤ q) (L' : Int) (d' i' g' s' : Bool) : Below B W (set5 w q L' d' i' g' s') :=
  ((((h.setCell (p := ⟨q, 0, none⟩) hq _).setCell (p := ⟨q, 1, none⟩) hq _).setCell (p := ⟨q, 2, none⟩) hq _).setCell (p := ⟨q, 3, none⟩) hq _).setCell (p := ⟨q, 4, none⟩) hq _
end
/-- The levels of the two sides, by an operator's level. -/
def sdI (v : Int) : Int × Int :=
  if v = 3 then (3, 4) else if v = 4 then (4, 5) else if v = 6 then (7, 7) else if v = 7 then (8, 8) else if v = 8 then (8, 9) else if v = 9 then (9, 10) else if v = 10 then (10, 11) else if v = 12 then (13, 11) else (0, 0)
def sdS (v : Int) : Int × Int :=
  if v = 3 then (3, 4) else if v = 4 then (4, 5) else if v = 6 then (7, 7) else if v = 7 then (8, 8) else if v = 8 then (8, 9) else if v = 9 then (9, 10) else if v = 10 then (10, 11) else (13, 11)
def lvls (k op : Int) : Int × Int :=
  if k = 15 then (14, 1) else if k = 14 then (3, 2) else if k = 13 then (5, 5) else if k = 11 then (11, 11) else if k = 9 ∨ k = 10 ∨ k = 6 then (14, 14) else sdI (opLevel op)
def brk (k op : Int) (n : Nat) : Bool := levelOf k op == 15 || (k == 13 && decide (1 < n))
def nsI (k op K : Int) (s : Bool) : Bool :=
  if k = 11 ∨ k = 9 ∨ k = 10 ∨ k = 6 then false else if k = 12 ∧ K = 1 ∧ op = 99 then true else (K == 0 && s)

set_option maxHeartbeats 1600000 in
theorem impl_sides (op : Int) (w : World) : Calls Tryz.prog 355 #[.int .i64 op] w fun e w' => e = .returned (.tuple #[.int .i64 (sdI (opLevel op)).1, .int .i64 (sdI (opLevel op)).2]) ∧ Below w.heap.size w w' := by
  obtain ⟨V, hV⟩ : ∃ V, opLevel op = V := ⟨_, rfl⟩
  have HV := Lib.hid hV
  clear hV
  have HO := Lib.hid (lv.impl_op op w)
  rw [HV.out] at HO ⊢
  go_enter Tryz.func355, Tryz.ntmps355
  go_wp2_with (go_at_call 37; refine HO.out.mono ?_; rintro e w1 ⟨rfl, b1⟩)
  all_goals
    go_ret2
    exact ⟨by simp_all [sdI], b1⟩

set_option maxHeartbeats 1600000 in
theorem spec_sides (op : Int) (w : World) : Calls Tryz.prog 203 #[.int .i64 op] w fun e w' => e = .returned (.tuple #[.int .i64 (sdS (opLevel op)).1, .int .i64 (sdS (opLevel op)).2]) ∧ w = w' := by
  obtain ⟨V, hV⟩ : ∃ V, opLevel op = V := ⟨_, rfl⟩
  have HV := Lib.hid hV
  clear hV
  have HO := Lib.hid (lv.spec_op op w)
  rw [HV.out] at HO ⊢
  go_enter Tryz.func203, Tryz.ntmps203
  go_wp2_with (go_at_call 281; refine HO.out.mono ?_; rintro e w1 ⟨rfl, rfl⟩)
  all_goals
    go_ret2
    exact ⟨by simp_all [sdS], rfl⟩

set_option maxHeartbeats 1600000 in
theorem impl_lvls (k op : Int) (x y : ByteArray) (a : Option Addr) (n cap : Nat) (w : World) : Calls Tryz.prog 331 #[.agg #[.int .i64 k, .int .i64 op, .string x, .string y, .slice a n cap]] w fun e w' => e = .returned (.tuple #[.int .i64 (lvls k op).1, .int .i64 (lvls k op).2]) ∧ Below w.heap.size w w' := by
  obtain ⟨p, hp⟩ : ∃ p, sdI (opLevel op) = p := ⟨_, rfl⟩
  obtain ⟨p1, p2⟩ := p
  have HQ := Lib.hid hp
  clear hp
  have HO := Lib.hid (fun W => impl_sides op W)
  rw [HQ.out] at HO
  dsimp only at HO
  go_enter Tryz.func331, Tryz.ntmps331
  go_wp2_with (go_at_call 355; refine (HO.out _).mono ?_; rintro e w1 ⟨rfl, b1⟩)
  all_goals
    go_ret2
    exact ⟨by have := HQ.out; simp_all [lvls], by first | exact box_below _ _ | exact (box_below w _).trans ((by assumption : Below _ _ _).mono (by simp))⟩

theorem impl_kidLevel (k op K : Int) (x y : ByteArray) (a : Option Addr) (n cap : Nat) (w : World) : Calls Tryz.prog 272 #[.agg #[.int .i64 k, .int .i64 op, .string x, .string y, .slice a n cap], .int .i64 K] w fun e w' => e = .returned (.int .i64 (if K = 0 then (lvls k op).1 else (lvls k op).2)) ∧ Below w.heap.size w w' := by
  obtain ⟨p, hp⟩ : ∃ p, lvls k op = p := ⟨_, rfl⟩
  obtain ⟨p1, p2⟩ := p
  have HO := Lib.hid (fun W => impl_lvls k op x y a n cap W)
  rw [hp] at HO ⊢
  clear hp
  dsimp only at HO ⊢
  by_cases h0 : K = 0
  · subst h0
    go_enter Tryz.func272, Tryz.ntmps272
    go_wp2_with (go_at_call 331; refine (HO.out _).mono ?_; rintro e w1 ⟨rfl, b1⟩)
    go_ret
    exact ⟨rfl, (box_below w _).trans (b1.mono (by simp))⟩
  · rw [if_neg h0]
    go_enter Tryz.func272, Tryz.ntmps272
    go_wp2_with (go_at_call 331; refine (HO.out _).mono ?_; rintro e w1 ⟨rfl, b1⟩)
    go_ret
    exact ⟨rfl, (box_below w _).trans (b1.mono (by simp))⟩

set_option maxHeartbeats 1600000 in
theorem impl_brk (k op : Int) (x y : ByteArray) (a : Option Addr) (n cap : Nat) (w : World) (hn : n ≤ 1048576) : Calls Tryz.prog 271 #[.agg #[.int .i64 k, .int .i64 op, .string x, .string y, .slice a n cap]] w fun e w' => e = .returned (.bool (brk k op n)) ∧ Below w.heap.size w w' := by
  obtain ⟨V, hV⟩ : ∃ V, levelOf k op = V := ⟨_, rfl⟩
  have HV := Lib.hid hV
  clear hV
  have HB := Lib.hid (Bx.start w k op x y (.slice a n cap) 60)
  by_cases h15 : V = 15
  · subst h15
    have HE := Lib.hid (show brk k op n = true by unfold brk; rw [HV.out]; rfl)
    go_enter Tryz.func271, Tryz.ntmps271
    go_wp2_with (go_at_call 156; refine (lv.impl_level k op x y a n cap _).mono ?_; rw [HV.out]; rintro e w1 ⟨rfl, b1⟩; have X1 := Lib.hid (HB.out.keep b1); obtain ⟨c0, c1, c2, c3, c4, -, -⟩ := X1.out; clear b1)
    go_ret
    exact ⟨by rw [HE.out]; rfl, X1.out.b⟩
  have hv : (V == 15) = false := by simp [h15]
  by_cases h13 : k = 13
  · have HE := Lib.hid (show brk k op n = decide (1 < n) by unfold brk; rw [HV.out, hv, h13]; rfl)
    subst h13
    by_cases h1 : 1 < n
    · have h2 : (1 : Int) < (n : Int) := by omega
      go_enter Tryz.func271, Tryz.ntmps271
      go_wp2_with (go_at_call 156; refine (lv.impl_level 13 op x y a n cap _).mono ?_; rw [HV.out]; rintro e w1 ⟨rfl, b1⟩; have X1 := Lib.hid (HB.out.keep b1); obtain ⟨c0, c1, c2, c3, c4, -, -⟩ := X1.out; clear b1)
      go_ret
      exact ⟨by rw [HE.out, decide_eq_true h1]; rfl, X1.out.b⟩
    · have h2 : ¬ (1 : Int) < (n : Int) := by omega
      have h3 : decide ((1 : Int) < (n : Int)) = false := decide_eq_false h2
      go_enter Tryz.func271, Tryz.ntmps271
      go_wp2_with (go_at_call 156; refine (lv.impl_level 13 op x y a n cap _).mono ?_; rw [HV.out]; rintro e w1 ⟨rfl, b1⟩; have X1 := Lib.hid (HB.out.keep b1); obtain ⟨c0, c1, c2, c3, c4, -, -⟩ := X1.out; clear b1)
      go_ret
      exact ⟨by rw [HE.out, decide_eq_false h1, ← h3]; rfl, X1.out.b⟩
  · have HE := Lib.hid (show brk k op n = false by unfold brk; rw [HV.out, hv]; simp [h13])
    go_enter Tryz.func271, Tryz.ntmps271
    go_wp2_with (go_at_call 156; refine (lv.impl_level k op x y a n cap _).mono ?_; rw [HV.out]; rintro e w1 ⟨rfl, b1⟩; have X1 := Lib.hid (HB.out.keep b1); obtain ⟨c0, c1, c2, c3, c4, -, -⟩ := X1.out; clear b1)
    go_ret
    exact ⟨by rw [HE.out]; rfl, X1.out.b⟩

set_option maxHeartbeats 1600000 in
theorem impl_ns (k op K L : Int) (x y : ByteArray) (a : Option Addr) (n cap : Nat) (d i g s : Bool) (w : World) : Calls Tryz.prog 273 #[.agg #[.int .i64 k, .int .i64 op, .string x, .string y, .slice a n cap], .int .i64 K, .agg #[.int .i64 L, .bool d, .bool i, .bool g, .bool s]] w fun e w' => e = .returned (.bool (nsI k op K s)) ∧ Below w.heap.size w w' := by
  by_cases h0 : K = 0
  · subst h0
    go_enter Tryz.func273, Tryz.ntmps273
    go_wp2
    all_goals
      go_ret
      exact ⟨congrArg (fun b => Ending.returned (Value.bool b)) (by simp_all [nsI]), (box_below w _).trans ((box_below _ _).mono (by simp))⟩
  · by_cases h1 : K = 1
    · subst h1
      go_enter Tryz.func273, Tryz.ntmps273
      go_wp2
      all_goals
        go_ret
        exact ⟨congrArg (fun b => Ending.returned (Value.bool b)) (by simp_all [nsI]), (box_below w _).trans ((box_below _ _).mono (by simp))⟩
    · go_enter Tryz.func273, Tryz.ntmps273
      go_wp2
      all_goals
        go_ret
        exact ⟨congrArg (fun b => Ending.returned (Value.bool b)) (by simp_all [nsI]), (box_below w _).trans ((box_below _ _).mono (by simp))⟩
end Go.Proofs.YtiilpnoaocfjgaaGreatDoor.ps
