/-
  DepthOf of both sides: contracts.
-/
import Derived.Test.YtldkhdoboieibaaDoorDepthMath
import Derived.Test.YtldkhdoboieibaaDoorShapeImpl
import Derived.BigRegion
namespace Go.Proofs.YtldkhdoboieibaaDoor.nd
open Go.ChangeShapes Go.WideShapes Go.ChangeAt Go.RowKit
set_option linter.unusedVariables false

def RelDs (B : Nat) (W : World) (l : List Nd) (v i : Value) (wr : World) : Prop :=
  ∃ (I : Nat) (d : List Nat), I ≤ l.length ∧ OwnI B v (ints d) wr ∧ i = .int .i64 (I : Int) ∧ d.length = I ∧ Deep d ∧ dF (l.drop I) d = dF l [] ∧ Below B W wr
def RelDk (d : List Nat) (kids : List Int) (n k : Value) : Prop :=
  ∃ J : Nat, J ≤ kids.length ∧ n = .int .i64 ((mx d (kids.take J) : Nat) + 1 : Int) ∧ k = .int .i64 (J : Int)

/-! ### impl.DepthOf -/
theorem IBlk.set {w : World} {g n : Nat} {l : List Int} (h : IBlk w g n l) (i : Nat) (v : Int) : IBlk (w.setCell ⟨g, i, none⟩ (.int .i64 v)) g n (l.set i v) := by
  obtain ⟨c, hc, hs, hl, hx⟩ := h
  refine ⟨c.setIfInBounds i (.int .i64 v), heap_setCell_same _ g _ _ _ _ hc, by simpa using hs, by simpa using hl, fun j hj => ?_⟩
  simp at hj
  rw [Array.getElem?_setIfInBounds, List.getElem_set]
  by_cases he : i = j
  · subst he
    rw [if_pos rfl, if_pos rfl, if_pos (by omega)]
  · rw [if_neg he, if_neg he]
    exact hx j hj
theorem IBlk.zeros (w : World) (n : Nat) : IBlk (w.alloc (.cells (madeCells #[.int .i64 0] n) 3)) w.heap.size n (List.replicate n 0) := by
  refine ⟨_, heap_alloc_new w _, by simp [madeCells], by simp, fun i hi => ?_⟩
  simp at hi
  simp [madeCells, hi, Nat.mod_one]
/-- The depths so far, and noughts. -/
def pad (d : List Nat) (n : Nat) : List Int := ints d ++ List.replicate (n - d.length) 0
theorem pad_len {d : List Nat} {n : Nat} (h : d.length ≤ n) : (pad d n).length = n := by simp [pad, ints]; omega
theorem pad_get {d : List Nat} {n Y : Nat} (h : Y < d.length) (hn : d.length ≤ n) : (pad d n)[Y]'(by rw [pad_len hn]; omega) = (d[Y] : Int) := by
  unfold pad
  rw [List.getElem_append_left (by rw [ints_len]; exact h), ints_get h]
theorem pad_set {d : List Nat} {n : Nat} (h : d.length < n) (v : Nat) : (pad d n).set d.length (v : Int) = pad (d ++ [v]) n := by
  unfold pad
  rw [ints_snoc, List.set_append_right _ _ (by rw [ints_len]; exact Nat.le_refl _), ints_len, Nat.sub_self]
  rw [show n - d.length = (n - (d ++ [v]).length) + 1 by simp; omega, List.replicate_succ, List.set_cons_zero, List.append_assoc]
  rfl
theorem pad_nil (n : Nat) : pad [] n = List.replicate n 0 := by simp [pad, ints]

theorem pad_zero {d : List Nat} {n : Nat} (h : d.length < n) : pad d n = pad (d ++ [0]) n := by
  unfold pad
  rw [ints_snoc, show n - d.length = (n - (d ++ [0]).length) + 1 by simp; omega, List.replicate_succ, List.append_assoc]
  rfl
theorem pad_put {d : List Nat} {n : Nat} (m v : Nat) : (pad (d ++ [m]) n).set d.length (v : Int) = pad (d ++ [v]) n := by
  unfold pad
  rw [ints_snoc, ints_snoc, List.append_assoc, List.append_assoc, List.set_append_right _ _ (by rw [ints_len]; exact Nat.le_refl _), ints_len, Nat.sub_self]
  simp
/-- Three writes kept by a block of one's own above B. -/
def RelDi (B g n : Nat) (W : World) (l : List Nd) (i : Value) (wr : World) : Prop :=
  ∃ (I : Nat) (d : List Nat), I ≤ n ∧ IBlk wr g n (pad d n) ∧ i = .int .i64 (I : Int) ∧ d.length = I ∧ Deep d ∧ dF (l.drop I) d = dF l [] ∧ Below B W wr
def RelDj (B g n : Nat) (W : World) (d : List Nat) (kids : List Int) (k : Value) (wr : World) : Prop :=
  ∃ J : Nat, J ≤ kids.length ∧ IBlk wr g n (pad (d ++ [mx d (kids.take J)]) n) ∧ k = .int .i64 (J : Int) ∧ Below B W wr

end Go.Proofs.YtldkhdoboieibaaDoor.nd
