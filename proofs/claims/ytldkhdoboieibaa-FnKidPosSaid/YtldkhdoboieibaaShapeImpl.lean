/-
  impl.startsOf, ShapeOk, StartOf: contracts.
-/
import Derived.Test.YtldkhdoboieibaaSubtree
import Derived.Test.YtldkhdoboieibaaShapeSpec
namespace Go.Proofs.Ytldkhdoboieibaa.nd
open Go.ChangeShapes Go.WideShapes Go.ChangeAt Go.RowKit
set_option linter.unusedVariables false

/-- 'make([]int, 0, n)'. -/
theorem make_ints0 (n : Nat) (hn : n ≤ 1048576) (w : World) :
    (Instr.makeSlice 24 (.int .i64 0) (.int .i64 (n : Int))).run Try.prog w = .ok (.slice (some ⟨w.heap.size, 0, none⟩) 0 n) (w.alloc (.cells (madeCells #[.int .i64 0] n) 3)) := by
  obtain ⟨i, hi, hz⟩ := Option.map_eq_some_iff.1 Try.infoInt
  simp only [Prod.mk.injEq] at hz
  obtain ⟨hz0, hs, hb⟩ := hz
  have := run_make (P := Try.prog) w 24 3 i _ Try.underlying24 hi hz0 .i64 .i64 0 n (by omega) (by omega) (by rw [hb]; omega) (by omega)
  rw [hs, Nat.mul_one] at this
  exact this
theorem OwnI.made {B : Nat} {w : World} (n : Nat) (hn : n ≤ 1048576) (hB : B ≤ w.heap.size) : OwnI B (.slice (some ⟨w.heap.size, 0, none⟩) 0 n) [] (w.alloc (.cells (madeCells #[.int .i64 0] n) 3)) :=
  ⟨rfl, .inr ⟨w.heap.size, n, _, rfl, hB, heap_alloc_new w _, Nat.zero_le _, by unfold maxLen; omega, by simp [madeCells], by simp [ivals]⟩⟩

/-- What startsOf answers. -/
def SoOut (l : List Nd) (w : World) (e : Ending) (w' : World) : Prop :=
  ∃ a' c', e = .returned (.slice a' (stO l).length c') ∧ Below w.heap.size w w' ∧ Ints w'.heap.size w' a' (ints (stO l))
theorem SoOut.none {l : List Nd} {w w' : World} (h : stO l = []) (hb : Below w.heap.size w w') : SoOut l w (.returned (.slice .none 0 0)) w' :=
  ⟨.none, 0, by rw [h]; rfl, hb, .inl (by rw [h]; rfl)⟩

def RelSo (B : Nat) (W : World) (l : List Nd) (v i : Value) (wr : World) : Prop :=
  ∃ (I : Nat) (ss : List Nat), I ≤ l.length ∧ OwnI B v (ints ss) wr ∧ i = .int .i64 (I : Int) ∧ ss.length = I ∧ Low ss ∧ stF (l.drop I) ss = stF l [] ∧ Below B W wr

end Go.Proofs.Ytldkhdoboieibaa.nd
