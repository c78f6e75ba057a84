/-
  impl.Part: the part of a node as a tree of its own, in memory of its own: a contract.
-/
import Derived.Test.YtckeepjfbpphaaaGreatDoorShift
import Derived.Test.YtckeepjfbpphaaaGreatDoorShapeImpl
namespace Go.Proofs.YtckeepjfbpphaaaGreatDoor.nd
open Go.ChangeShapes Go.WideShapes Go.ChangeAt Go.RowKit
set_option linter.unusedVariables false

/-- The nodes from S to I, their kids counted from S on. -/
def partS (l : List Nd) (S I : Nat) : List Nd := ((l.drop S).take (I + 1 - S)).map (shN (-(S : Int)))
def partF (l : List Nd) (i : Int) : List Nd := if shape l = true ∧ 0 ≤ i ∧ i < l.length then partS l ((stO l).getD i.toNat 0) i.toNat else []
theorem partS_len {l : List Nd} {S I : Nat} (h : I < l.length) (hS : S ≤ I) : (partS l S I).length = I + 1 - S := by simp [partS]; omega
theorem partS_get {l : List Nd} {S I J : Nat} (h : I < l.length) (hS : S ≤ I) (hJ : J < I + 1 - S) : (partS l S I)[J]'(by rw [partS_len h hS]; exact hJ) = shN (-(S : Int)) (l[S + J]'(by omega)) := by
  simp [partS]
theorem partS_step {l : List Nd} {S I J : Nat} (h : I < l.length) (hS : S ≤ I) (hJ : J < I + 1 - S) : (partS l S I).take (J + 1) = (partS l S I).take J ++ [shN (-(S : Int)) (l[S + J]'(by omega))] := by
  rw [List.take_succ_eq_append_getElem (by rw [partS_len h hS]; exact hJ), partS_get h hS hJ]
theorem part_yes {l : List Nd} {I : Nat} (h : shape l = true) (hI : I < l.length) : partF l (I : Int) = partS l ((stO l).getD I 0) I := by
  unfold partF
  rw [if_pos ⟨h, by omega, by omega⟩]
  simp
theorem part_no {l : List Nd} {i : Int} (h : startOf l i = -1) : partF l i = [] := by
  unfold partF
  rw [if_neg]
  rintro ⟨h1, h2, h3⟩
  obtain ⟨I, rfl⟩ : ∃ I : Nat, i = I := ⟨i.toNat, by omega⟩
  rw [start_yes h1 (by omega)] at h
  omega

/-- What a function that makes a list of nodes answers. -/
def PtOut (l : List Nd) (w : World) (e : Ending) (w' : World) : Prop :=
  ∃ v z r, e = .returned v ∧ z.map (·.1) = l ∧ PT w.heap.size v z r w' ∧ Below w.heap.size w w'
theorem make_nodes0 (n : Nat) (hn : n ≤ 1048576) (w : World) :
    (Instr.makeSlice 24 (.int .i64 0) (.int .i64 (n : Int))).run Tryz.prog w = .ok (.slice (some ⟨w.heap.size, 0, none⟩) 0 n) (w.alloc (.cells (madeCells #[.int .i64 0, .int .i64 0, .string ⟨#[]⟩, .string ⟨#[]⟩, .slice none 0 0] (n * 5)) 36)) := by
  obtain ⟨i, hi, hz⟩ := Option.map_eq_some_iff.1 Tryz.infoNode
  simp only [Prod.mk.injEq] at hz
  obtain ⟨hz0, hs, hb⟩ := hz
  have := run_make (P := Tryz.prog) w 24 36 i _ Tryz.underlying24 hi hz0 .i64 .i64 0 n (by omega) (by omega) (by rw [hb]; omega) (by omega)
  rw [hs] at this
  exact this
theorem PT.made {B : Nat} {w : World} (n : Nat) (hn : n ≤ 1048576) (hB : B ≤ w.heap.size) : PT B (.slice (some ⟨w.heap.size, 0, none⟩) 0 n) [] (fun i => i) (w.alloc (.cells (madeCells #[.int .i64 0, .int .i64 0, .string ⟨#[]⟩, .string ⟨#[]⟩, .slice none 0 0] (n * 5)) 36)) :=
  ⟨⟨rfl, .inr ⟨w.heap.size, n, _, rfl, hB, heap_alloc_new w _, Nat.zero_le _, by unfold maxLen; omega, by simp [madeCells], by simp [fl]⟩⟩, fun i h => by simp at h, fun i h => by simp at h, fun i j _ h => by simp at h, fun i h => by simp at h⟩
theorem one_slice (a : Option Addr) (n c : Nat) : (Value.slice a n c).oneCell' = true := rfl

theorem wrap_k (x : Int) (h1 : -2000000 ≤ x) (h2 : x ≤ 2000000) : IntKind.i64.wrap x = x := by rw [IntKind.wrap_i64]; omega
theorem wrap_w (x : Int) (h1 : -2000000 ≤ x) (h2 : x ≤ 2000000) : wrap64 x = x := by unfold wrap64; omega
theorem part_facts {S I m cap : Nat} (hSI : S ≤ I) (hI : I < 1048576) (hm : m = I + 1 - S) (hic : I + 1 ≤ cap) :
    (I : Int) + 1 - (S : Int) = (m : Int) ∧ ¬ (S : Int) < 0 ∧ S + m = I + 1 ∧ (0 : Int) ≤ (S : Int) ∧ (S : Int) ≤ (I : Int) + 1 ∧ (I : Int) + 1 ≤ (cap : Int) ∧ ¬ cap = S ∧ S < cap :=
  ⟨by omega, by omega, by omega, by omega, by omega, by omega, by omega, by omega⟩
theorem part_wraps {S I m : Nat} (hS : S ≤ 1048576) (hI : I < 1048576) (hm : m ≤ 1048576) :
    IntKind.i64.wrap (-(S : Int)) = -(S : Int) ∧ wrap64 (-(S : Int)) = -(S : Int) ∧ IntKind.i64.wrap ((I : Int) + 1) = (I : Int) + 1 ∧ wrap64 ((I : Int) + 1) = (I : Int) + 1 ∧ IntKind.i64.wrap (m : Int) = (m : Int) ∧ wrap64 (m : Int) = (m : Int) :=
  ⟨wrap_k _ (by omega) (by omega), wrap_w _ (by omega) (by omega), wrap_k _ (by omega) (by omega), wrap_w _ (by omega) (by omega), wrap_k _ (by omega) (by omega), wrap_w _ (by omega) (by omega)⟩
def RelPa (B : Nat) (W : World) (q : List Nd) (v j : Value) (wr : World) : Prop :=
  ∃ (J : Nat) (z : List (Nd × Value)) (r : Nat → Nat), J ≤ q.length ∧ PT B v z r wr ∧ z.map (·.1) = q.take J ∧ j = .int .i64 (J : Int) ∧ Below B W wr

end Go.Proofs.YtckeepjfbpphaaaGreatDoor.nd
