/-
  laws.heldIntS, heldNodeS: the marks looked for: contracts.
-/
import Derived.Test.YtckeepjfbpphaaaMarkTree
namespace Go.Proofs.Ytckeepjfbpphaaa.mark
open Go.ChangeShapes Go.WideShapes Go.ChangeAt Go.RowKit
open nd
set_option linter.unusedVariables false

def RelHi (P n : Nat) (k i : Value) : Prop := ∃ I : Nat, I ≤ n ∧ i = .int .i64 (I : Int) ∧ k = .int .i64 ((P + I : Nat) : Int)
theorem mkL_get : ∀ (ms : List Nat) (P I : Nat) (h : I < ms.length), (mkL ms P)[I]'(by rw [mkL_len]; exact h) = mkN (endM (ms.take I) P) ms[I] := by
  intro ms
  induction ms with
  | nil => intro P I h; simp at h
  | cons m ms ih =>
    intro P I h
    cases I with
    | zero => simp [mkL, endM]
    | succ I => simp only [mkL, List.getElem_cons_succ, List.take_succ_cons, endM]; exact ih _ _ (by simpa using h)
theorem one_start {w W : World} {B b o : Nat} {x : ByteArray} (h : W.cell? ⟨b, o, none⟩ = some (.string x)) (hB : Below B w W) (hs : B ≤ W.heap.size) : W.cell? ⟨b, o, none⟩ = some (.string x) ∧ Below B w W ∧ B ≤ W.heap.size := ⟨h, hB, hs⟩
theorem one_drew {w W : World} {B b o : Nat} {x : ByteArray} (h : W.cell? ⟨b, o, none⟩ = some (.string x) ∧ Below B w W ∧ B ≤ W.heap.size) : W.drew.cell? ⟨b, o, none⟩ = some (.string x) ∧ Below B w W.drew ∧ B ≤ W.drew.heap.size := ⟨h.1, h.2.1.drew, h.2.2⟩
theorem one_keep {w W w1 : World} {B b o : Nat} {x : ByteArray} (hb : b < B) (h : W.cell? ⟨b, o, none⟩ = some (.string x) ∧ Below B w W ∧ B ≤ W.heap.size) (hk : Below W.heap.size W w1) : w1.cell? ⟨b, o, none⟩ = some (.string x) ∧ Below B w w1 ∧ B ≤ w1.heap.size :=
  ⟨(hk.cell (p := ⟨b, o, none⟩) (Nat.lt_of_lt_of_le hb h.2.2)).trans h.1, h.2.1.trans (hk.mono h.2.2), Nat.le_trans h.2.2 hk.size⟩

def RelHn (B : Nat) (W : World) (ms : List Nat) (k i : Value) (wr : World) : Prop :=
  ∃ I : Nat, I ≤ ms.length ∧ i = .int .i64 (I : Int) ∧ k = .int .i64 (endM (ms.take I) 1 : Int) ∧ Below B W wr

end Go.Proofs.Ytckeepjfbpphaaa.mark
