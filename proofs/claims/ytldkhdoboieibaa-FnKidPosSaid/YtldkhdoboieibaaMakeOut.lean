/-
  What spec.l6Make answers over drawn trees, as a drawn tree.
-/
import Derived.Test.YtldkhdoboieibaaDrawEnds
namespace Go.Proofs.Ytldkhdoboieibaa.draw
open Go.ChangeShapes Go.WideShapes Go.ChangeAt Go.RowKit
open nd
set_option linter.unusedVariables false
theorem TOut.make {B p len cap : Nat} {a : Option Addr} {zs : List Int} {s' : St} {q : List Nd} {w w1 w2 w3 : World} {e : Ending} (hI : In B w1 p a len cap zs s') (hp : p < w.heap.size) (hG : w.grownBy w1 (some p)) (hb : Below w1.heap.size w1 w2) (h : PgOut q w2 e w3) : TOut B p a len cap zs q s' w e w3 := by
  obtain ⟨v, z, r, rfl, hz, pt, hb2, ge⟩ := h
  have h1 := hG.size
  have h2 := hb.size
  refine ⟨v, rfl, ⟨hp, z, r, hz, pt.up (by omega), fun i hi _ => by have := ge i hi; omega⟩, ?_, ?_⟩
  · exact (hI.keep hb hI.lt).keep hb2 (by omega)
  · exact grown_below hG ((hb.mono h1).trans (hb2.mono (by omega))) rfl
theorem parts_of {p S : Nat} {w1 : World} (vs : List Value) (qs : List (List Nd)) (hl : vs.length = qs.length) (h : ∀ i (h1 : i < vs.length) (h2 : i < qs.length), TR p S vs[i] qs[i] w1) :
    Parts (w1.alloc (.cells vs.toArray 65)).heap.size (w1.alloc (.cells vs.toArray 65)) (some ⟨w1.heap.size, 0, none⟩) qs := by
  have hb : Below w1.heap.size w1 (w1.alloc (.cells vs.toArray 65)) := (Below.refl _ _).alloc (Nat.le_refl _) _
  refine .inr ⟨w1.heap.size, 0, rfl, by simp, fun i hi => ?_⟩
  have hv : i < vs.length := by omega
  have ht := h i hv hi
  obtain ⟨ai, ci, e⟩ := ht.form
  rw [e] at ht
  refine ⟨ai, ci, ?_, (ht.lies.keep hb (Nat.le_refl _)).up (by simp)⟩
  rw [cell_of_row _ w1.heap.size (0 + i) _ _ _ (heap_alloc_new w1 _)]
  simp [hv, e]
end Go.Proofs.Ytldkhdoboieibaa.draw
