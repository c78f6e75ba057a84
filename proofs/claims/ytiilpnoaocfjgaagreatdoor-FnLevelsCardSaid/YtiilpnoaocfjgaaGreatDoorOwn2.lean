/-
  'append(l, Token{..})' once more: where the new slice lies.
-/
import Derived.Test.YtiilpnoaocfjgaaGreatDoorOwn
import Derived.Deep.AppendLies
namespace Go.Proofs.YtiilpnoaocfjgaaGreatDoor.own
open Go.RowKit
open tk
set_option linter.unusedVariables false

theorem wpList_append_tok2 (w : World) (t : Tk) {ops : Array Oper} {rest : List Oper} {o : Oper} {a : Act} {Q : Exit → Act → World → Prop} (hgd : o.guard = none) (s x : Operand)
    (ho : o.op = .call { callee := .builtin .append, args := #[s, x], argTypes := #[24, 24] }) (B : Nat) (v : Value) (d : List Tk) (hs : a.eval s = v)
    (hown : Own B v d w) (hx : a.eval x = .slice (some ⟨w.heap.size, 0, none⟩) 1 1) (hn : d.length ≤ 1048576) (hB : B ≤ w.heap.size)
    (h : ∀ g cap w', Own B (.slice (some ⟨g, 0, none⟩) (d.length + 1) cap) (d ++ [t]) w' → Below B w w' → w.grownBy w' v.ownBlock → (v.ownBlock = some g ∨ w.heap.size ≤ g) → wpList Tryz.prog ops Q rest (a.put o.dst (.slice (some ⟨g, 0, none⟩) (d.length + 1) cap)) w') :
    wpList Tryz.prog ops Q (o :: rest) a (w.alloc (.cells #[.int .i64 t.k, .string t.s, .int .i64 t.a] 35)) := by
  obtain ⟨i0, hi, hz0, hz1, hz2⟩ := info_parts Tryz.infoTok
  refine wpList_append_lies _ hgd s x 24 ho B 35 i0 _ 3 32 Tryz.underlying24 hi hz0 hz1 hz2 rfl (by decide) v d.length (flat d) hs (hown.alloc _) ⟨w.heap.size, 0, none⟩ 1 1 [.int .i64 t.k, .string t.s, .int .i64 t.a] hx rfl ?_ ?_ (by decide) (by unfold maxLen; omega) (by omega) (by simp; omega) (w.heap.size + 1) (by simp) ?_
  · intro j u hj
    rw [show ((⟨w.heap.size, 0, none⟩ : Addr).add j) = ⟨w.heap.size, j, none⟩ by unfold Addr.add; split <;> simp_all]
    rw [cell_of_row _ w.heap.size j _ _ _ (heap_alloc_new w _)]
    simpa using hj
  · intro u hu
    simp at hu
    rcases hu with rfl | rfl | rfl <;> rfl
  · intro g cap w' hown' hg hor _
    refine h g cap w' ?_ ?_ ?_ (hor.imp id (fun h => by omega))
    · unfold Own
      rw [flat_snoc, List.length_append]
      exact hown'
    · refine ((Below.refl B w).alloc hB _).grown hg (by simp; omega) ?_
      intro k hk
      exact (World.ownsRow.lt hown k hk).1
    · exact ⟨hg.os, hg.tape, hg.output, by have := hg.size; simp at this; omega, fun k hk hne => by rw [hg.block k (by simp; omega) hne]; exact Below.heap_alloc w _ k hk⟩

/-- A slice of one's own under a store into another block. -/
theorem Own.setOther {B g j : Nat} {v : Value} {l : List Tk} {w : World} (h : Own B v l w) (hne : v.ownBlock ≠ some g) (u : Value) : Own B v l (w.setCell ⟨g, j, none⟩ u) :=
  World.ownsRow.kept (row := some g) h ⟨rfl, rfl, rfl, by simp, fun k _ hk => Below.heap_setCell w ⟨g, j, none⟩ u k (fun e => hk (by rw [e]))⟩ (.inr hne)
theorem Own.grown {B p : Nat} {v : Value} {l : List Tk} {w w' : World} (h : Own B v l w) (hg : w.grownBy w' (some p)) (hp : p < B) : Own B v l w' := by
  refine World.ownsRow.kept h hg ?_
  cases e : v.ownBlock with
  | none => exact .inl rfl
  | some k =>
    right
    have := (World.ownsRow.lt h k e).1
    intro e2
    injection e2 with e2
    omega
theorem Own.ne_new {B g : Nat} {v : Value} {l : List Tk} {w : World} (h : Own B v l w) (hg : w.heap.size ≤ g) : v.ownBlock ≠ some g := fun e => by
  have := (World.ownsRow.lt h _ e).2
  omega
theorem flat_set (d : List Tk) : ∀ (K : Nat) (t : Tk), flat (d.set K t) = (((flat d).set (K * 3) (.int .i64 t.k)).set (K * 3 + 1) (.string t.s)).set (K * 3 + 2) (.int .i64 t.a) := by
  induction d with
  | nil => intro K t; simp [flat]
  | cons u d ih =>
    intro K t
    cases K with
    | zero => simp [flat]
    | succ K =>
      simp only [List.set_cons_succ, flat, ih K t, show (K + 1) * 3 = K * 3 + 1 + 1 + 1 by omega, show K * 3 + 1 + 1 + 1 + 1 = (K * 3 + 1) + 1 + 1 + 1 by omega, show K * 3 + 1 + 1 + 1 + 2 = (K * 3 + 2) + 1 + 1 + 1 by omega]
theorem Own.setAt {B g cap : Nat} {d : List Tk} {w : World} (h : Own B (.slice (some ⟨g, 0, none⟩) d.length cap) d w) (K : Nat) (t : Tk) :
    Own B (.slice (some ⟨g, 0, none⟩) d.length cap) (d.set K t) (((w.setCell ⟨g, K * 3, none⟩ (.int .i64 t.k)).setCell ⟨g, K * 3 + 1, none⟩ (.string t.s)).setCell ⟨g, K * 3 + 2, none⟩ (.int .i64 t.a)) := by
  rcases h.2 with ⟨hv, _⟩ | ⟨g', cap', cur, hv, hg, hblk, hl, hcm, hcs, htk⟩
  · cases hv
  · injection hv with hv1 _ hv3
    injection hv1 with hv1
    injection hv1 with hv1 _ _
    subst hv1 hv3
    refine ⟨?_, .inr ⟨g, cap, _, by rw [List.length_set], hg, heap_setCell_same _ g _ _ _ _ (heap_setCell_same _ g _ _ _ _ (heap_setCell_same w g (K * 3) _ _ _ hblk)), by rw [List.length_set]; exact hl, hcm, by simpa using hcs, ?_⟩⟩
    · rw [flat_set, List.length_set, List.length_set, List.length_set, List.length_set]
      exact h.1
    · rw [List.length_set, flat_set, ← htk]
      simp [List.take_set]
end Go.Proofs.YtiilpnoaocfjgaaGreatDoor.own
