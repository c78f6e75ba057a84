/-
  A slice of tokens that a call builds by append ('Own'): its cells, one token more.
-/
import Derived.Test.YtckeepjfbpphaaaTk
import Derived.Laws.OwnMore
namespace Go.Proofs.Ytckeepjfbpphaaa.own
open Go.RowKit
open tk
set_option linter.unusedVariables false

/-- Tokens as cells. -/
def flat : List Tk → List Value
  | [] => []
  | t :: l => .int .i64 t.k :: .string t.s :: .int .i64 t.a :: flat l
theorem flat_append (l m : List Tk) : flat (l ++ m) = flat l ++ flat m := by
  induction l with
  | nil => rfl
  | cons t l ih => simp [flat, ih]
theorem flat_snoc (l : List Tk) (t : Tk) : flat (l ++ [t]) = flat l ++ [.int .i64 t.k, .string t.s, .int .i64 t.a] := by
  rw [flat_append]; rfl

/-- A slice of tokens of the call's own, from block B on. -/
def Own (B : Nat) (v : Value) (l : List Tk) (w : World) : Prop := w.ownsRow B 44 3 v l.length (flat l)
theorem Own.nil (B : Nat) (w : World) : Own B (.slice none 0 0) [] w := World.ownsRow_nil _ _ _ _
theorem Own.form {B : Nat} {v : Value} {l : List Tk} {w : World} (h : Own B v l w) : ∃ a cap, v = .slice a l.length cap := by
  rcases h.2 with ⟨hv, h0⟩ | ⟨g, cap, _, hv, _⟩
  · exact ⟨none, 0, by rw [hv, h0]⟩
  · exact ⟨_, _, hv⟩

theorem Own.up {B B' : Nat} {v : Value} {l : List Tk} {w : World} (h : Own B v l w) (hB : B' ≤ B) : Own B' v l w :=
  ⟨h.1, h.2.elim .inl (fun ⟨g, cap, cur, hv, hg, r⟩ => .inr ⟨g, cap, cur, hv, Nat.le_trans hB hg, r⟩)⟩

theorem Own.lies {B : Nat} {v : Value} {l : List Tk} {w : World} {a : Option Addr} {n cap : Nat} (h : Own B v l w) (hv : v = .slice a n cap) : Lies w.heap.size w a l := by
  rcases h.2 with ⟨_, h0⟩ | ⟨g, c, cur, hv', hg, hblk, hl, hcm, hcs, htk⟩
  · exact .inl (List.length_eq_zero_iff.1 h0)
  · rw [hv] at hv'
    injection hv' with ha _ _
    subst ha
    have hlt : g < w.heap.size := by
      rcases Nat.lt_or_ge g w.heap.size with h' | h'
      · exact h'
      · rw [Array.getElem?_eq_none h'] at hblk; cases hblk
    refine .inr ⟨g, 0, rfl, hlt, fun i hi => ?_⟩
    have hx : ∀ (l : List Tk) i (hi : i < l.length), (flat l)[i * 3]? = some (.int .i64 l[i].k) ∧ (flat l)[i * 3 + 1]? = some (.string l[i].s) ∧ (flat l)[i * 3 + 2]? = some (.int .i64 l[i].a) := by
      intro l
      induction l with
      | nil => intro i hi; simp at hi
      | cons t l ih =>
        intro i hi
        match i with
        | 0 => exact ⟨rfl, rfl, rfl⟩
        | j + 1 =>
          have := ih j (by simpa using hi)
          simp only [flat, show (j + 1) * 3 = j * 3 + 1 + 1 + 1 by omega, show j * 3 + 1 + 1 + 1 + 1 = (j * 3 + 1) + 1 + 1 + 1 by omega, show j * 3 + 1 + 1 + 1 + 2 = (j * 3 + 2) + 1 + 1 + 1 by omega, List.getElem?_cons_succ, List.getElem_cons_succ]
          exact this
    obtain ⟨x0, x1, x2⟩ := hx l i hi
    have hc : ∀ j v, (flat l)[j]? = some v → w.cell? ⟨g, j, none⟩ = some v := by
      intro j u hj
      rw [cell_of_row w g j _ _ _ hblk]
      rw [← htk, List.getElem?_take] at hj
      split at hj
      · simpa using hj
      · cases hj
    rw [Nat.zero_add]
    exact ⟨hc _ _ x0, hc _ _ x1, hc _ _ x2⟩

/-- .. as a block that may be written. -/
theorem Own.blk {B : Nat} {v : Value} {l : List Tk} {w : World} (h : Own B v l w) (h0 : 0 < l.length) : ∃ g cap, v = .slice (some ⟨g, 0, none⟩) l.length cap ∧ B ≤ g ∧ Blk w g cap l := by
  rcases h.2 with ⟨_, h1⟩ | ⟨g, cap, cur, hv, hg, hblk, hl, hcm, hcs, htk⟩
  · omega
  · refine ⟨g, cap, hv, hg, cur, hblk, hcs, hl, fun i hi => ?_⟩
    have hat := h.lies hv
    obtain ⟨b, o, hb, _, hc⟩ := lies_at hat hi
    injection hb with hb
    injection hb with hb1 hb2 _
    subst hb1 hb2
    have := hc i hi
    rw [Nat.zero_add] at this
    obtain ⟨x0, x1, x2⟩ := this
    rw [cell_of_row w g _ _ _ _ hblk] at x0 x1 x2
    exact ⟨x0, x1, x2⟩
theorem Own.keep {B B' : Nat} {v : Value} {l : List Tk} {w w' : World} (h : Own B v l w) (hb : Below B' w w') (hB : w.heap.size ≤ B') : Own B v l w' := by
  refine ⟨h.1, h.2.elim .inl (fun ⟨g, cap, cur, hv, hg, hblk, r⟩ => .inr ⟨g, cap, cur, hv, hg, ?_, r⟩)⟩
  have hlt : g < w.heap.size := by
    rcases Nat.lt_or_ge g w.heap.size with h' | h'
    · exact h'
    · rw [Array.getElem?_eq_none h'] at hblk; cases hblk
  rw [hb.block g (by omega)]
  exact hblk

theorem Own.set2 {g : Nat} {v : Value} {l : List Tk} {w : World} (h : Own (g + 1) v l w) (x y : Value) : Own g v l ((w.setCell ⟨g, 0, none⟩ x).setCell ⟨g, 1, none⟩ y) :=
  Own.up (ownsRow_setCell_below (ownsRow_setCell_below h (a := ⟨g, 0, none⟩) (Nat.lt_succ_self g) x) (a := ⟨g, 1, none⟩) (Nat.lt_succ_self g) y) (Nat.le_succ g)
theorem below_set2 {g : Nat} {w W : World} (h : Below g W w) (x y : Value) : Below g W ((w.setCell ⟨g, 0, none⟩ x).setCell ⟨g, 1, none⟩ y) :=
  (h.setCell (p := ⟨g, 0, none⟩) (Nat.le_refl _) x).setCell (p := ⟨g, 1, none⟩) (Nat.le_refl _) y

/-- 'append(l, Token{..})'. -/
theorem wpList_append_tok (w : World) (t : Tk) {ops : Array Oper} {rest : List Oper} {o : Oper} {a : Act} {Q : Exit → Act → World → Prop} (hgd : o.guard = none) (s x : Operand)
    (ho : o.op = .call { callee := .builtin .append, args := #[s, x], argTypes := #[26, 26] }) (B : Nat) (v : Value) (d : List Tk) (hs : a.eval s = v)
    (hown : Own B v d w) (hx : a.eval x = .slice (some ⟨w.heap.size, 0, none⟩) 1 1) (hn : d.length ≤ 1048576) (hB : B ≤ w.heap.size)
    (h : ∀ v' w', Own B v' (d ++ [t]) w' → Below B w w' → w.grownBy w' v.ownBlock → wpList Try.prog ops Q rest (a.put o.dst v') w') :
    wpList Try.prog ops Q (o :: rest) a (w.alloc (.cells #[.int .i64 t.k, .string t.s, .int .i64 t.a] 44)) := by
  obtain ⟨i0, hi, hz0, hz1, hz2⟩ := info_parts Try.infoTok
  refine wpList_append_own _ hgd s x 26 ho B 44 i0 _ 3 32 Try.underlying26 hi hz0 hz1 hz2 rfl (by decide) v d.length (flat d) hs (hown.alloc _) ⟨w.heap.size, 0, none⟩ 1 1 [.int .i64 t.k, .string t.s, .int .i64 t.a] hx rfl ?_ ?_ (by unfold maxLen; omega) (by omega) (by simp; omega) ?_
  · intro j u hj
    rw [show ((⟨w.heap.size, 0, none⟩ : Addr).add j) = ⟨w.heap.size, j, none⟩ by unfold Addr.add; split <;> simp_all]
    rw [cell_of_row _ w.heap.size j _ _ _ (heap_alloc_new w _)]
    simpa using hj
  · intro u hu
    simp at hu
    rcases hu with rfl | rfl | rfl <;> rfl
  · intro v' w' hown' hg _
    refine h v' w' ?_ ?_ ?_
    · unfold Own
      rw [flat_snoc, List.length_append]
      exact hown'
    · refine ((Below.refl B w).alloc hB _).grown hg (by simp; omega) ?_
      intro k hk
      exact (World.ownsRow.lt hown k hk).1
    · exact ⟨hg.os, hg.tape, hg.output, by have := hg.size; simp at this; omega, fun k hk hne => by rw [hg.block k (by simp; omega) hne]; exact Below.heap_alloc w _ k hk⟩
theorem Own.not_new {B : Nat} {v : Value} {l : List Tk} {w : World} (h : Own B v l w) : some w.heap.size ≠ v.ownBlock := fun e => by
  have := (World.ownsRow.lt h _ e.symm).2
  omega
end Go.Proofs.Ytckeepjfbpphaaa.own
