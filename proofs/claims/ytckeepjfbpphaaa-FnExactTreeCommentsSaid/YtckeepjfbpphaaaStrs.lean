/-
  Rows of strings: a slice of strings in memory ('SL'), one that a call builds by append ('SOwn'), one that may be written ('SBlk').
-/
import Derived.Test.YtckeepjfbpphaaaRows
import Derived.Test.YtckeepjfbpphaaaBase
import Derived.WalkKit
import Derived.ProofKit
import Derived.Below
import Derived.Laws.OwnMore
import Derived.Deep.AppendLies
namespace Go.Proofs.Ytckeepjfbpphaaa.strs
open Go.RowKit
set_option linter.unusedVariables false

/-- The strings l lie in w, below block B, at a slice's address. -/
def SL (B : Nat) (w : World) (a : Option Addr) (l : List ByteArray) : Prop :=
  l = [] ∨ ∃ b o, a = some ⟨b, o, none⟩ ∧ b < B ∧ ∀ i (h : i < l.length), w.cell? ⟨b, o + i, none⟩ = some (.string l[i])
theorem SL.keep {B B' : Nat} {w w' : World} {a : Option Addr} {l : List ByteArray} (h : SL B w a l) (hb : Below B' w w') (hB : B ≤ B') : SL B w' a l := by
  rcases h with h | ⟨b, o, rfl, hlt, hc⟩
  · exact .inl h
  · exact .inr ⟨b, o, rfl, hlt, fun i hi => (hb.cell (p := ⟨b, o + i, none⟩) (Nat.lt_of_lt_of_le hlt hB)).trans (hc i hi)⟩
theorem SL.up {B B' : Nat} {w : World} {a : Option Addr} {l : List ByteArray} (h : SL B w a l) (hB : B ≤ B') : SL B' w a l := by
  rcases h with h | ⟨b, o, rfl, hlt, hc⟩
  · exact .inl h
  · exact .inr ⟨b, o, rfl, by omega, hc⟩
theorem SL.at {B : Nat} {w : World} {a : Option Addr} {l : List ByteArray} {I : Nat} (h : SL B w a l) (hI : I < l.length) : ∃ b o, a = some ⟨b, o, none⟩ ∧ b < B ∧ ∀ i (h : i < l.length), w.cell? ⟨b, o + i, none⟩ = some (.string l[i]) := by
  rcases h with h | h
  · rw [h] at hI; simp at hI
  · exact h

theorem lt_heap {w : World} {g : Nat} {o : Obj} (h : w.heap[g]? = some o) : g < w.heap.size := by
  rcases Nat.lt_or_ge g w.heap.size with h' | h'
  · exact h'
  · rw [Array.getElem?_eq_none h'] at h; cases h
/-- A block of strings that may be written, of which the first are known. -/
def SBlk (w : World) (g n : Nat) (l : List ByteArray) : Prop :=
  ∃ c : Array Value, w.heap[g]? = some (.cells c 9 (0, 0)) ∧ c.size = n ∧ l.length ≤ n ∧ ∀ i (h : i < l.length), c[i]? = some (.string l[i])
theorem SBlk.lt {w : World} {g n : Nat} {l : List ByteArray} (h : SBlk w g n l) : g < w.heap.size := by
  obtain ⟨c, hc, _⟩ := h
  exact lt_heap hc
theorem SBlk.sl {w : World} {g n : Nat} {l : List ByteArray} (h : SBlk w g n l) : SL w.heap.size w (some ⟨g, 0, none⟩) l := by
  have hlt := h.lt
  obtain ⟨c, hc, hs, hn, hx⟩ := h
  refine .inr ⟨g, 0, rfl, hlt, fun i hi => ?_⟩
  rw [cell_of_row w g _ _ _ _ hc, Nat.zero_add]
  exact hx i hi
theorem SBlk.of_block {w w' : World} {g n : Nat} {l : List ByteArray} (h : SBlk w g n l) (e : w'.heap[g]? = w.heap[g]?) : SBlk w' g n l := by
  obtain ⟨c, hc, r⟩ := h
  exact ⟨c, e.trans hc, r⟩
theorem SBlk.keep {B : Nat} {w w' : World} {g n : Nat} {l : List ByteArray} (h : SBlk w g n l) (hb : Below B w w') (hg : g < B) : SBlk w' g n l := h.of_block (hb.block g hg)
theorem SBlk.frozen {w : World} {g n : Nat} {l : List ByteArray} (h : SBlk w g n l) (j : Nat) : w.frozen? ⟨g, j, none⟩ = false := by
  obtain ⟨c, hc, -⟩ := h
  exact frozen_of_row w g j _ _ hc
theorem SBlk.cell {w : World} {g n : Nat} {l : List ByteArray} (h : SBlk w g n l) (j : Nat) (hj : j < n) : ∃ v, w.cell? ⟨g, j, none⟩ = some v := by
  obtain ⟨c, hc, hs, -⟩ := h
  exact ⟨c[j]'(by omega), by rw [cell_of_row w g _ _ _ _ hc]; exact Array.getElem?_eq_getElem _⟩
theorem SBlk.put {w : World} {g n : Nat} {l : List ByteArray} (h : SBlk w g n l) (v : ByteArray) (hl : l.length < n) : SBlk (w.setCell ⟨g, l.length, none⟩ (.string v)) g n (l ++ [v]) := by
  obtain ⟨c, hc, hs, hn, hx⟩ := h
  refine ⟨_, heap_setCell_same w g l.length _ _ _ hc, by simpa using hs, by simp; omega, fun i hi => ?_⟩
  rw [Array.getElem?_setIfInBounds]
  by_cases he : i < l.length
  · rw [if_neg (by omega), List.getElem_append_left he]
    exact hx i he
  · simp at hi
    obtain rfl : i = l.length := by omega
    rw [if_pos rfl, if_pos (by omega)]
    simp
theorem SBlk.clr {w : World} {g n : Nat} {l : List ByteArray} (h : SBlk w g n l) : SBlk w g n [] := by
  obtain ⟨c, hc, hs, -⟩ := h
  exact ⟨c, hc, hs, by simp, fun i hi => by simp at hi⟩

/-- A slice of strings of the call's own, from block B on. -/
def SOwn (B : Nat) (v : Value) (l : List ByteArray) (w : World) : Prop := w.ownsRow B 9 1 v l.length (l.map Value.string)
theorem SOwn.nil (B : Nat) (w : World) : SOwn B (.slice none 0 0) [] w := World.ownsRow_nil _ _ _ _
theorem SOwn.lit {B : Nat} {w : World} (hB : B ≤ w.heap.size) : SOwn B (.slice (some ⟨w.heap.size, 0, none⟩) 0 0) [] (w.alloc (.cells #[] 9)) :=
  World.ownsRow_lit w #[] 0 hB (by unfold maxLen; omega) rfl
theorem SOwn.form {B : Nat} {v : Value} {l : List ByteArray} {w : World} (h : SOwn B v l w) : ∃ a cap, v = .slice a l.length cap := by
  rcases h.2 with ⟨hv, h0⟩ | ⟨g, cap, _, hv, _⟩
  · exact ⟨none, 0, by rw [hv, h0]⟩
  · exact ⟨_, _, hv⟩
theorem SOwn.up {B B' : Nat} {v : Value} {l : List ByteArray} {w : World} (h : SOwn B v l w) (hB : B' ≤ B) : SOwn B' v l w :=
  ⟨h.1, h.2.elim .inl (fun ⟨g, cap, cur, hv, hg, r⟩ => .inr ⟨g, cap, cur, hv, Nat.le_trans hB hg, r⟩)⟩
theorem SOwn.keep {B B' : Nat} {v : Value} {l : List ByteArray} {w w' : World} (h : SOwn B v l w) (hb : Below B' w w') (hB : w.heap.size ≤ B') : SOwn B v l w' := by
  refine ⟨h.1, h.2.elim .inl (fun ⟨g, cap, cur, hv, hg, hblk, r⟩ => .inr ⟨g, cap, cur, hv, hg, ?_, r⟩)⟩
  rw [hb.block g (Nat.lt_of_lt_of_le (lt_heap hblk) hB)]
  exact hblk
/-- .. as a block. -/
theorem SOwn.blk {B : Nat} {v : Value} {l : List ByteArray} {w : World} (h : SOwn B v l w) : v = .slice none 0 0 ∧ l = [] ∨ ∃ g cap, v = .slice (some ⟨g, 0, none⟩) l.length cap ∧ B ≤ g ∧ SBlk w g cap l := by
  rcases h.2 with ⟨hv, h1⟩ | ⟨g, cap, cur, hv, hg, hblk, hl, hcm, hcs, htk⟩
  · exact .inl ⟨hv, List.length_eq_zero_iff.1 h1⟩
  · refine .inr ⟨g, cap, hv, hg, cur, hblk, by simpa using hcs, hl, fun i hi => ?_⟩
    have hj : (l.map Value.string)[i]? = some (.string l[i]) := by simp [hi]
    rw [← htk, List.getElem?_take] at hj
    split at hj
    · simpa using hj
    · cases hj
theorem SOwn.sl {B : Nat} {a : Option Addr} {n cap : Nat} {l : List ByteArray} {w : World} (h : SOwn B (.slice a n cap) l w) : SL w.heap.size w a l := by
  rcases h.blk with ⟨_, h1⟩ | ⟨g, c, hv, _, h1⟩
  · exact .inl h1
  · injection hv with hv _ _
    subst hv
    exact h1.sl
theorem Try.infoStr1 : (Try.prog.info? 9).map (fun i => (i.zero, i.size, i.bytes)) = some (some (.string ByteArray.empty), 1, 16) := by kernel_rfl
/-- 'append(l, s)'. -/
theorem wpList_append_str (w : World) (z : ByteArray) {ops : Array Oper} {rest : List Oper} {o : Oper} {a : Act} {Q : Exit → Act → World → Prop} (hgd : o.guard = none) (s x : Operand)
    (ho : o.op = .call { callee := .builtin .append, args := #[s, x], argTypes := #[24, 24] }) (B : Nat) (v : Value) (d : List ByteArray) (hs : a.eval s = v)
    (hown : SOwn B v d w) (hx : a.eval x = .slice (some ⟨w.heap.size, 0, none⟩) 1 1) (hn : d.length ≤ 16777216) (hB : B ≤ w.heap.size)
    (h : ∀ v' w', SOwn B v' (d ++ [z]) w' → Below B w w' → w.grownBy w' v.ownBlock → wpList Try.prog ops Q rest (a.put o.dst v') w') :
    wpList Try.prog ops Q (o :: rest) a (w.alloc (.cells #[.string z] 9)) := by
  obtain ⟨i0, hi, hz0, hz1, hz2⟩ := info_parts Try.infoStr1
  refine wpList_append_own _ hgd s x 24 ho B 9 i0 _ 1 16 Try.underlying24 hi hz0 hz1 hz2 rfl (by decide) v d.length (d.map Value.string) hs (hown.alloc _) ⟨w.heap.size, 0, none⟩ 1 1 [.string z] hx rfl ?_ ?_ (by unfold maxLen; omega) (by omega) (by simp; omega) ?_
  · intro j u hj
    rw [show ((⟨w.heap.size, 0, none⟩ : Addr).add j) = ⟨w.heap.size, j, none⟩ by unfold Addr.add; split <;> simp_all]
    rw [cell_of_row _ w.heap.size j _ _ _ (heap_alloc_new w _)]
    simpa using hj
  · intro u hu
    simp at hu
    rcases hu with rfl <;> rfl
  · intro v' w' hown' hg _
    refine h v' w' ?_ ?_ ?_
    · unfold SOwn
      rw [List.map_append, List.length_append]
      exact hown'
    · refine ((Below.refl B w).alloc hB _).grown hg (by simp; omega) ?_
      intro k hk
      exact (World.ownsRow.lt hown k hk).1
    · exact ⟨hg.os, hg.tape, hg.output, by have := hg.size; simp at this; omega, fun k hk hne => by rw [hg.block k (by simp; omega) hne]; exact Below.heap_alloc w _ k hk⟩
end Go.Proofs.Ytckeepjfbpphaaa.strs
