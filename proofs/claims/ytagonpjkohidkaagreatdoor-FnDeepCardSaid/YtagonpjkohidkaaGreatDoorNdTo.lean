/-
  Trees in memory of one's own ('Tr': a block of nodes, each with a row of kids of its own); laws.toNodeS and what it calls: contracts.
-/
import Derived.Test.YtagonpjkohidkaaGreatDoorNd
namespace Go.Proofs.YtagonpjkohidkaaGreatDoor.nd
open Go.ChangeShapes Go.WideShapes Go.ChangeAt Go.RowKit
set_option linter.unusedVariables false

/-- A block of n integers, the first of which are l. -/
def IBlk (w : World) (g n : Nat) (l : List Int) : Prop :=
  ∃ c : Array Value, w.heap[g]? = some (.cells c 3 (0, 0)) ∧ c.size = n ∧ l.length ≤ n ∧ ∀ i (h : i < l.length), c[i]? = some (.int .i64 l[i])
theorem lt_of_heap {w : World} {g : Nat} {o : Obj} (h : w.heap[g]? = some o) : g < w.heap.size := by
  rcases Nat.lt_or_ge g w.heap.size with h' | h'
  · exact h'
  · rw [Array.getElem?_eq_none h'] at h; cases h
theorem kids_le {l : List Nd} (h : tot l ≤ 1048576) : ∀ t ∈ l, t.kids.length ≤ 1048576 := fun t ht => by
  obtain ⟨i, hi, rfl⟩ := List.mem_iff_getElem.1 ht
  have := sz_le hi
  unfold Nd.sz at this
  omega
theorem IBlk.lt {w : World} {g n : Nat} {l : List Int} (h : IBlk w g n l) : g < w.heap.size := by
  obtain ⟨c, hc, -⟩ := h
  exact lt_of_heap hc
theorem IBlk.at {w : World} {g n : Nat} {l : List Int} (h : IBlk w g n l) (i : Nat) (hi : i < l.length) : w.cell? ⟨g, i, none⟩ = some (.int .i64 l[i]) := by
  obtain ⟨c, hc, hs, hl, hx⟩ := h
  rw [cell_of_row w g _ _ _ _ hc]
  exact hx i hi
theorem IBlk.ints {w : World} {g n : Nat} {l : List Int} (h : IBlk w g n l) : Ints w.heap.size w (some ⟨g, 0, none⟩) l :=
  .inr ⟨g, 0, rfl, h.lt, fun i hi => by rw [Nat.zero_add]; exact h.at i hi⟩
theorem IBlk.of_block {w w' : World} {g n : Nat} {l : List Int} (h : IBlk w g n l) (e : w'.heap[g]? = w.heap[g]?) : IBlk w' g n l := by
  obtain ⟨c, hc, r⟩ := h
  exact ⟨c, e.trans hc, r⟩
theorem IBlk.keep {B : Nat} {w w' : World} {g n : Nat} {l : List Int} (h : IBlk w g n l) (hb : Below B w w') (hg : g < B) : IBlk w' g n l := h.of_block (hb.block g hg)
theorem IBlk.frozen {w : World} {g n : Nat} {l : List Int} (h : IBlk w g n l) (j : Nat) : w.frozen? ⟨g, j, none⟩ = false := by
  obtain ⟨c, hc, -⟩ := h
  exact frozen_of_row w g j _ _ hc
theorem IBlk.some {w : World} {g n : Nat} {l : List Int} (h : IBlk w g n l) (j : Nat) (hj : j < n) : ∃ v, w.cell? ⟨g, j, none⟩ = some v := by
  obtain ⟨c, hc, hs, -⟩ := h
  rw [cell_of_row w g j _ _ _ hc]
  exact ⟨c[j]'(by omega), Array.getElem?_eq_getElem (by omega)⟩
theorem IBlk.put {w : World} {g n : Nat} {l : List Int} (h : IBlk w g n l) (v : Int) (hl : l.length < n) : IBlk (w.setCell ⟨g, l.length, none⟩ (.int .i64 v)) g n (l ++ [v]) := by
  obtain ⟨c, hc, hs, _, hx⟩ := h
  refine ⟨c.setIfInBounds l.length (.int .i64 v), heap_setCell_same _ g _ _ _ _ hc, by simpa using hs, by simp; omega, fun i hi => ?_⟩
  simp at hi
  by_cases he : i < l.length
  · rw [List.getElem_append_left he, Array.getElem?_setIfInBounds, if_neg (by omega)]
    exact hx i he
  · obtain rfl : i = l.length := by omega
    rw [List.getElem_append_right (Nat.le_refl _), Array.getElem?_setIfInBounds, if_pos rfl, if_pos (by omega)]
    simp

theorem Tryz.infoInt : (Tryz.prog.info? 3).map (fun i => (i.zero, i.size, i.bytes)) = some (some (.int .i64 0), 1, 8) := by kernel_rfl
theorem Tryz.infoNode : (Tryz.prog.info? 44).map (fun i => (i.zero, i.size, i.bytes)) = some (some (.agg #[.int .i64 0, .int .i64 0, .string ⟨#[]⟩, .string ⟨#[]⟩, .slice none 0 0]), 5, 72) := by kernel_rfl
/-- 'make([]int, n)'. -/
theorem make_ints (n : Nat) (hn : n ≤ 1048576) (w : World) :
    (Instr.makeSlice 42 (.int .i64 (n : Int)) (.int .i64 (n : Int))).run Tryz.prog w = .ok (.slice (some ⟨w.heap.size, 0, none⟩) n n) (w.alloc (.cells (madeCells #[.int .i64 0] n) 3)) := by
  obtain ⟨i, hi, hz⟩ := Option.map_eq_some_iff.1 Tryz.infoInt
  simp only [Prod.mk.injEq] at hz
  obtain ⟨hz0, hs, hb⟩ := hz
  have := run_make (P := Tryz.prog) w 42 3 i _ Tryz.underlying42 hi hz0 .i64 .i64 n n (by omega) (Int.le_refl _) (by rw [hb]; omega) (by omega)
  rw [hs, Nat.mul_one] at this
  exact this
theorem IBlk.made (w : World) (n : Nat) : IBlk (w.alloc (.cells (madeCells #[.int .i64 0] n) 3)) w.heap.size n [] :=
  ⟨_, heap_alloc_new w _, by simp [madeCells], by simp, fun i hi => by simp at hi⟩
/-- 'make([]impl.Node, n)'. -/
theorem make_nodes (n : Nat) (hn : n ≤ 1048576) (w : World) :
    (Instr.makeSlice 24 (.int .i64 (n : Int)) (.int .i64 (n : Int))).run Tryz.prog w = .ok (.slice (some ⟨w.heap.size, 0, none⟩) n n) (w.alloc (.cells (madeCells #[.int .i64 0, .int .i64 0, .string ⟨#[]⟩, .string ⟨#[]⟩, .slice none 0 0] (n * 5)) 44)) := by
  obtain ⟨i, hi, hz⟩ := Option.map_eq_some_iff.1 Tryz.infoNode
  simp only [Prod.mk.injEq] at hz
  obtain ⟨hz0, hs, hb⟩ := hz
  have := run_make (P := Tryz.prog) w 24 44 i _ Tryz.underlying24 hi hz0 .i64 .i64 n n (by omega) (Int.le_refl _) (by rw [hb]; omega) (by omega)
  rw [hs] at this
  exact this

def RelTi (B : Nat) (W : World) (l : List Int) (i : Value) (wr : World) : Prop :=
  ∃ I : Nat, I ≤ l.length ∧ i = .int .i64 (I : Int) ∧ Below B W wr ∧ IBlk wr B l.length (l.take I)
/-! ### A tree of one's own -/
/-- A row of kids in memory of its own, at block r. -/
def Kid (B : Nat) (w : World) (g r : Nat) (v : Value) (l : List Int) : Prop :=
  ∃ a cap, v = .slice a l.length cap ∧ (l = [] ∨ a = some ⟨r, 0, none⟩ ∧ IBlk w r cap l ∧ B ≤ r ∧ r ≠ g)
theorem Kid.keep {B B' : Nat} {w w' : World} {g r : Nat} {v : Value} {l : List Int} (h : Kid B w g r v l) (hb : Below B' w w') (hg : w.heap.size ≤ B') : Kid B w' g r v l := by
  obtain ⟨a, cap, e, h⟩ := h
  refine ⟨a, cap, e, h.imp id ?_⟩
  rintro ⟨e1, e2, e3⟩
  exact ⟨e1, e2.keep hb (Nat.lt_of_lt_of_le e2.lt hg), e3⟩
theorem Kid.ints {B : Nat} {w : World} {g r : Nat} {v : Value} {l : List Int} (h : Kid B w g r v l) : ∃ a cap, v = .slice a l.length cap ∧ Ints w.heap.size w a l := by
  obtain ⟨a, cap, e, h⟩ := h
  refine ⟨a, cap, e, ?_⟩
  rcases h with h | ⟨rfl, h, _⟩
  · exact .inl h
  · exact h.ints
/-- Five cells of a block. -/
def C5 (c : Array Value) (i : Nat) (n : Nd) (v : Value) : Prop :=
  c[i * 5]? = some (.int .i64 n.k) ∧ c[i * 5 + 1]? = some (.int .i64 n.op) ∧ c[i * 5 + 2]? = some (.string n.s) ∧ c[i * 5 + 3]? = some (.string n.t) ∧ c[i * 5 + 4]? = some v
/-- A block of n nodes, the first of which are l, each with a row of kids of its own: at r i, no two the same, from B on. -/
def Tr (B : Nat) (w : World) (g n : Nat) (l : List Nd) (r : Nat → Nat) : Prop :=
  (∃ c : Array Value, w.heap[g]? = some (.cells c 44 (0, 0)) ∧ c.size = n * 5 ∧ l.length ≤ n ∧ ∀ i (h : i < l.length), ∃ v, C5 c i l[i] v ∧ Kid B w g (r i) v l[i].kids) ∧
    (∀ i j, i < j → j < l.length → r i ≠ r j) ∧ ∀ i, i < l.length → r i < w.heap.size
theorem Tr.lt {B : Nat} {w : World} {g n : Nat} {l : List Nd} {r : Nat → Nat} (h : Tr B w g n l r) : g < w.heap.size := by
  obtain ⟨⟨c, hc, -⟩, -⟩ := h
  exact lt_of_heap hc
theorem Tr.keep {B B' : Nat} {w w' : World} {g n : Nat} {l : List Nd} {r : Nat → Nat} (h : Tr B w g n l r) (hb : Below B' w w') (hg : w.heap.size ≤ B') : Tr B w' g n l r := by
  have hlt := h.lt
  obtain ⟨⟨c, hc, hs, hl, hx⟩, ha, hr⟩ := h
  refine ⟨⟨c, (hb.block g (Nat.lt_of_lt_of_le hlt hg)).trans hc, hs, hl, fun i hi => ?_⟩, ha, fun i hi => Nat.lt_of_lt_of_le (hr i hi) hb.size⟩
  obtain ⟨v, h5, hk⟩ := hx i hi
  exact ⟨v, h5, hk.keep hb hg⟩
theorem Tr.lies {B : Nat} {w : World} {g n : Nat} {l : List Nd} {r : Nat → Nat} (h : Tr B w g n l r) : Lies w.heap.size w (some ⟨g, 0, none⟩) l := by
  have hlt := h.lt
  obtain ⟨⟨c, hc, hs, hl, hx⟩, ha⟩ := h
  refine .inr ⟨g, 0, rfl, hlt, fun i hi => ?_⟩
  obtain ⟨v, ⟨h0, h1, h2, h3, h4⟩, hk⟩ := hx i hi
  obtain ⟨a, cap, rfl, hI⟩ := hk.ints
  refine ⟨a, cap, ?_, hI⟩
  rw [Nat.zero_add]
  exact ⟨by rw [cell_of_row w g _ _ _ _ hc]; exact h0, by rw [cell_of_row w g _ _ _ _ hc]; exact h1, by rw [cell_of_row w g _ _ _ _ hc]; exact h2, by rw [cell_of_row w g _ _ _ _ hc]; exact h3, by rw [cell_of_row w g _ _ _ _ hc]; exact h4⟩
theorem Tr.frozen {B : Nat} {w : World} {g n : Nat} {l : List Nd} {r : Nat → Nat} (h : Tr B w g n l r) (j : Nat) : w.frozen? ⟨g, j, none⟩ = false := by
  obtain ⟨⟨c, hc, -⟩, -⟩ := h
  exact frozen_of_row w g j _ _ hc
theorem Tr.some {B : Nat} {w : World} {g n : Nat} {l : List Nd} {r : Nat → Nat} (h : Tr B w g n l r) (j : Nat) (hj : j < n * 5) : ∃ v, w.cell? ⟨g, j, none⟩ = some v := by
  obtain ⟨⟨c, hc, hs, -⟩, -⟩ := h
  rw [cell_of_row w g j _ _ _ hc]
  exact ⟨c[j]'(by omega), Array.getElem?_eq_getElem (by omega)⟩
theorem Tr.made (B : Nat) (w : World) (n : Nat) (r : Nat → Nat) : Tr B (w.alloc (.cells (madeCells #[.int .i64 0, .int .i64 0, .string ⟨#[]⟩, .string ⟨#[]⟩, .slice none 0 0] (n * 5)) 44)) w.heap.size n [] r :=
  ⟨⟨_, heap_alloc_new w _, by simp [madeCells], by simp, fun i hi => by simp at hi⟩, fun i j _ hj => by simp at hj, fun i hi => by simp at hi⟩

/-- A node's five stores. -/
def put5 (w : World) (g o : Nat) (k op : Int) (s t : ByteArray) (v : Value) : World :=
  ((((w.setCell ⟨g, o, none⟩ (.int .i64 k)).setCell ⟨g, o + 1, none⟩ (.int .i64 op)).setCell ⟨g, o + 2, none⟩ (.string s)).setCell ⟨g, o + 3, none⟩ (.string t)).setCell ⟨g, o + 4, none⟩ v
theorem put5_block (w : World) (g o k : Nat) (x y : Int) (s t : ByteArray) (v : Value) (h : k ≠ g) : (put5 w g o x y s t v).heap[k]? = w.heap[k]? := by
  unfold put5
  rw [heap_setCell_other _ _ k _ h, heap_setCell_other _ _ k _ h, heap_setCell_other _ _ k _ h, heap_setCell_other _ _ k _ h, heap_setCell_other _ _ k _ h]
theorem put5_size (w : World) (g o : Nat) (x y : Int) (s t : ByteArray) (v : Value) : (put5 w g o x y s t v).heap.size = w.heap.size := by
  unfold put5; simp
theorem put5_below {B : Nat} {W w : World} (h : Below B W w) (g o : Nat) (hg : B ≤ g) (x y : Int) (s t : ByteArray) (v : Value) : Below B W (put5 w g o x y s t v) := by
  unfold put5
  exact ((((h.setCell (p := ⟨g, o, none⟩) hg _).setCell (p := ⟨g, o + 1, none⟩) hg _).setCell (p := ⟨g, o + 2, none⟩) hg _).setCell (p := ⟨g, o + 3, none⟩) hg _).setCell (p := ⟨g, o + 4, none⟩) hg _
theorem c5_put {c : Array Value} {K : Nat} (n : Nd) (v : Value) (h : K * 5 + 4 < c.size) :
    C5 (((((c.setIfInBounds (K * 5) (.int .i64 n.k)).setIfInBounds (K * 5 + 1) (.int .i64 n.op)).setIfInBounds (K * 5 + 2) (.string n.s)).setIfInBounds (K * 5 + 3) (.string n.t)).setIfInBounds (K * 5 + 4) v) K n v := by
  unfold C5
  simp only [Array.getElem?_setIfInBounds, Array.size_setIfInBounds]
  refine ⟨?_, ?_, ?_, ?_, ?_⟩
  · rw [if_neg (by omega), if_neg (by omega), if_neg (by omega), if_neg (by omega), if_pos trivial, if_pos (by omega)]
  · rw [if_neg (by omega), if_neg (by omega), if_neg (by omega), if_pos trivial, if_pos (by omega)]
  · rw [if_neg (by omega), if_neg (by omega), if_pos trivial, if_pos (by omega)]
  · rw [if_neg (by omega), if_pos trivial, if_pos (by omega)]
  · rw [if_pos trivial, if_pos (by omega)]
theorem c5_other {c : Array Value} {K i : Nat} {m : Nd} {u : Value} (n : Nd) (v : Value) (hi : i ≠ K) (h : C5 c i m u) :
    C5 (((((c.setIfInBounds (K * 5) (.int .i64 n.k)).setIfInBounds (K * 5 + 1) (.int .i64 n.op)).setIfInBounds (K * 5 + 2) (.string n.s)).setIfInBounds (K * 5 + 3) (.string n.t)).setIfInBounds (K * 5 + 4) v) i m u := by
  obtain ⟨h0, h1, h2, h3, h4⟩ := h
  unfold C5
  simp only [Array.getElem?_setIfInBounds, Array.size_setIfInBounds]
  refine ⟨?_, ?_, ?_, ?_, ?_⟩
  · rw [if_neg (by omega), if_neg (by omega), if_neg (by omega), if_neg (by omega), if_neg (by omega)]; exact h0
  · rw [if_neg (by omega), if_neg (by omega), if_neg (by omega), if_neg (by omega), if_neg (by omega)]; exact h1
  · rw [if_neg (by omega), if_neg (by omega), if_neg (by omega), if_neg (by omega), if_neg (by omega)]; exact h2
  · rw [if_neg (by omega), if_neg (by omega), if_neg (by omega), if_neg (by omega), if_neg (by omega)]; exact h3
  · rw [if_neg (by omega), if_neg (by omega), if_neg (by omega), if_neg (by omega), if_neg (by omega)]; exact h4
theorem put5_heap {w : World} {g : Nat} {c : Array Value} {e : TypeId} (K : Nat) (n : Nd) (v : Value) (hc : w.heap[g]? = some (.cells c e (0, 0))) :
    (put5 w g (K * 5) n.k n.op n.s n.t v).heap[g]? = some (.cells (((((c.setIfInBounds (K * 5) (.int .i64 n.k)).setIfInBounds (K * 5 + 1) (.int .i64 n.op)).setIfInBounds (K * 5 + 2) (.string n.s)).setIfInBounds (K * 5 + 3) (.string n.t)).setIfInBounds (K * 5 + 4) v) e (0, 0)) := by
  unfold put5
  exact heap_setCell_same _ g _ _ _ _ (heap_setCell_same _ g _ _ _ _ (heap_setCell_same _ g _ _ _ _ (heap_setCell_same _ g _ _ _ _ (heap_setCell_same _ g _ _ _ _ hc))))
/-- A node put behind the first ones. -/
theorem Tr.put {B : Nat} {w : World} {g n b : Nat} {l : List Nd} {r : Nat → Nat} {v : Value} (h : Tr B w g n l r) (t : Nd) (hl : l.length < n) (hk : Kid B w g b v t.kids) (hb : ∀ i, i < l.length → r i ≠ b) (hbw : b < w.heap.size) :
    Tr B (put5 w g (l.length * 5) t.k t.op t.s t.t v) g n (l ++ [t]) (fun i => if i < l.length then r i else b) := by
  obtain ⟨⟨c, hc, hs, _, hx⟩, ha, hr⟩ := h
  have keepk : ∀ {r' : Nat} {u : Value} {m : List Int}, Kid B w g r' u m → Kid B (put5 w g (l.length * 5) t.k t.op t.s t.t v) g r' u m := by
    rintro r' u m ⟨a, cap, e, h⟩
    refine ⟨a, cap, e, h.imp id ?_⟩
    rintro ⟨e1, e2, e3, e4⟩
    exact ⟨e1, e2.of_block (put5_block _ _ _ _ _ _ _ _ _ e4), e3, e4⟩
  refine ⟨⟨_, put5_heap l.length t v hc, by simpa using hs, by simp; omega, fun i hi => ?_⟩, fun i j hij hj => ?_, fun i hi => ?_⟩
  · simp at hi
    by_cases he : i < l.length
    · obtain ⟨u, h5, hk'⟩ := hx i he
      simp only [List.getElem_append_left he, if_pos he]
      exact ⟨u, c5_other t v (by omega) h5, keepk hk'⟩
    · obtain rfl : i = l.length := by omega
      simp only [List.getElem_append_right (Nat.le_refl _), Nat.sub_self, List.getElem_cons_zero, if_neg (Nat.lt_irrefl _)]
      exact ⟨v, c5_put t v (by omega), keepk hk⟩
  · simp at hj
    by_cases he : j < l.length
    · simp only [if_pos he, if_pos (Nat.lt_trans hij he)]
      exact ha i j hij he
    · simp only [if_neg he, if_pos (show i < l.length by omega)]
      exact hb i (by omega)
  · simp at hi
    rw [put5_size]
    by_cases he : i < l.length
    · simp only [if_pos he]; exact hr i he
    · simp only [if_neg he]; exact hbw

theorem below_three (w : World) (a b c : Obj) : Below w.heap.size w (((w.alloc a).alloc b).alloc c) := (((Below.refl _ _).alloc (Nat.le_refl _) _).alloc (by simp) _).alloc (by simp; omega) _
def RelTo (B : Nat) (W : World) (l : List Nd) (i : Value) (wr : World) : Prop :=
  ∃ (I : Nat) (r : Nat → Nat), I ≤ l.length ∧ i = .int .i64 (I : Int) ∧ Below B W wr ∧ Tr B wr B l.length (l.take I) r

end Go.Proofs.YtagonpjkohidkaaGreatDoor.nd
