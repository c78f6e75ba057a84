/-
  Trees in memory of one's own ('Tr': a block of nodes, each with a row of kids of its own); laws.toNodeS and what it calls: contracts.
-/
import Derived.Test.YtckeepjfbpphaaaGreatDoorNd
namespace Go.Proofs.YtckeepjfbpphaaaGreatDoor.nd
open Go.ChangeShapes Go.WideShapes Go.ChangeAt Go.RowKit
set_option linter.unusedVariables false

/-- A block of n integers, the first of which are l. -/
def IBlk (w : World) (g n : Nat) (l : List Int) : Prop :=
  ∃ c : Array Value, w.heap[g]? = some (.cells c 3 (0, 0)) ∧ c.size = n ∧ l.length ≤ n ∧ ∀ i (h : i < l.length), c[i]? = some (.int .i64 l[i])
theorem lt_of_heap {w : World} {g : Nat} {o : Obj} (h : w.heap[g]? = some o) : g < w.heap.size := by
  rcases Nat.lt_or_ge g w.heap.size with h' | h'
  · exact h'
  · rw [Array.getElem?_eq_none h'] at h; cases h
theorem kids_le {l : List Nd} (h : tot l ≤ 1048576) : ∀ t ∈ l, t.kids.length ≤ 1048576 := fun t ht => by
  obtain ⟨i, hi, rfl⟩ := List.mem_iff_getElem.1 ht
  have := sz_le hi
  unfold Nd.sz at this
  omega
theorem IBlk.lt {w : World} {g n : Nat} {l : List Int} (h : IBlk w g n l) : g < w.heap.size := by
  obtain ⟨c, hc, -⟩ := h
  exact lt_of_heap hc
theorem IBlk.at {w : World} {g n : Nat} {l : List Int} (h : IBlk w g n l) (i : Nat) (hi : i < l.length) : w.cell? ⟨g, i, none⟩ = some (.int .i64 l[i]) := by
  obtain ⟨c, hc, hs, hl, hx⟩ := h
  rw [cell_of_row w g _ _ _ _ hc]
  exact hx i hi
theorem IBlk.ints {w : World} {g n : Nat} {l : List Int} (h : IBlk w g n l) : Ints w.heap.size w (some ⟨g, 0, none⟩) l :=
  .inr ⟨g, 0, rfl, h.lt, fun i hi => by rw [Nat.zero_add]; exact h.at i hi⟩
theorem IBlk.of_block {w w' : World} {g n : Nat} {l : List Int} (h : IBlk w g n l) (e : w'.heap[g]? = w.heap[g]?) : IBlk w' g n l := by
  obtain ⟨c, hc, r⟩ := h
  exact ⟨c, e.trans hc, r⟩
theorem IBlk.keep {B : Nat} {w w' : World} {g n : Nat} {l : List Int} (h : IBlk w g n l) (hb : Below B w w') (hg : g < B) : IBlk w' g n l := h.of_block (hb.block g hg)
theorem IBlk.frozen {w : World} {g n : Nat} {l : List Int} (h : IBlk w g n l) (j : Nat) : w.frozen? ⟨g, j, none⟩ = false := by
  obtain ⟨c, hc, -⟩ := h
  exact frozen_of_row w g j _ _ hc
theorem IBlk.some {w : World} {g n : Nat} {l : List Int} (h : IBlk w g n l) (j : Nat) (hj : j < n) : ∃ v, w.cell? ⟨g, j, none⟩ = some v := by
  obtain ⟨c, hc, hs, -⟩ := h
  rw [cell_of_row w g j _ _ _ hc]
  exact ⟨c[j]'(by omega), Array.getElem?_eq_getElem (by omega)⟩
theorem IBlk.put {w : World} {g n : Nat} {l : List Int} (h : IBlk w g n l) (v : Int) (hl : l.length < n) : IBlk (w.setCell ⟨g, l.length, none⟩ (.int .i64 v)) g n (l ++ [v]) := by
  obtain ⟨c, hc, hs, _, hx⟩ := h
  refine ⟨c.setIfInBounds l.length (.int .i64 v), heap_setCell_same _ g _ _ _ _ hc, by simpa using hs, by simp; omega, fun i hi => ?_⟩
  simp at hi
  by_cases he : i < l.length
  · rw [List.getElem_append_left he, Array.getElem?_setIfInBounds, if_neg (by omega)]
    exact hx i he
  · obtain rfl : i = l.length := by omega
    rw [List.getElem_append_right (Nat.le_refl _), Array.getElem?_setIfInBounds, if_pos rfl, if_pos (by omega)]
    simp

theorem Tryz.infoInt : (Tryz.prog.info? 3).map (fun i => (i.zero, i.size, i.bytes)) = some (some (.int .i64 0), 1, 8) := by kernel_rfl
theorem Tryz.infoNode : (Tryz.prog.info? 36).map (fun i => (i.zero, i.size, i.bytes)) = some (some (.agg #[.int .i64 0, .int .i64 0, .string ⟨#[]⟩, .string ⟨#[]⟩, .slice none 0 0]), 5, 72) := by kernel_rfl
/-- 'make([]int, n)'. -/
theorem make_ints (n : Nat) (hn : n ≤ 1048576) (w : World) :
    (Instr.makeSlice 31 (.int .i64 (n : Int)) (.int .i64 (n : Int))).run Tryz.prog w = .ok (.slice (some ⟨w.heap.size, 0, none⟩) n n) (w.alloc (.cells (madeCells #[.int .i64 0] n) 3)) := by
  obtain ⟨i, hi, hz⟩ := Option.map_eq_some_iff.1 Tryz.infoInt
  simp only [Prod.mk.injEq] at hz
  obtain ⟨hz0, hs, hb⟩ := hz
  have := run_make (P := Tryz.prog) w 31 3 i _ Tryz.underlying31 hi hz0 .i64 .i64 n n (by omega) (Int.le_refl _) (by rw [hb]; omega) (by omega)
  rw [hs, Nat.mul_one] at this
  exact this
theorem IBlk.made (w : World) (n : Nat) : IBlk (w.alloc (.cells (madeCells #[.int .i64 0] n) 3)) w.heap.size n [] :=
  ⟨_, heap_alloc_new w _, by simp [madeCells], by simp, fun i hi => by simp at hi⟩
/-- 'make([]impl.Node, n)'. -/
theorem make_nodes (n : Nat) (hn : n ≤ 1048576) (w : World) :
    (Instr.makeSlice 24 (.int .i64 (n : Int)) (.int .i64 (n : Int))).run Tryz.prog w = .ok (.slice (some ⟨w.heap.size, 0, none⟩) n n) (w.alloc (.cells (madeCells #[.int .i64 0, .int .i64 0, .string ⟨#[]⟩, .string ⟨#[]⟩, .slice none 0 0] (n * 5)) 36)) := by
  obtain ⟨i, hi, hz⟩ := Option.map_eq_some_iff.1 Tryz.infoNode
  simp only [Prod.mk.injEq] at hz
  obtain ⟨hz0, hs, hb⟩ := hz
  have := run_make (P := Tryz.prog) w 24 36 i _ Tryz.underlying24 hi hz0 .i64 .i64 n n (by omega) (Int.le_refl _) (by rw [hb]; omega) (by omega)
  rw [hs] at this
  exact this

def RelTi (B : Nat) (W : World) (l : List Int) (i : Value) (wr : World) : Prop :=
  ∃ I : Nat, I ≤ l.length ∧ i = .int .i64 (I : Int) ∧ Below B W wr ∧ IBlk wr B l.length (l.take I)
set_option maxHeartbeats 800000 in
theorem to_ints (l : List Int) (a : Option Addr) (cap : Nat) (w : World) (hn : l.length ≤ 1048576) (hc : Ints w.heap.size w a l) :
    Calls Tryz.prog 27 #[.slice a l.length cap] w fun e w' => e = .returned (.slice (some ⟨w.heap.size, 0, none⟩) l.length l.length) ∧ Below w.heap.size w w' ∧ IBlk w' w.heap.size l.length l := by
  have HC := Lib.hid hc
  clear hc
  have hmk := make_ints l.length hn
  have HB0 := Lib.hid (IBlk.made w l.length)
  go_enter Tryz.func27, Tryz.ntmps27
  go_wp2
  go_loopw [4] (fun i wr => RelTi w.heap.size w l i wr) (fun i _ => l.length - (intOf i).toNat)
  case atStart => exact ⟨0, by omega, rfl, (Below.refl _ _).alloc (Nat.le_refl _) _, HB0.out⟩
  case round =>
    obtain ⟨I, hI, rfl, hbel, hblk⟩ := hrel
    have HB := Lib.hid hbel
    have HK := Lib.hid hblk
    clear hbel hblk
    by_cases hlt : I < l.length
    · obtain ⟨b, o, rfl, hb, hcell⟩ := ints_at HC.out hlt
      have c0 := (HB.out.cell (p := ⟨b, o + I, none⟩) hb).trans (hcell I hlt)
      obtain ⟨t, ht⟩ : ∃ t, t = l[I] := ⟨_, rfl⟩
      have HT := Lib.hid ht
      rw [← ht] at c0
      obtain ⟨v0, e0⟩ := HK.out.some I hlt
      have f0 := HK.out.frozen I
      clear ht hcell
      have hi1 : (I : Int) < (l.length : Int) := by omega
      go_wp2
      try go_quiet (fail)
      try go_wp2
      go_roundw
      case rel =>
        refine ⟨I + 1, by omega, by go_num, HB.out.setCell (Nat.le_refl _) _, ?_⟩
        have hp := HK.out.put t (by simp; omega)
        rw [List.length_take, Nat.min_eq_left hI, HT.out, ← List.take_succ_eq_append_getElem hlt] at hp
        rw [HT.out]
        exact hp
      case measure => simp [intOf]; omega
    · obtain rfl : I = l.length := by omega
      have HN := Lib.hid (show IBlk wr w.heap.size l.length l by have := HK.out; rwa [List.take_length] at this)
      go_wp2
      go_ret
      exact ⟨rfl, HB.out, HN.out⟩

/-! ### A tree of one's own -/
/-- A row of kids in memory of its own, at block r. -/
def Kid (B : Nat) (w : World) (g r : Nat) (v : Value) (l : List Int) : Prop :=
  ∃ a cap, v = .slice a l.length cap ∧ (l = [] ∨ a = some ⟨r, 0, none⟩ ∧ IBlk w r cap l ∧ B ≤ r ∧ r ≠ g)
theorem Kid.keep {B B' : Nat} {w w' : World} {g r : Nat} {v : Value} {l : List Int} (h : Kid B w g r v l) (hb : Below B' w w') (hg : w.heap.size ≤ B') : Kid B w' g r v l := by
  obtain ⟨a, cap, e, h⟩ := h
  refine ⟨a, cap, e, h.imp id ?_⟩
  rintro ⟨e1, e2, e3⟩
  exact ⟨e1, e2.keep hb (Nat.lt_of_lt_of_le e2.lt hg), e3⟩
theorem Kid.ints {B : Nat} {w : World} {g r : Nat} {v : Value} {l : List Int} (h : Kid B w g r v l) : ∃ a cap, v = .slice a l.length cap ∧ Ints w.heap.size w a l := by
  obtain ⟨a, cap, e, h⟩ := h
  refine ⟨a, cap, e, ?_⟩
  rcases h with h | ⟨rfl, h, _⟩
  · exact .inl h
  · exact h.ints
/-- Five cells of a block. -/
def C5 (c : Array Value) (i : Nat) (n : Nd) (v : Value) : Prop :=
  c[i * 5]? = some (.int .i64 n.k) ∧ c[i * 5 + 1]? = some (.int .i64 n.op) ∧ c[i * 5 + 2]? = some (.string n.s) ∧ c[i * 5 + 3]? = some (.string n.t) ∧ c[i * 5 + 4]? = some v
/-- A block of n nodes, the first of which are l, each with a row of kids of its own: at r i, no two the same, from B on. -/
def Tr (B : Nat) (w : World) (g n : Nat) (l : List Nd) (r : Nat → Nat) : Prop :=
  (∃ c : Array Value, w.heap[g]? = some (.cells c 36 (0, 0)) ∧ c.size = n * 5 ∧ l.length ≤ n ∧ ∀ i (h : i < l.length), ∃ v, C5 c i l[i] v ∧ Kid B w g (r i) v l[i].kids) ∧
    (∀ i j, i < j → j < l.length → r i ≠ r j) ∧ ∀ i, i < l.length → r i < w.heap.size
theorem Tr.lt {B : Nat} {w : World} {g n : Nat} {l : List Nd} {r : Nat → Nat} (h : Tr B w g n l r) : g < w.heap.size := by
  obtain ⟨⟨c, hc, -⟩, -⟩ := h
  exact lt_of_heap hc
theorem Tr.keep {B B' : Nat} {w w' : World} {g n : Nat} {l : List Nd} {r : Nat → Nat} (h : Tr B w g n l r) (hb : Below B' w w') (hg : w.heap.size ≤ B') : Tr B w' g n l r := by
  have hlt := h.lt
  obtain ⟨⟨c, hc, hs, hl, hx⟩, ha, hr⟩ := h
  refine ⟨⟨c, (hb.block g (Nat.lt_of_lt_of_le hlt hg)).trans hc, hs, hl, fun i hi => ?_⟩, ha, fun i hi => Nat.lt_of_lt_of_le (hr i hi) hb.size⟩
  obtain ⟨v, h5, hk⟩ := hx i hi
  exact ⟨v, h5, hk.keep hb hg⟩
theorem Tr.lies {B : Nat} {w : World} {g n : Nat} {l : List Nd} {r : Nat → Nat} (h : Tr B w g n l r) : Lies w.heap.size w (some ⟨g, 0, none⟩) l := by
  have hlt := h.lt
  obtain ⟨⟨c, hc, hs, hl, hx⟩, ha⟩ := h
  refine .inr ⟨g, 0, rfl, hlt, fun i hi => ?_⟩
  obtain ⟨v, ⟨h0, h1, h2, h3, h4⟩, hk⟩ := hx i hi
  obtain ⟨a, cap, rfl, hI⟩ := hk.ints
  refine ⟨a, cap, ?_, hI⟩
  rw [Nat.zero_add]
  exact ⟨by rw [cell_of_row w g _ _ _ _ hc]; exact h0, by rw [cell_of_row w g _ _ _ _ hc]; exact h1, by rw [cell_of_row w g _ _ _ _ hc]; exact h2, by rw [cell_of_row w g _ _ _ _ hc]; exact h3, by rw [cell_of_row w g _ _ _ _ hc]; exact h4⟩
theorem Tr.frozen {B : Nat} {w : World} {g n : Nat} {l : List Nd} {r : Nat → Nat} (h : Tr B w g n l r) (j : Nat) : w.frozen? ⟨g, j, none⟩ = false := by
  obtain ⟨⟨c, hc, -⟩, -⟩ := h
  exact frozen_of_row w g j _ _ hc
theorem Tr.some {B : Nat} {w : World} {g n : Nat} {l : List Nd} {r : Nat → Nat} (h : Tr B w g n l r) (j : Nat) (hj : j < n * 5) : ∃ v, w.cell? ⟨g, j, none⟩ = some v := by
  obtain ⟨⟨c, hc, hs, -⟩, -⟩ := h
  rw [cell_of_row w g j _ _ _ hc]
  exact ⟨c[j]'(by omega), Array.getElem?_eq_getElem (by omega)⟩
theorem Tr.made (B : Nat) (w : World) (n : Nat) (r : Nat → Nat) : Tr B (w.alloc (.cells (madeCells #[.int .i64 0, .int .i64 0, .string ⟨#[]⟩, .string ⟨#[]⟩, .slice none 0 0] (n * 5)) 36)) w.heap.size n [] r :=
  ⟨⟨_, heap_alloc_new w _, by simp [madeCells], by simp, fun i hi => by simp at hi⟩, fun i j _ hj => by simp at hj, fun i hi => by simp at hi⟩

/-- A node's five stores. -/
def put5 (w : World) (g o : Nat) (k op : Int) (s t : ByteArray) (v : Value) : World :=
  ((((w.setCell ⟨g, o, none⟩ (.int .i64 k)).setCell ⟨g, o + 1, none⟩ (.int .i64 op)).setCell ⟨g, o + 2, none⟩ (.string s)).setCell ⟨g, o + 3, none⟩ (.string t)).setCell ⟨g, o + 4, none⟩ v
theorem put5_block (w : World) (g o k : Nat) (x y : Int) (s t : ByteArray) (v : Value) (h : k ≠ g) : (put5 w g o x y s t v).heap[k]? = w.heap[k]? := by
  unfold put5
  rw [heap_setCell_other _ _ k _ h, heap_setCell_other _ _ k _ h, heap_setCell_other _ _ k _ h, heap_setCell_other _ _ k _ h, heap_setCell_other _ _ k _ h]
theorem put5_size (w : World) (g o : Nat) (x y : Int) (s t : ByteArray) (v : Value) : (put5 w g o x y s t v).heap.size = w.heap.size := by
  unfold put5; simp
theorem put5_below {B : Nat} {W w : World} (h : Below B W w) (g o : Nat) (hg : B ≤ g) (x y : Int) (s t : ByteArray) (v : Value) : Below B W (put5 w g o x y s t v) := by
  unfold put5
  exact ((((h.setCell (p := ⟨g, o, none⟩) hg _).setCell (p := ⟨g, o + 1, none⟩) hg _).setCell (p := ⟨g, o + 2, none⟩) hg _).setCell (p := ⟨g, o + 3, none⟩) hg _).setCell (p := ⟨g, o + 4, none⟩) hg _
theorem c5_put {c : Array Value} {K : Nat} (n : Nd) (v : Value) (h : K * 5 + 4 < c.size) :
    C5 (((((c.setIfInBounds (K * 5) (.int .i64 n.k)).setIfInBounds (K * 5 + 1) (.int .i64 n.op)).setIfInBounds (K * 5 + 2) (.string n.s)).setIfInBounds (K * 5 + 3) (.string n.t)).setIfInBounds (K * 5 + 4) v) K n v := by
  unfold C5
  simp only [Array.getElem?_setIfInBounds, Array.size_setIfInBounds]
  refine ⟨?_, ?_, ?_, ?_, ?_⟩
  · rw [if_neg (by omega), if_neg (by omega), if_neg (by omega), if_neg (by omega), if_pos trivial, if_pos (by omega)]
  · rw [if_neg (by omega), if_neg (by omega), if_neg (by omega), if_pos trivial, if_pos (by omega)]
  · rw [if_neg (by omega), if_neg (by omega), if_pos trivial, if_pos (by omega)]
  · rw [if_neg (by omega), if_pos trivial, if_pos (by omega)]
  · rw [if_pos trivial, if_pos (by omega)]
theorem c5_other {c : Array Value} {K i : Nat} {m : Nd} {u : Value} (n : Nd) (v : Value) (hi : i ≠ K) (h : C5 c i m u) :
    C5 (((((c.setIfInBounds (K * 5) (.int .i64 n.k)).setIfInBounds (K * 5 + 1) (.int .i64 n.op)).setIfInBounds (K * 5 + 2) (.string n.s)).setIfInBounds (K * 5 + 3) (.string n.t)).setIfInBounds (K * 5 + 4) v) i m u := by
  obtain ⟨h0, h1, h2, h3, h4⟩ := h
  unfold C5
  simp only [Array.getElem?_setIfInBounds, Array.size_setIfInBounds]
  refine ⟨?_, ?_, ?_, ?_, ?_⟩
  · rw [if_neg (by omega), if_neg (by omega), if_neg (by omega), if_neg (by omega), if_neg (by omega)]; exact h0
  · rw [if_neg (by omega), if_neg (by omega), if_neg (by omega), if_neg (by omega), if_neg (by omega)]; exact h1
  · rw [if_neg (by omega), if_neg (by omega), if_neg (by omega), if_neg (by omega), if_neg (by omega)]; exact h2
  · rw [if_neg (by omega), if_neg (by omega), if_neg (by omega), if_neg (by omega), if_neg (by omega)]; exact h3
  · rw [if_neg (by omega), if_neg (by omega), if_neg (by omega), if_neg (by omega), if_neg (by omega)]; exact h4
theorem put5_heap {w : World} {g : Nat} {c : Array Value} {e : TypeId} (K : Nat) (n : Nd) (v : Value) (hc : w.heap[g]? = some (.cells c e (0, 0))) :
    (put5 w g (K * 5) n.k n.op n.s n.t v).heap[g]? = some (.cells (((((c.setIfInBounds (K * 5) (.int .i64 n.k)).setIfInBounds (K * 5 + 1) (.int .i64 n.op)).setIfInBounds (K * 5 + 2) (.string n.s)).setIfInBounds (K * 5 + 3) (.string n.t)).setIfInBounds (K * 5 + 4) v) e (0, 0)) := by
  unfold put5
  exact heap_setCell_same _ g _ _ _ _ (heap_setCell_same _ g _ _ _ _ (heap_setCell_same _ g _ _ _ _ (heap_setCell_same _ g _ _ _ _ (heap_setCell_same _ g _ _ _ _ hc))))
/-- A node put behind the first ones. -/
theorem Tr.put {B : Nat} {w : World} {g n b : Nat} {l : List Nd} {r : Nat → Nat} {v : Value} (h : Tr B w g n l r) (t : Nd) (hl : l.length < n) (hk : Kid B w g b v t.kids) (hb : ∀ i, i < l.length → r i ≠ b) (hbw : b < w.heap.size) :
    Tr B (put5 w g (l.length * 5) t.k t.op t.s t.t v) g n (l ++ [t]) (fun i => if i < l.length then r i else b) := by
  obtain ⟨⟨c, hc, hs, _, hx⟩, ha, hr⟩ := h
  have keepk : ∀ {r' : Nat} {u : Value} {m : List Int}, Kid B w g r' u m → Kid B (put5 w g (l.length * 5) t.k t.op t.s t.t v) g r' u m := by
    rintro r' u m ⟨a, cap, e, h⟩
    refine ⟨a, cap, e, h.imp id ?_⟩
    rintro ⟨e1, e2, e3, e4⟩
    exact ⟨e1, e2.of_block (put5_block _ _ _ _ _ _ _ _ _ e4), e3, e4⟩
  refine ⟨⟨_, put5_heap l.length t v hc, by simpa using hs, by simp; omega, fun i hi => ?_⟩, fun i j hij hj => ?_, fun i hi => ?_⟩
  · simp at hi
    by_cases he : i < l.length
    · obtain ⟨u, h5, hk'⟩ := hx i he
      simp only [List.getElem_append_left he, if_pos he]
      exact ⟨u, c5_other t v (by omega) h5, keepk hk'⟩
    · obtain rfl : i = l.length := by omega
      simp only [List.getElem_append_right (Nat.le_refl _), Nat.sub_self, List.getElem_cons_zero, if_neg (Nat.lt_irrefl _)]
      exact ⟨v, c5_put t v (by omega), keepk hk⟩
  · simp at hj
    by_cases he : j < l.length
    · simp only [if_pos he, if_pos (Nat.lt_trans hij he)]
      exact ha i j hij he
    · simp only [if_neg he, if_pos (show i < l.length by omega)]
      exact hb i (by omega)
  · simp at hi
    rw [put5_size]
    by_cases he : i < l.length
    · simp only [if_pos he]; exact hr i he
    · simp only [if_neg he]; exact hbw

theorem below_three (w : World) (a b c : Obj) : Below w.heap.size w (((w.alloc a).alloc b).alloc c) := (((Below.refl _ _).alloc (Nat.le_refl _) _).alloc (by simp) _).alloc (by simp; omega) _
set_option maxHeartbeats 800000 in
theorem to_node (n : Nd) (a : Option Addr) (cap : Nat) (w : World) (hn : n.kids.length ≤ 1048576) (hc : Ints w.heap.size w a n.kids) :
    Calls Tryz.prog 14 #[.agg #[.int .i64 n.k, .int .i64 n.op, .string n.s, .string n.t, .slice a n.kids.length cap]] w fun e w' => ∃ b, w.heap.size ≤ b ∧ e = .returned (.agg #[.int .i64 n.k, .int .i64 n.op, .string n.s, .string n.t, .slice (some ⟨b, 0, none⟩) n.kids.length n.kids.length]) ∧ Below w.heap.size w w' ∧ IBlk w' b n.kids.length n.kids := by
  have HC := Lib.hid hc
  clear hc
  obtain ⟨k, op, s, t, kids⟩ := n
  simp only at hn HC ⊢
  go_enter Tryz.func14, Tryz.ntmps14
  go_wp2_with fail
  obtain ⟨W, hW⟩ : ∃ W, W = ((w.alloc (.cells #[.int .i64 k, .int .i64 op, .string s, .string t, .slice a kids.length cap] 33)).alloc (.cells #[.int .i64 0, .int .i64 0, .string ⟨#[]⟩, .string ⟨#[]⟩, .slice none 0 0] 36)).alloc (.cells #[.int .i64 k, .int .i64 op, .string s, .string t, .slice none 0 0] 36) := ⟨_, rfl⟩
  have hsz : W.heap.size = w.heap.size + 1 + 1 + 1 := by rw [hW]; simp
  have HB := Lib.hid (show Below w.heap.size w W by rw [hW]; exact below_three _ _ _ _)
  have ho : W.heap[w.heap.size + 1 + 1]? = some (.cells #[.int .i64 k, .int .i64 op, .string s, .string t, .slice none 0 0] 36 (0, 0)) := by
    rw [hW]
    have := heap_alloc_new ((w.alloc (.cells #[.int .i64 k, .int .i64 op, .string s, .string t, .slice a kids.length cap] 33)).alloc (.cells #[.int .i64 0, .int .i64 0, .string ⟨#[]⟩, .string ⟨#[]⟩, .slice none 0 0] 36)) (.cells #[.int .i64 k, .int .i64 op, .string s, .string t, .slice none 0 0] 36)
    simp only [World.size_alloc] at this
    exact this
  have hr : W.heap[w.heap.size + 1]? = some (.cells #[.int .i64 0, .int .i64 0, .string ⟨#[]⟩, .string ⟨#[]⟩, .slice none 0 0] 36 (0, 0)) := by
    rw [hW, Below.heap_alloc _ _ _ (by simp)]
    have := heap_alloc_new (w.alloc (.cells #[.int .i64 k, .int .i64 op, .string s, .string t, .slice a kids.length cap] 33)) (.cells #[.int .i64 0, .int .i64 0, .string ⟨#[]⟩, .string ⟨#[]⟩, .slice none 0 0] 36)
    simp only [World.size_alloc] at this
    exact this
  have HW := Lib.hid hW
  clear hW
  rw [← HW.out]
  refine (to_ints kids a cap W hn ((HC.out.keep HB.out (Nat.le_refl _)).up HB.out.size)).mono ?_
  rintro e w2 ⟨rfl, b2, k2⟩
  have ho2 := (b2.block (w.heap.size + 1 + 1) (by omega)).trans ho
  have hr2 := (b2.block (w.heap.size + 1) (by omega)).trans hr
  have c0 : w2.cell? ⟨w.heap.size + 1 + 1, 0, none⟩ = some (.int .i64 k) := by rw [cell_of_row _ _ 0 _ _ _ ho2]; rfl
  have c1 : w2.cell? ⟨w.heap.size + 1 + 1, 1, none⟩ = some (.int .i64 op) := by rw [cell_of_row _ _ 1 _ _ _ ho2]; rfl
  have c2 : w2.cell? ⟨w.heap.size + 1 + 1, 2, none⟩ = some (.string s) := by rw [cell_of_row _ _ 2 _ _ _ ho2]; rfl
  have c3 : w2.cell? ⟨w.heap.size + 1 + 1, 3, none⟩ = some (.string t) := by rw [cell_of_row _ _ 3 _ _ _ ho2]; rfl
  have c4 : w2.cell? ⟨w.heap.size + 1 + 1, 4, none⟩ = some (.slice none 0 0) := by rw [cell_of_row _ _ 4 _ _ _ ho2]; rfl
  have g0 : w2.cell? ⟨w.heap.size + 1, 0, none⟩ = some (.int .i64 0) := by rw [cell_of_row _ _ 0 _ _ _ hr2]; rfl
  have g1 : w2.cell? ⟨w.heap.size + 1, 1, none⟩ = some (.int .i64 0) := by rw [cell_of_row _ _ 1 _ _ _ hr2]; rfl
  have g2 : w2.cell? ⟨w.heap.size + 1, 2, none⟩ = some (.string ⟨#[]⟩) := by rw [cell_of_row _ _ 2 _ _ _ hr2]; rfl
  have g3 : w2.cell? ⟨w.heap.size + 1, 3, none⟩ = some (.string ⟨#[]⟩) := by rw [cell_of_row _ _ 3 _ _ _ hr2]; rfl
  have g4 : w2.cell? ⟨w.heap.size + 1, 4, none⟩ = some (.slice none 0 0) := by rw [cell_of_row _ _ 4 _ _ _ hr2]; rfl
  have f4 : w2.frozen? ⟨w.heap.size + 1 + 1, 4, none⟩ = false := frozen_of_row _ _ 4 _ _ ho2
  have e0 : w2.frozen? ⟨w.heap.size + 1, 0, none⟩ = false := frozen_of_row _ _ 0 _ _ hr2
  have e1 : w2.frozen? ⟨w.heap.size + 1, 1, none⟩ = false := frozen_of_row _ _ 1 _ _ hr2
  have e2 : w2.frozen? ⟨w.heap.size + 1, 2, none⟩ = false := frozen_of_row _ _ 2 _ _ hr2
  have e3 : w2.frozen? ⟨w.heap.size + 1, 3, none⟩ = false := frozen_of_row _ _ 3 _ _ hr2
  have e4 : w2.frozen? ⟨w.heap.size + 1, 4, none⟩ = false := frozen_of_row _ _ 4 _ _ hr2
  rw [hsz] at b2 k2 ⊢
  have HB2 := Lib.hid (HB.out.trans (b2.mono (by omega)))
  have HK2 := Lib.hid k2
  clear b2 k2 ho hr
  go_wp2
  obtain ⟨W3, hW3⟩ : ∃ W3, W3 = w2.setCell ⟨w.heap.size + 1 + 1, 4, none⟩ (.slice (some ⟨w.heap.size + 1 + 1 + 1, 0, none⟩) kids.length kids.length) := ⟨_, rfl⟩
  rw [← hW3]
  have h3r : W3.heap[w.heap.size + 1]? = some (.cells #[.int .i64 0, .int .i64 0, .string ⟨#[]⟩, .string ⟨#[]⟩, .slice none 0 0] 36 (0, 0)) := by
    rw [hW3, heap_setCell_other _ _ _ _ (by show w.heap.size + 1 ≠ w.heap.size + 1 + 1; omega)]; exact hr2
  have h3 := put5_heap (w := W3) (g := w.heap.size + 1) 0 ⟨k, op, s, t, kids⟩ (.slice (some ⟨w.heap.size + 1 + 1 + 1, 0, none⟩) kids.length kids.length) h3r
  have hb3 : Below w.heap.size w W3 := by rw [hW3]; exact HB2.out.setCell (p := ⟨w.heap.size + 1 + 1, 4, none⟩) (by show _ ≤ w.heap.size + 1 + 1; omega) _
  have hk3 : W3.heap[w.heap.size + 1 + 1 + 1]? = w2.heap[w.heap.size + 1 + 1 + 1]? := by rw [hW3, heap_setCell_other _ _ _ _ (by show w.heap.size + 1 + 1 + 1 ≠ w.heap.size + 1 + 1; omega)]
  obtain ⟨W4, hW4⟩ : ∃ W4, W4 = put5 W3 (w.heap.size + 1) 0 k op s t (.slice (some ⟨w.heap.size + 1 + 1 + 1, 0, none⟩) kids.length kids.length) := ⟨_, rfl⟩
  have h4 : W4.heap[w.heap.size + 1]? = some (.cells #[.int .i64 k, .int .i64 op, .string s, .string t, .slice (some ⟨w.heap.size + 1 + 1 + 1, 0, none⟩) kids.length kids.length] 36 (0, 0)) := by rw [hW4]; exact h3
  have hb4 : Below w.heap.size w W4 := by rw [hW4]; exact put5_below hb3 _ _ (by omega) _ _ _ _ _
  have hk4 : IBlk W4 (w.heap.size + 1 + 1 + 1) kids.length kids := by
    rw [hW4]
    exact (HK2.out.of_block hk3).of_block (put5_block _ _ _ _ _ _ _ _ _ (by omega))
  unfold put5 at hW4
  rw [← hW4]
  have d0 : W4.cell? ⟨w.heap.size + 1, 0, none⟩ = some (.int .i64 k) := by rw [cell_of_row _ _ 0 _ _ _ h4]; rfl
  have d1 : W4.cell? ⟨w.heap.size + 1, 1, none⟩ = some (.int .i64 op) := by rw [cell_of_row _ _ 1 _ _ _ h4]; rfl
  have d2 : W4.cell? ⟨w.heap.size + 1, 2, none⟩ = some (.string s) := by rw [cell_of_row _ _ 2 _ _ _ h4]; rfl
  have d3 : W4.cell? ⟨w.heap.size + 1, 3, none⟩ = some (.string t) := by rw [cell_of_row _ _ 3 _ _ _ h4]; rfl
  have d4 : W4.cell? ⟨w.heap.size + 1, 4, none⟩ = some (.slice (some ⟨w.heap.size + 1 + 1 + 1, 0, none⟩) kids.length kids.length) := by rw [cell_of_row _ _ 4 _ _ _ h4]; rfl
  refine bodyPost_ret (v := .agg #[.int .i64 k, .int .i64 op, .string s, .string t, .slice (some ⟨w.heap.size + 1 + 1 + 1, 0, none⟩) kids.length kids.length]) (by simp [results, Tryz.results14, go_sem, d0, d1, d2, d3, d4]) rfl ?_
  exact ⟨w.heap.size + 1 + 1 + 1, by omega, rfl, hb4, hk4⟩

def RelTo (B : Nat) (W : World) (l : List Nd) (i : Value) (wr : World) : Prop :=
  ∃ (I : Nat) (r : Nat → Nat), I ≤ l.length ∧ i = .int .i64 (I : Int) ∧ Below B W wr ∧ Tr B wr B l.length (l.take I) r

set_option maxHeartbeats 1600000 in
theorem to_nodes (l : List Nd) (a : Option Addr) (cap : Nat) (w : World) (hn : l.length ≤ 1048576) (hk : ∀ t ∈ l, t.kids.length ≤ 1048576) (hc : Lies w.heap.size w a l) :
    Calls Tryz.prog 6 #[.slice a l.length cap] w fun e w' => e = .returned (.slice (some ⟨w.heap.size, 0, none⟩) l.length l.length) ∧ Below w.heap.size w w' ∧ ∃ r, Tr w.heap.size w' w.heap.size l.length l r := by
  have HC := Lib.hid hc
  have HK0 := Lib.hid hk
  clear hc hk
  have hmk := make_nodes l.length hn
  have HB0 := Lib.hid (Tr.made w.heap.size w l.length (fun i => i))
  go_enter Tryz.func6, Tryz.ntmps6
  go_wp2
  go_loopw [4] (fun i wr => RelTo w.heap.size w l i wr) (fun i _ => l.length - (intOf i).toNat)
  case atStart => exact ⟨0, _, by omega, rfl, (Below.refl _ _).alloc (Nat.le_refl _) _, HB0.out⟩
  case round =>
    obtain ⟨I, r, hI, rfl, hbel, hblk⟩ := hrel
    have HB := Lib.hid hbel
    have HK := Lib.hid hblk
    clear hbel hblk
    by_cases hlt : I < l.length
    · obtain ⟨b, o, rfl, hb, hcell⟩ := lies_at HC.out hlt
      obtain ⟨ak, ck, h5, hik⟩ := (hcell I hlt).keep HB.out (Nat.le_refl _) hb
      obtain ⟨c0, c1, c2, c3, c4⟩ := h5
      have HKL := Lib.hid (HK0.out l[I] (List.getElem_mem hlt))
      obtain ⟨t, ht⟩ : ∃ t, t = l[I] := ⟨_, rfl⟩
      have HT := Lib.hid ht
      rw [← ht] at c0 c1 c2 c3 c4 hik HKL
      have HIK := Lib.hid hik
      have HSZ := Lib.hid (show w.heap.size ≤ wr.heap.size from HB.out.size)
      clear ht hcell hik
      have hi1 : (I : Int) < (l.length : Int) := by omega
      go_wp2_with fail
      refine (to_node t ak ck _ HKL.out (HIK.out.up HSZ.out)).mono ?_
      rintro e w2 ⟨bk, hbk, rfl, b2, k2⟩
      have HB2 := Lib.hid (HB.out.trans (b2.mono HB.out.size))
      have HK2 := Lib.hid (HK.out.keep b2 (Nat.le_refl _))
      have HBK := Lib.hid k2
      have HBK2 := Lib.hid hbk
      obtain ⟨v0, e0⟩ := HK2.out.some (I * 5) (by omega)
      obtain ⟨v1, e1⟩ := HK2.out.some (I * 5 + 1) (by omega)
      obtain ⟨v2, e2⟩ := HK2.out.some (I * 5 + 2) (by omega)
      obtain ⟨v3, e3⟩ := HK2.out.some (I * 5 + 3) (by omega)
      obtain ⟨v4, e4⟩ := HK2.out.some (I * 5 + 4) (by omega)
      have f0 := HK2.out.frozen (I * 5)
      have f1 := HK2.out.frozen (I * 5 + 1)
      have f2 := HK2.out.frozen (I * 5 + 2)
      have f3 := HK2.out.frozen (I * 5 + 3)
      have f4 := HK2.out.frozen (I * 5 + 4)
      clear b2 c0 c1 c2 c3 c4 k2 hbk
      go_wp2
      go_roundw
      case rel =>
        have hlen : (l.take I).length = I := by simp; omega
        have hlt2 := HK.out.lt
        have hp := HK2.out.put (b := bk) (v := .slice (some ⟨bk, 0, none⟩) t.kids.length t.kids.length) t (by omega) ⟨_, _, rfl, .inr ⟨rfl, HBK.out, by have := HBK2.out; have := HSZ.out; omega, by have := HBK2.out; omega⟩⟩ (fun i hi => Nat.ne_of_lt (Nat.lt_of_lt_of_le (HK.out.2.2 i hi) HBK2.out)) HBK.out.lt
        rw [hlen, HT.out, ← List.take_succ_eq_append_getElem hlt] at hp
        rw [HT.out]
        exact ⟨I + 1, _, by omega, by go_num, put5_below HB2.out _ _ (Nat.le_refl _) _ _ _ _ _, hp⟩
      case measure => simp [intOf]; omega
    · obtain rfl : I = l.length := by omega
      have HN := Lib.hid (show Tr w.heap.size wr w.heap.size l.length l r by have := HK.out; rwa [List.take_length] at this)
      go_wp2
      go_ret
      exact ⟨rfl, HB.out, _, HN.out⟩
end Go.Proofs.YtckeepjfbpphaaaGreatDoor.nd
