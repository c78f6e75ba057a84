/-
  Nodes built by append, each with a row of kids of its own ('PT'); the steps of an append.
-/
import Derived.Test.YtckeepjfbpphaaaGreatDoorOwnI
import Derived.Deep.RegionLaw
namespace Go.Proofs.YtckeepjfbpphaaaGreatDoor.nd
open Go.RowKit
set_option linter.unusedVariables false
set_option maxRecDepth 20000

/-- 'append(l, v)' as a step of a region that draws its order. -/
theorem step_append_int {ops : Array Oper} {o : Oper} {a : Act} {w : World} {K : Act → World → Prop} {Q : Exit → Act → World → Prop} {E : Prop} (hgd : o.guard = none) (s x : Operand)
    (ho : o.op = .call { callee := .builtin .append, args := #[s, x], argTypes := #[31, 31] }) (B : Nat) (v : Value) (d : List Int) (z : Int) (hs : a.eval s = v)
    (hown : OwnI B v d w) (gz : Nat) (hx : a.eval x = .slice (some ⟨gz, 0, none⟩) 1 1) (hz : w.heap[gz]? = some (.cells #[.int .i64 z] 3 (0, 0))) (hn : d.length ≤ 1048576) (hB : B ≤ w.heap.size)
    (h : ∀ g cap w', OwnI B (.slice (some ⟨g, 0, none⟩) (d.length + 1) cap) (d ++ [z]) w' → Below B w w' → K (a.put o.dst (.slice (some ⟨g, 0, none⟩) (d.length + 1) cap)) w') :
    if Region.wanted o (yielded ops a.tmps) = true then Oper.wp Tryz.prog o a w K Q else E := by
  obtain ⟨i0, hi, hz0, hz1, hz2⟩ := info_parts Tryz.infoInt
  refine step_append_lies w hgd s x 31 ho B 3 i0 _ 1 8 Tryz.underlying31 hi hz0 hz1 hz2 rfl (by decide) v d.length (ivals d) hs hown ⟨gz, 0, none⟩ 1 1 [.int .i64 z] hx rfl ?_ ?_ (by decide) (by unfold maxLen; omega) (by omega) hB _ rfl ?_
  · intro j u hj
    rw [show ((⟨gz, 0, none⟩ : Addr).add j) = ⟨gz, j, none⟩ by unfold Addr.add; split <;> simp_all]
    rw [cell_of_row _ gz j _ _ _ hz]
    simpa using hj
  · intro u hu
    simp at hu
    rcases hu with rfl <;> rfl
  · intro g cap w' hown' hg _ _
    refine h g cap w' ?_ ?_
    · unfold OwnI
      rw [ivals_snoc, List.length_append]
      exact hown'
    · refine (Below.refl B w).grown hg hB ?_
      intro k hk
      exact (World.ownsRow.lt hown k hk).1

/-- Nodes with the value of their kids' row, as cells. -/
def fl : List (Nd × Value) → List Value
  | [] => []
  | (n, v) :: l => .int .i64 n.k :: .int .i64 n.op :: .string n.s :: .string n.t :: v :: fl l
theorem fl_append (l m : List (Nd × Value)) : fl (l ++ m) = fl l ++ fl m := by
  induction l with
  | nil => rfl
  | cons t l ih => obtain ⟨n, v⟩ := t; simp [fl, ih]
theorem fl_snoc (l : List (Nd × Value)) (n : Nd) (v : Value) : fl (l ++ [(n, v)]) = fl l ++ [.int .i64 n.k, .int .i64 n.op, .string n.s, .string n.t, v] := by
  rw [fl_append]; rfl
theorem fl_get : ∀ (l : List (Nd × Value)) (i : Nat) (h : i < l.length), (fl l)[i * 5]? = some (.int .i64 l[i].1.k) ∧ (fl l)[i * 5 + 1]? = some (.int .i64 l[i].1.op) ∧ (fl l)[i * 5 + 2]? = some (.string l[i].1.s) ∧ (fl l)[i * 5 + 3]? = some (.string l[i].1.t) ∧ (fl l)[i * 5 + 4]? = some l[i].2 := by
  intro l
  induction l with
  | nil => intro i h; simp at h
  | cons t l ih =>
    obtain ⟨n, v⟩ := t
    intro i h
    match i with
    | 0 => exact ⟨rfl, rfl, rfl, rfl, rfl⟩
    | j + 1 =>
      have := ih j (by simpa using h)
      simp only [fl, show (j + 1) * 5 = j * 5 + 1 + 1 + 1 + 1 + 1 by omega, show j * 5 + 1 + 1 + 1 + 1 + 1 + 1 = (j * 5 + 1) + 1 + 1 + 1 + 1 + 1 by omega, show j * 5 + 1 + 1 + 1 + 1 + 1 + 2 = (j * 5 + 2) + 1 + 1 + 1 + 1 + 1 by omega, show j * 5 + 1 + 1 + 1 + 1 + 1 + 3 = (j * 5 + 3) + 1 + 1 + 1 + 1 + 1 by omega, show j * 5 + 1 + 1 + 1 + 1 + 1 + 4 = (j * 5 + 4) + 1 + 1 + 1 + 1 + 1 by omega, List.getElem?_cons_succ, List.getElem_cons_succ]
      exact this
/-- A slice of nodes of the call's own. -/
def OwnN (B : Nat) (v : Value) (z : List (Nd × Value)) (w : World) : Prop := w.ownsRow B 36 5 v z.length (fl z)
/-- A row of kids of its own, at block r. -/
def KidV (B : Nat) (w : World) (r : Nat) (v : Value) (l : List Int) : Prop :=
  (v = .slice none 0 0 ∧ l = []) ∨ ∃ cap, v = .slice (some ⟨r, 0, none⟩) l.length cap ∧ IBlk w r cap l ∧ B ≤ r ∧ cap ≤ maxLen
theorem KidV.form {B : Nat} {w : World} {r : Nat} {v : Value} {l : List Int} (h : KidV B w r v l) : ∃ a cap, v = .slice a l.length cap ∧ (l = [] ∨ a = some ⟨r, 0, none⟩ ∧ IBlk w r cap l ∧ B ≤ r) := by
  rcases h with ⟨h1, h2⟩ | ⟨cap, h1, h2, h3, _⟩
  · exact ⟨none, 0, by rw [h1, h2]; rfl, .inl h2⟩
  · exact ⟨_, cap, h1, .inr ⟨rfl, h2, h3⟩⟩
theorem KidV.keep {B : Nat} {w w' : World} {r : Nat} {v : Value} {l : List Int} (h : KidV B w r v l) (e : w'.heap[r]? = w.heap[r]?) : KidV B w' r v l := by
  rcases h with h | ⟨cap, e1, e2, e3⟩
  · exact .inl h
  · exact .inr ⟨cap, e1, e2.of_block e, e3⟩
/-- .. as a block, with the bound of its capacity. -/
theorem OwnI.blkM {B : Nat} {v : Value} {l : List Int} {w : World} (h : OwnI B v l w) : v = .slice none 0 0 ∧ l = [] ∨ ∃ g cap, v = .slice (some ⟨g, 0, none⟩) l.length cap ∧ B ≤ g ∧ IBlk w g cap l ∧ cap ≤ maxLen := by
  rcases h.blk with h1 | ⟨g, cap, rfl, hg, hb⟩
  · exact .inl h1
  · rcases h.2 with ⟨hv, _⟩ | ⟨g', cap', cur, hv, _, _, _, hm, _⟩
    · cases hv
    · injection hv with _ _ hv
      exact .inr ⟨g, cap, rfl, hg, hb, by rw [hv]; exact hm⟩
theorem KidV.own {B : Nat} {w : World} {r : Nat} {v : Value} {l : List Int} (h : KidV B w r v l) : OwnI B v l w := by
  rcases h with ⟨rfl, rfl⟩ | ⟨cap, rfl, ⟨c, hc, hs, hl, hx⟩, hB, hm⟩
  · exact OwnI.nil B w
  · refine ⟨by rw [ivals_len]; omega, .inr ⟨r, cap, c, rfl, hB, hc, hl, hm, by omega, ?_⟩⟩
    refine List.ext_getElem? (fun i => ?_)
    rw [List.getElem?_take, Nat.mul_one]
    by_cases hi : i < l.length
    · rw [if_pos hi]
      have := hx i hi
      simp only [ivals, List.getElem?_map, List.getElem?_eq_getElem hi, Option.map_some]
      simpa using this
    · rw [if_neg hi]
      simp [ivals, List.getElem?_eq_none (Nat.le_of_not_lt hi)]
theorem KidV.of_own {B : Nat} {w : World} {v : Value} {l : List Int} (h : OwnI B v l w) (S : Nat) (hS : S < w.heap.size) (hB : B ≤ S) (hup : ∀ g, v.ownBlock = some g → S ≤ g) : ∃ r, S ≤ r ∧ r < w.heap.size ∧ KidV B w r v l := by
  rcases h.blkM with ⟨rfl, rfl⟩ | ⟨g, cap, rfl, hg, hb, hm⟩
  · exact ⟨S, Nat.le_refl _, hS, .inl ⟨rfl, rfl⟩⟩
  · exact ⟨g, hup g rfl, hb.lt, .inr ⟨cap, rfl, hb, hg, hm⟩⟩
/-- Nodes of the call's own, each with a row of its own: row i at block r i, no two the same. -/
structure PT (B : Nat) (v : Value) (z : List (Nd × Value)) (r : Nat → Nat) (w : World) : Prop where
  own : OwnN B v z w
  kid : ∀ i (h : i < z.length), KidV B w (r i) z[i].2 z[i].1.kids
  off : ∀ i, i < z.length → v.ownBlock ≠ some (r i)
  asc : ∀ i j, i < j → j < z.length → r i ≠ r j
  lt : ∀ i, i < z.length → r i < w.heap.size
theorem PT.nil (B : Nat) (w : World) : PT B (.slice none 0 0) [] (fun i => i) w :=
  ⟨World.ownsRow_nil _ _ _ _, fun i h => by simp at h, fun i h => by simp at h, fun i j _ h => by simp at h, fun i h => by simp at h⟩
theorem PT.lit {B : Nat} {w : World} (hB : B ≤ w.heap.size) : PT B (.slice (some ⟨w.heap.size, 0, none⟩) 0 0) [] (fun i => i) (w.alloc (.cells #[] 36)) :=
  ⟨World.ownsRow_lit w #[] 0 hB (by unfold maxLen; omega) rfl, fun i h => by simp at h, fun i h => by simp at h, fun i j _ h => by simp at h, fun i h => by simp at h⟩
theorem PT.form {B : Nat} {v : Value} {z : List (Nd × Value)} {r : Nat → Nat} {w : World} (h : PT B v z r w) : ∃ a cap, v = .slice a z.length cap := by
  rcases h.own.2 with ⟨hv, h0⟩ | ⟨g, cap, cur, hv, _⟩
  · exact ⟨none, 0, by rw [hv, h0]⟩
  · exact ⟨_, _, hv⟩
theorem PT.keep {B B' : Nat} {v : Value} {z : List (Nd × Value)} {r : Nat → Nat} {w w' : World} (h : PT B v z r w) (hb : Below B' w w') (hB : w.heap.size ≤ B') : PT B v z r w' := by
  obtain ⟨h1, h2, h3, h4, h5⟩ := h
  refine ⟨⟨h1.1, h1.2.elim .inl (fun ⟨g, cap, cur, hv, hg, hblk, r⟩ => .inr ⟨g, cap, cur, hv, hg, ?_, r⟩)⟩, fun i hi => (h2 i hi).keep (hb.block _ (Nat.lt_of_lt_of_le (h5 i hi) hB)), h3, h4, fun i hi => Nat.lt_of_lt_of_le (h5 i hi) hb.size⟩
  rw [hb.block g (Nat.lt_of_lt_of_le (lt_of_heap hblk) hB)]
  exact hblk
/-- .. as a block. -/
theorem PT.tr {B : Nat} {v : Value} {z : List (Nd × Value)} {r : Nat → Nat} {w : World} (h : PT B v z r w) : (v = .slice none 0 0 ∧ z = []) ∨ ∃ g cap, v = .slice (some ⟨g, 0, none⟩) z.length cap ∧ B ≤ g ∧ Tr B w g cap (z.map (·.1)) r := by
  have hoff := h.off
  rcases h.own.2 with ⟨hv, h1⟩ | ⟨g, cap, cur, hv, hg, hblk, hl, hcm, hcs, htk⟩
  · exact .inl ⟨hv, List.length_eq_zero_iff.1 h1⟩
  · refine .inr ⟨g, cap, hv, hg, ⟨cur, hblk, hcs, by simpa using hl, fun i hi => ?_⟩, fun i j hij hj => h.asc i j hij (by simpa using hj), fun i hi => h.lt i (by simpa using hi)⟩
    have hi' : i < z.length := by simpa using hi
    have hc : ∀ (j : Nat) (u : Value), (fl z)[j]? = some u → cur[j]? = some u := by
      intro j u hj
      rw [← htk, List.getElem?_take] at hj
      split at hj
      · simpa using hj
      · cases hj
    obtain ⟨x0, x1, x2, x3, x4⟩ := fl_get z i hi'
    refine ⟨z[i].2, ⟨by simpa using hc _ _ x0, by simpa using hc _ _ x1, by simpa using hc _ _ x2, by simpa using hc _ _ x3, hc _ _ x4⟩, ?_⟩
    obtain ⟨a, c2, e0, hk⟩ := (h.kid i hi').form
    simp only [List.getElem_map]
    refine ⟨a, c2, e0, hk.imp id ?_⟩
    rintro ⟨e1, e2, e3⟩
    refine ⟨e1, e2, e3, fun e => hoff i hi' ?_⟩
    rw [hv, e]
    rfl
theorem PT.lies {B : Nat} {z : List (Nd × Value)} {r : Nat → Nat} {w : World} {a : Option Addr} {n cap : Nat} (h : PT B (.slice a n cap) z r w) : Lies w.heap.size w a (z.map (·.1)) := by
  rcases h.tr with ⟨_, h1⟩ | ⟨g, c, hv, _, h1⟩
  · exact .inl (by rw [h1]; rfl)
  · injection hv with hv _ _
    subst hv
    exact Tr.lies h1
/-- 'append(out, n)' of a node with a row of its own. -/
theorem wpList_append_node (w : World) (t : Nd) (u : Value) {ops : Array Oper} {rest : List Oper} {o : Oper} {a : Act} {Q : Exit → Act → World → Prop} (hgd : o.guard = none) (s x : Operand)
    (ho : o.op = .call { callee := .builtin .append, args := #[s, x], argTypes := #[24, 24] }) (B : Nat) (v : Value) (d : List (Nd × Value)) (r : Nat → Nat) (b : Nat) (hs : a.eval s = v)
    (hown : PT B v d r w) (hx : a.eval x = .slice (some ⟨w.heap.size, 0, none⟩) 1 1) (hu : u.oneCell' = true) (hn : d.length ≤ 1048576) (hB : B ≤ w.heap.size)
    (hk : KidV B w b u t.kids) (hb : ∀ i, i < d.length → r i ≠ b) (hbw : b < w.heap.size) (hoff : v.ownBlock ≠ some b)
    (h : ∀ v' r' w', PT B v' (d ++ [(t, u)]) r' w' → Below B w w' → (∀ i, i < d.length → r' i = r i) → r' d.length = b → wpList Tryz.prog ops Q rest (a.put o.dst v') w') :
    wpList Tryz.prog ops Q (o :: rest) a (w.alloc (.cells #[.int .i64 t.k, .int .i64 t.op, .string t.s, .string t.t, u] 36)) := by
  obtain ⟨i0, hi, hz0, hz1, hz2⟩ := info_parts Tryz.infoNode
  refine wpList_append_lies _ hgd s x 24 ho B 36 i0 _ 5 72 Tryz.underlying24 hi hz0 hz1 hz2 rfl (by decide) v d.length (fl d) hs (hown.own.alloc _) ⟨w.heap.size, 0, none⟩ 1 1 [.int .i64 t.k, .int .i64 t.op, .string t.s, .string t.t, u] hx rfl ?_ ?_ (by decide) (by unfold maxLen; omega) (by omega) (by simp; omega) (w.heap.size + 1) (by simp) ?_
  · intro j q hj
    rw [show ((⟨w.heap.size, 0, none⟩ : Addr).add j) = ⟨w.heap.size, j, none⟩ by unfold Addr.add; split <;> simp_all]
    rw [cell_of_row _ w.heap.size j _ _ _ (heap_alloc_new w _)]
    simpa using hj
  · intro q hq
    simp at hq
    rcases hq with rfl | rfl | rfl | rfl | rfl
    · rfl
    · rfl
    · rfl
    · rfl
    · exact hu
  · intro g cap w' hown' hg hor _
    have hsz := hg.size
    simp at hsz
    have hkeep : ∀ k, k < w.heap.size → v.ownBlock ≠ some k → w'.heap[k]? = w.heap[k]? := fun k hk hne => by
      rw [hg.block k (by simp; omega) (fun e => hne e.symm)]; exact Below.heap_alloc w _ k hk
    have hgne : ∀ k, k < w.heap.size → v.ownBlock ≠ some k → g ≠ k := fun k hk hne e => by
      rcases hor with e2 | e2
      · exact hne (by rw [e2, e])
      · omega
    refine h _ (fun i => if i < d.length then r i else b) w' ⟨?_, fun i hi => ?_, fun i hi => ?_, fun i j hij hj => ?_, fun i hi => ?_⟩ ?_ (fun i hi => if_pos hi) (if_neg (Nat.lt_irrefl _))
    · unfold OwnN
      rw [fl_snoc, List.length_append]
      exact hown'
    · simp at hi
      by_cases he : i < d.length
      · simp only [List.getElem_append_left he, if_pos he]
        exact (hown.kid i he).keep (hkeep _ (hown.lt i he) (hown.off i he))
      · obtain rfl : i = d.length := by omega
        simp only [List.getElem_append_right (Nat.le_refl _), Nat.sub_self, List.getElem_cons_zero, if_neg (Nat.lt_irrefl _)]
        exact hk.keep (hkeep _ hbw hoff)
    · simp at hi
      by_cases he : i < d.length
      · simp only [if_pos he]
        intro e
        injection e with e
        exact hgne _ (hown.lt i he) (hown.off i he) e
      · simp only [if_neg he]
        intro e
        injection e with e
        exact hgne _ hbw hoff e
    · simp at hj
      by_cases he : j < d.length
      · simp only [if_pos he, if_pos (Nat.lt_trans hij he)]
        exact hown.asc i j hij he
      · simp only [if_neg he, if_pos (show i < d.length by omega)]
        exact hb i (by omega)
    · simp at hi
      by_cases he : i < d.length
      · simp only [if_pos he]; have := hown.lt i he; omega
      · simp only [if_neg he]; omega
    · refine ((Below.refl B w).alloc hB _).grown hg (by simp; omega) ?_
      intro k hk
      exact (World.ownsRow.lt hown.own k hk).1
end Go.Proofs.YtckeepjfbpphaaaGreatDoor.nd
