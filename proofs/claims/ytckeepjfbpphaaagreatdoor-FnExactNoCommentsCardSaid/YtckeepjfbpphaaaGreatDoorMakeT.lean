/-
  spec.l6Make: parts behind each other and a node over them, in memory of their own: a contract.
-/
import Derived.Test.YtckeepjfbpphaaaGreatDoorPartSpec
import Derived.Test.YtckeepjfbpphaaaGreatDoorShiftSpec
namespace Go.Proofs.YtckeepjfbpphaaaGreatDoor.nd
open Go.ChangeShapes Go.WideShapes Go.ChangeAt Go.RowKit
set_option linter.unusedVariables false

def makeGo : List (List Nd) → List Nd → List Int → List Nd × List Int
  | [], out, ks => (out, ks)
  | q :: ps, out, ks => makeGo ps (out ++ q.map (shN (out.length : Int))) (ks ++ [((out ++ q.map (shN (out.length : Int))).length : Int) - 1])
def makeT (n : Nd) (ps : List (List Nd)) : List Nd := (makeGo ps [] []).1 ++ [{ n with kids := (makeGo ps [] []).2 }]
theorem makeGo_snoc : ∀ (ps : List (List Nd)) (q : List Nd) (out : List Nd) (ks : List Int), makeGo (ps ++ [q]) out ks = ((makeGo ps out ks).1 ++ q.map (shN ((makeGo ps out ks).1.length : Int)), (makeGo ps out ks).2 ++ [(((makeGo ps out ks).1 ++ q.map (shN ((makeGo ps out ks).1.length : Int))).length : Int) - 1]) := by
  intro ps
  induction ps with
  | nil => intro q out ks; rfl
  | cons x ps ih => intro q out ks; simp only [List.cons_append, makeGo]; rw [ih]
theorem makeGo_klen : ∀ (ps : List (List Nd)) (out : List Nd) (ks : List Int), (makeGo ps out ks).2.length = ks.length + ps.length := by
  intro ps
  induction ps with
  | nil => intro out ks; simp [makeGo]
  | cons x ps ih => intro out ks; simp only [makeGo]; rw [ih]; simp; omega
def sumL : List (List Nd) → Nat
  | [] => 0
  | q :: ps => q.length + sumL ps
theorem makeGo_len : ∀ (ps : List (List Nd)) (out : List Nd) (ks : List Int), (makeGo ps out ks).1.length = out.length + sumL ps := by
  intro ps
  induction ps with
  | nil => intro out ks; simp [makeGo, sumL]
  | cons x ps ih => intro out ks; simp only [makeGo]; rw [ih]; simp [sumL]; omega

/-- Lists of nodes, behind a slice of slices. -/
def Parts (B : Nat) (w : World) (a : Option Addr) (ps : List (List Nd)) : Prop :=
  ps = [] ∨ ∃ b o, a = some ⟨b, o, none⟩ ∧ b < B ∧ ∀ i (h : i < ps.length), ∃ ai ci, w.cell? ⟨b, o + i, none⟩ = some (.slice ai ps[i].length ci) ∧ Lies B w ai ps[i]
theorem parts_at {B : Nat} {w : World} {a : Option Addr} {ps : List (List Nd)} {I : Nat} (h : Parts B w a ps) (hI : I < ps.length) : ∃ b o, a = some ⟨b, o, none⟩ ∧ b < B ∧ ∀ i (h : i < ps.length), ∃ ai ci, w.cell? ⟨b, o + i, none⟩ = some (.slice ai ps[i].length ci) ∧ Lies B w ai ps[i] := by
  rcases h with h | h
  · rw [h] at hI; simp at hI
  · exact h
theorem Parts.keep {B B' : Nat} {w w' : World} {a : Option Addr} {ps : List (List Nd)} (h : Parts B w a ps) (hb : Below B' w w') (hB : B ≤ B') : Parts B w' a ps := by
  rcases h with h | ⟨b, o, rfl, hlt, hc⟩
  · exact .inl h
  · refine .inr ⟨b, o, rfl, hlt, fun i hi => ?_⟩
    obtain ⟨ai, ci, hc1, hl⟩ := hc i hi
    exact ⟨ai, ci, (hb.cell (p := ⟨b, o + i, none⟩) (Nat.lt_of_lt_of_le hlt hB)).trans hc1, hl.keep hb hB⟩

/-- 'append(ks, v)', where the new row lies. -/
theorem wpList_append_int2 (w : World) (z : Int) {ops : Array Oper} {rest : List Oper} {o : Oper} {a : Act} {Q : Exit → Act → World → Prop} (hgd : o.guard = none) (s x : Operand)
    (ho : o.op = .call { callee := .builtin .append, args := #[s, x], argTypes := #[31, 31] }) (B : Nat) (v : Value) (d : List Int) (hs : a.eval s = v)
    (hown : OwnI B v d w) (hx : a.eval x = .slice (some ⟨w.heap.size, 0, none⟩) 1 1) (hn : d.length ≤ 1048576) (hB : B ≤ w.heap.size)
    (h : ∀ g cap w', OwnI B (.slice (some ⟨g, 0, none⟩) (d.length + 1) cap) (d ++ [z]) w' → Below B w w' → w.grownBy w' v.ownBlock → (v.ownBlock = some g ∨ w.heap.size ≤ g) → wpList Tryz.prog ops Q rest (a.put o.dst (.slice (some ⟨g, 0, none⟩) (d.length + 1) cap)) w') :
    wpList Tryz.prog ops Q (o :: rest) a (w.alloc (.cells #[.int .i64 z] 3)) := by
  obtain ⟨i0, hi, hz0, hz1, hz2⟩ := info_parts Tryz.infoInt
  refine wpList_append_lies _ hgd s x 31 ho B 3 i0 _ 1 8 Tryz.underlying31 hi hz0 hz1 hz2 rfl (by decide) v d.length (ivals d) hs (hown.alloc _) ⟨w.heap.size, 0, none⟩ 1 1 [.int .i64 z] hx rfl ?_ ?_ (by decide) (by unfold maxLen; omega) (by omega) (by simp; omega) (w.heap.size + 1) (by simp) ?_
  · intro j u hj
    rw [show ((⟨w.heap.size, 0, none⟩ : Addr).add j) = ⟨w.heap.size, j, none⟩ by unfold Addr.add; split <;> simp_all]
    rw [cell_of_row _ w.heap.size j _ _ _ (heap_alloc_new w _)]
    simpa using hj
  · intro u hu
    simp at hu
    rcases hu with rfl <;> rfl
  · intro g cap w' hown' hg hor _
    refine h g cap w' ?_ ?_ ?_ (hor.imp id (fun h => by omega))
    · unfold OwnI
      rw [ivals_snoc, List.length_append]
      exact hown'
    · refine ((Below.refl B w).alloc hB _).grown hg (by simp; omega) ?_
      intro k hk
      exact (World.ownsRow.lt hown k hk).1
    · exact ⟨hg.os, hg.tape, hg.output, by have := hg.size; simp at this; omega, fun k hk hne => by rw [hg.block k (by simp; omega) hne]; exact Below.heap_alloc w _ k hk⟩

theorem fl_one {B : Nat} {w : World} {r : Nat → Nat} : ∀ (z : List (Nd × Value)), (∀ i (h : i < z.length), KidV B w (r i) z[i].2 z[i].1.kids) → ∀ u ∈ fl z, u.oneCell' = true := by
  intro z h u hu
  have hv : ∀ t ∈ z, t.2.oneCell' = true := fun t ht => by
    obtain ⟨i, hi, rfl⟩ := List.mem_iff_getElem.1 ht
    obtain ⟨a, c, e, _⟩ := (h i hi).form
    rw [e]; rfl
  clear h
  induction z with
  | nil => cases hu
  | cons t z ih =>
    obtain ⟨n, v⟩ := t
    simp only [fl, List.mem_cons] at hu
    rcases hu with rfl | rfl | rfl | rfl | rfl | hu
    · rfl
    · rfl
    · rfl
    · rfl
    · exact hv (n, u) (List.mem_cons_self ..)
    · exact ih hu (fun t ht => hv t (List.mem_cons_of_mem _ ht))
theorem fl_len (z : List (Nd × Value)) : (fl z).length = z.length * 5 := by
  induction z with
  | nil => rfl
  | cons t z ih => obtain ⟨n, v⟩ := t; simp [fl, ih]; omega
/-- 'append(out, more...)' of nodes of one's own that were made behind the first ones. -/
theorem wpList_append_pt (w : World) {ops : Array Oper} {rest : List Oper} {o : Oper} {a : Act} {Q : Exit → Act → World → Prop} (hgd : o.guard = none) (s x : Operand)
    (ho : o.op = .call { callee := .builtin .append, args := #[s, x], argTypes := #[24, 24] }) (B S : Nat) (v : Value) (d : List (Nd × Value)) (r : Nat → Nat) (hs : a.eval s = v)
    (hown : PT B v d r w) (g2 c2 : Nat) (d2 : List (Nd × Value)) (r2 : Nat → Nat) (hown2 : PT S (.slice (some ⟨g2, 0, none⟩) d2.length c2) d2 r2 w) (hx : a.eval x = .slice (some ⟨g2, 0, none⟩) d2.length c2) (h0 : 0 < d2.length) (hn : d.length + d2.length ≤ 1048576) (hB : B ≤ w.heap.size) (hBS : B ≤ S)
    (hap : ∀ i j, i < d.length → j < d2.length → r i ≠ r2 j) (hoff : ∀ j, j < d2.length → v.ownBlock ≠ some (r2 j))
    (h : ∀ g cap w' r', PT B (.slice (some ⟨g, 0, none⟩) (d.length + d2.length) cap) (d ++ d2) r' w' → (∀ i, i < d.length → r' i = r i) → (∀ j, j < d2.length → r' (d.length + j) = r2 j) → Below B w w' → w.grownBy w' v.ownBlock → (v.ownBlock = some g ∨ w.heap.size ≤ g) → wpList Tryz.prog ops Q rest (a.put o.dst (.slice (some ⟨g, 0, none⟩) (d.length + d2.length) cap)) w') :
    wpList Tryz.prog ops Q (o :: rest) a w := by
  obtain ⟨i0, hi, hz0, hz1, hz2⟩ := info_parts Tryz.infoNode
  refine wpList_append_lies _ hgd s x 24 ho B 36 i0 _ 5 72 Tryz.underlying24 hi hz0 hz1 hz2 rfl (by decide) v d.length (fl d) hs hown.own ⟨g2, 0, none⟩ d2.length c2 (fl d2) hx (fl_len d2) ?_ (fl_one d2 hown2.kid) h0 (by unfold maxLen; omega) (by omega) hB w.heap.size rfl ?_
  · intro j q hj
    rw [show ((⟨g2, 0, none⟩ : Addr).add j) = ⟨g2, j, none⟩ by unfold Addr.add; split <;> simp_all]
    rw [World.ownsRow.cellAt hown2.own j (by
      have := (List.getElem?_eq_some_iff.1 hj).1
      rw [fl_len] at this
      exact this)]
    exact hj
  · intro g cap w' hown' hg hor _
    have hsz := hg.size
    have hkeep : ∀ k, k < w.heap.size → v.ownBlock ≠ some k → w'.heap[k]? = w.heap[k]? := fun k hk hne => hg.block k hk (fun e => hne e.symm)
    have hgne : ∀ k, k < w.heap.size → v.ownBlock ≠ some k → g ≠ k := fun k hk hne e => by
      rcases hor with e2 | e2
      · exact hne (by rw [e2, e])
      · omega
    refine h g cap w' (fun i => if i < d.length then r i else r2 (i - d.length)) ⟨?_, fun i hi => ?_, fun i hi => ?_, fun i j hij hj => ?_, fun i hi => ?_⟩ (fun i hi => if_pos hi) (fun j hj => by simp only [if_neg (show ¬ d.length + j < d.length by omega), Nat.add_sub_cancel_left]) ?_ hg (hor.imp id (fun e => by omega))
    · unfold OwnN
      rw [fl_append, List.length_append]
      exact hown'
    · simp at hi
      by_cases he : i < d.length
      · simp only [List.getElem_append_left he, if_pos he]
        exact (hown.kid i he).keep (hkeep _ (hown.lt i he) (hown.off i he))
      · have hj : i - d.length < d2.length := by omega
        simp only [List.getElem_append_right (show d.length ≤ i by omega), if_neg he]
        exact ((hown2.kid _ hj).keep (hkeep _ (hown2.lt _ hj) (hoff _ hj))).down hBS
    · simp at hi
      by_cases he : i < d.length
      · simp only [if_pos he]
        intro e; injection e with e
        exact hgne _ (hown.lt i he) (hown.off i he) e
      · have hj : i - d.length < d2.length := by omega
        simp only [if_neg he]
        intro e; injection e with e
        exact hgne _ (hown2.lt _ hj) (hoff _ hj) e
    · simp at hj
      by_cases he : j < d.length
      · simp only [if_pos he, if_pos (Nat.lt_trans hij he)]
        exact hown.asc i j hij he
      · by_cases hi2 : i < d.length
        · simp only [if_neg he, if_pos hi2]
          exact hap i _ hi2 (by omega)
        · simp only [if_neg he, if_neg hi2]
          exact hown2.asc _ _ (by omega) (by omega)
    · simp at hi
      by_cases he : i < d.length
      · simp only [if_pos he]; have := hown.lt i he; omega
      · simp only [if_neg he]; have := hown2.lt (i - d.length) (by omega); omega
    · refine (Below.refl B w).grown hg hB ?_
      intro k hk
      exact (World.ownsRow.lt hown.own k hk).1

/-- What the loop of l6Make holds: the node's box at g0, out at gv, the kids so far at gu. -/
structure MK (g0 : Nat) (n : Nd) (gv cv : Nat) (z : List (Nd × Value)) (r : Nat → Nat) (gu cu : Nat) (ks : List Int) (w : World) : Prop where
  out : PT (g0 + 1) (.slice (some ⟨gv, 0, none⟩) z.length cv) z r w
  kids : OwnI (g0 + 1) (.slice (some ⟨gu, 0, none⟩) ks.length cu) ks w
  box : w.heap[g0]? = some (.cells #[.int .i64 n.k, .int .i64 n.op, .string n.s, .string n.t, .slice (some ⟨gu, 0, none⟩) ks.length cu] 36 (0, 0))
  ne : gv ≠ gu
  row : ∀ i, i < z.length → r i ≠ gu
  gt : ∀ i, i < z.length → g0 < r i
theorem PT.kept {B q : Nat} {v : Value} {z : List (Nd × Value)} {r : Nat → Nat} {w w' : World} (h : PT B v z r w) (hg : w.grownBy w' (some q)) (hv : v.ownBlock ≠ some q) (hr : ∀ i, i < z.length → r i ≠ q) : PT B v z r w' := by
  refine ⟨World.ownsRow.kept h.own hg (.inr hv), fun i hi => (h.kid i hi).keep (hg.block _ (h.lt i hi) (fun e => by injection e with e; exact hr i hi e)), h.off, h.asc, fun i hi => Nat.lt_of_lt_of_le (h.lt i hi) hg.size⟩
theorem OwnI.kept {B q : Nat} {v : Value} {l : List Int} {w w' : World} (h : OwnI B v l w) (hg : w.grownBy w' (some q)) (hv : v.ownBlock ≠ some q) : OwnI B v l w' := World.ownsRow.kept h hg (.inr hv)
theorem grown_one (w : World) (g j : Nat) (u : Value) : w.grownBy (w.setCell ⟨g, j, none⟩ u) (some g) :=
  ⟨rfl, rfl, rfl, by simp, fun k _ hne => heap_setCell_other w ⟨g, j, none⟩ k u (fun e => hne (by rw [e]))⟩
section
variable {g0 gv cv gu cu : Nat} {n : Nd} {z z2 : List (Nd × Value)} {r r2 r' : Nat → Nat} {ks : List Int} {w w' : World}
theorem MK.over (h : MK g0 n gv cv z r gu cu ks w) (hb : Below w.heap.size w w') : MK g0 n gv cv z r gu cu ks w' :=
  ⟨h.out.keep hb (Nat.le_refl _), h.kids.keep hb (Nat.le_refl _), (hb.block g0 (lt_of_heap h.box)).trans h.box, h.ne, h.row, h.gt⟩
theorem MK.gu_lt (h : MK g0 n gv cv z r gu cu ks w) : g0 < gu ∧ gu < w.heap.size := ⟨(World.ownsRow.lt h.kids gu rfl).1, (World.ownsRow.lt h.kids gu rfl).2⟩
theorem MK.gv_lt (h : MK g0 n gv cv z r gu cu ks w) : g0 < gv ∧ gv < w.heap.size := ⟨(World.ownsRow.lt h.out.own gv rfl).1, (World.ownsRow.lt h.out.own gv rfl).2⟩
theorem MK.app {g c w0 : Nat} (h : MK g0 n gv cv z r gu cu ks w) (hg : w.grownBy w' (some gv)) (hp : PT (g0 + 1) (.slice (some ⟨g, 0, none⟩) (z.length + z2.length) c) (z ++ z2) r' w') (hr : ∀ i, i < z.length → r' i = r i) (hr2 : ∀ j, j < z2.length → r' (z.length + j) = r2 j)
    (hge : ∀ j, j < z2.length → w0 ≤ r2 j) (hgu : gu < w0) (hor : gv = g ∨ w.heap.size ≤ g) : MK g0 n g c (z ++ z2) r' gu cu ks w' := by
  have hu := h.gu_lt
  have hv := h.gv_lt
  have hrow : ∀ i, i < (z ++ z2).length → r' i ≠ gu ∧ g0 < r' i := fun i hi => by
    simp at hi
    by_cases he : i < z.length
    · rw [hr i he]; exact ⟨h.row i he, h.gt i he⟩
    · obtain ⟨j, rfl⟩ : ∃ j, i = z.length + j := ⟨i - z.length, by omega⟩
      have hj : j < z2.length := by omega
      have := hge j hj
      rw [hr2 j hj]
      omega
  refine ⟨by rw [List.length_append]; exact hp, h.kids.kept hg (fun e => by simp [Value.ownBlock] at e; exact h.ne e.symm), ?_, ?_, fun i hi => (hrow i hi).1, fun i hi => (hrow i hi).2⟩
  · rw [hg.block g0 (by omega) (fun e => by injection e with e; omega)]; exact h.box
  · rcases hor with e | e
    · rw [← e]; exact h.ne
    · omega
theorem MK.kid {gu' cu' : Nat} {x : Int} (h : MK g0 n gv cv z r gu cu ks w) (ho : OwnI (g0 + 1) (.slice (some ⟨gu', 0, none⟩) (ks.length + 1) cu') (ks ++ [x]) w') (hg : w.grownBy w' (some gu)) (hor : gu = gu' ∨ w.heap.size ≤ gu') :
    MK g0 n gv cv z r gu' cu' (ks ++ [x]) (w'.setCell ⟨g0, 4, none⟩ (.slice (some ⟨gu', 0, none⟩) (ks.length + 1) cu')) := by
  have hu := h.gu_lt
  have hv := h.gv_lt
  have hp := (h.out.kept hg (fun e => by simp [Value.ownBlock] at e; exact h.ne e) h.row).kept (grown_one w' g0 4 (.slice (some ⟨gu', 0, none⟩) (ks.length + 1) cu')) (fun e => by simp [Value.ownBlock] at e; omega) (fun i hi => by have := h.gt i hi; omega)
  have hbox : w'.heap[g0]? = some (.cells #[.int .i64 n.k, .int .i64 n.op, .string n.s, .string n.t, .slice (some ⟨gu, 0, none⟩) ks.length cu] 36 (0, 0)) := by
    rw [hg.block g0 (by omega) (fun e => by injection e with e; omega)]; exact h.box
  refine ⟨hp, ?_, ?_, ?_, fun i hi => ?_, h.gt⟩
  · rw [List.length_append]; exact ownsRow_setCell_below ho (a := ⟨g0, 4, none⟩) (Nat.lt_succ_self g0) _
  · rw [List.length_append]; exact heap_setCell_same w' g0 4 _ _ _ hbox
  · rcases hor with e | e
    · rw [← e]; exact h.ne
    · omega
  · rcases hor with e | e
    · rw [← e]; exact h.row i hi
    · have := h.out.lt i hi; omega
end
def RelMk (g0 : Nat) (W : World) (n : Nd) (ps : List (List Nd)) (v k : Value) (wr : World) : Prop :=
  ∃ (J gv cv : Nat) (z : List (Nd × Value)) (r : Nat → Nat) (gu cu : Nat) (ks : List Int), J ≤ ps.length ∧ k = .int .i64 (J : Int) ∧ v = .slice (some ⟨gv, 0, none⟩) z.length cv ∧ MK g0 n gv cv z r gu cu ks wr ∧ (z.map (·.1), ks) = makeGo (ps.take J) [] [] ∧ Below g0 W wr

theorem sum_take (ps : List (List Nd)) : ∀ J, sumL (ps.take J) ≤ sumL ps := by
  induction ps with
  | nil => intro J; simp [sumL]
  | cons q ps ih =>
    intro J
    cases J with
    | zero => simp [sumL]
    | succ J => simp only [List.take_succ_cons, sumL]; have := ih J; omega
theorem sum_get (ps : List (List Nd)) : ∀ J (h : J < ps.length), sumL (ps.take J) + ps[J].length ≤ sumL ps := by
  induction ps with
  | nil => intro J h; simp at h
  | cons q ps ih =>
    intro J h
    cases J with
    | zero => simp [sumL]
    | succ J =>
      simp only [List.take_succ_cons, sumL, List.getElem_cons_succ]
      have := ih J (by simpa using h)
      omega

set_option maxRecDepth 20000 in
set_option maxHeartbeats 3200000 in
theorem make_any (n : Nd) (ps : List (List Nd)) (a : Option Addr) (cap : Nat) (w : World) (hps : Parts w.heap.size w a ps) (hne : ∀ q ∈ ps, 0 < q.length) (hsum : sumL ps ≤ 100000) (hlen : ps.length ≤ 1000) (hk : ∀ q ∈ ps, ∀ t ∈ q, t.kids.length ≤ 1048576) :
    Calls Tryz.prog 26 #[.agg #[.int .i64 n.k, .int .i64 n.op, .string n.s, .string n.t, .slice none 0 0], .slice a ps.length cap] w (PgOut (makeT n ps) w) := by
  have HPS := Lib.hid hps
  have HNE := Lib.hid hne
  have HSUM := Lib.hid hsum
  have HK := Lib.hid hk
  clear hps hne hsum hk
  go_enter Tryz.func26, Tryz.ntmps26
  go_wp2
  obtain ⟨g0, hg0⟩ : ∃ g0, g0 = w.heap.size := ⟨_, rfl⟩
  have HG0 := Lib.hid hg0
  have hM0 : MK g0 n (g0 + 1) 0 [] (fun i => i) (g0 + 1 + 1) 0 [] (((w.alloc (.cells #[.int .i64 n.k, .int .i64 n.op, .string n.s, .string n.t, .slice (some ⟨g0 + 1 + 1, 0, none⟩) 0 0] 36)).alloc (.cells #[] 36)).alloc (.cells #[] 3)) := by
    have hs1 : (w.alloc (.cells #[.int .i64 n.k, .int .i64 n.op, .string n.s, .string n.t, .slice (some ⟨g0 + 1 + 1, 0, none⟩) 0 0] 36)).heap.size = g0 + 1 := by simp [hg0]
    have hs2 : ((w.alloc (.cells #[.int .i64 n.k, .int .i64 n.op, .string n.s, .string n.t, .slice (some ⟨g0 + 1 + 1, 0, none⟩) 0 0] 36)).alloc (.cells #[] 36)).heap.size = g0 + 1 + 1 := by simp [hg0]
    have h1 := PT.lit (B := g0 + 1) (w := w.alloc (.cells #[.int .i64 n.k, .int .i64 n.op, .string n.s, .string n.t, .slice (some ⟨g0 + 1 + 1, 0, none⟩) 0 0] 36)) (by rw [hs1]; exact Nat.le_refl _)
    rw [hs1] at h1
    have h2 := OwnI.lit (B := g0 + 1) (w := (w.alloc (.cells #[.int .i64 n.k, .int .i64 n.op, .string n.s, .string n.t, .slice (some ⟨g0 + 1 + 1, 0, none⟩) 0 0] 36)).alloc (.cells #[] 36)) (by rw [hs2]; omega)
    rw [hs2] at h2
    refine ⟨h1.keep ((Below.refl _ _).alloc (Nat.le_refl _) _) (Nat.le_refl _), h2, ?_, by omega, fun i hi => by simp at hi, fun i hi => by simp at hi⟩
    rw [Below.heap_alloc _ _ _ (by rw [hs2]; omega), Below.heap_alloc _ _ _ (by rw [hs1]; omega), hg0]
    exact heap_alloc_new w _
  have HM0 := Lib.hid hM0
  have HBL0 := Lib.hid (below_three w (.cells #[.int .i64 n.k, .int .i64 n.op, .string n.s, .string n.t, .slice (some ⟨g0 + 1 + 1, 0, none⟩) 0 0] 36) (.cells #[] 36) (.cells #[] 3))
  rw [← hg0] at HBL0 ⊢
  clear hg0 hM0
  go_loopw [5, 6] (fun v k wr => RelMk g0 w n ps v k wr) (fun _ k _ => ps.length - (intOf k).toNat)
  case atStart => exact ⟨0, g0 + 1, 0, [], _, g0 + 1 + 1, 0, [], by omega, rfl, rfl, HM0.out, rfl, HBL0.out⟩
  case round =>
    obtain ⟨J, gv, cv, z, r, gu, cu, ks, hJ, rfl, rfl, hmk, hgo, hbel⟩ := hrel
    have HMK := Lib.hid hmk
    have HB := Lib.hid hbel
    have hz1 : z.map (·.1) = (makeGo (ps.take J) [] []).1 := congrArg Prod.fst hgo
    have hk1 : ks = (makeGo (ps.take J) [] []).2 := congrArg Prod.snd hgo
    have hzl : z.length = sumL (ps.take J) := by
      have := congrArg List.length hz1
      rw [List.length_map, makeGo_len] at this
      simpa using this
    have hkl : ks.length = J := by
      rw [hk1, makeGo_klen]; simp; omega
    have hs1 := sum_take ps J
    have hzb : z.length ≤ 100000 := by rw [hzl]; exact Nat.le_trans hs1 HSUM.out
    have HZ1 := Lib.hid hz1
    have HK1 := Lib.hid hk1
    have HKL := Lib.hid hkl
    have HZL := Lib.hid hzl
    have hbox := hmk.box
    have b4 : wr.cell? ⟨g0, 4, none⟩ = some (.slice (some ⟨gu, 0, none⟩) ks.length cu) := by rw [cell_of_row _ _ 4 _ _ _ hbox]; rfl
    have hg0w : g0 < wr.heap.size := lt_of_heap hbox
    have HGW := Lib.hid hg0w
    clear hmk hbel hgo hz1 hk1 hzl hkl hs1 hg0w
    by_cases hlt : J < ps.length
    · have hsg := sum_get ps J hlt
      obtain ⟨b, o, rfl, hb, hc⟩ := parts_at HPS.out hlt
      obtain ⟨aj, cj, hcell, hlies⟩ := hc J hlt
      have hbg : b < g0 := by rw [HG0.out]; exact hb
      have c0 := (HB.out.cell (p := ⟨b, o + J, none⟩) hbg).trans hcell
      have hq0 := HNE.out ps[J] (List.getElem_mem hlt)
      have HQK := Lib.hid (HK.out ps[J] (List.getElem_mem hlt))
      have HTK := Lib.hid (List.take_succ_eq_append_getElem hlt)
      obtain ⟨q, hq⟩ : ∃ q, q = ps[J] := ⟨_, rfl⟩
      rw [← hq] at c0 hlies hq0 HQK HTK hsg
      have HLIES := Lib.hid (show Lies w.heap.size wr aj q from hlies.keep HB.out (by rw [HG0.out]; exact Nat.le_refl _))
      have hqz : z.length + q.length ≤ 100000 := by rw [HZL.out]; exact Nat.le_trans hsg HSUM.out
      have HQZ := Lib.hid hqz
      have HQ0 := Lib.hid hq0
      have hj1 : (J : Int) < (ps.length : Int) := by omega
      have hj0 : (0 : Int) ≤ (J : Int) := by omega
      clear hq hc hcell hlies hsg hb hbg
      go_wp2_with fail
      refine (spec_shift2 q (z.length : Int) aj cj _ (by omega) HQK.out (HLIES.out.up (by have := HGW.out; have := HG0.out; omega))).mono ?_
      rintro e w2 ⟨v2, z2, r2, rfl, hz2, pt2, b2, ge2⟩
      have hz2l : z2.length = q.length := by have := congrArg List.length hz2; simpa using this
      have M2 := Lib.hid (HMK.out.over b2)
      rcases pt2.tr with ⟨_, h0⟩ | ⟨g2, c2, rfl, hg2, _⟩
      · rw [h0] at hz2l; simp at hz2l; omega
      have hz2p : 0 < z2.length := by omega
      have hzz : z.length + z2.length ≤ 1048576 := by omega
      have hgw2 : g0 + 1 ≤ w2.heap.size := by have := HGW.out; have := b2.size; omega
      have hgS : g0 + 1 ≤ wr.heap.size := HGW.out
      have hap : ∀ i j, i < z.length → j < z2.length → r i ≠ r2 j := fun i j hi hj => by
        have := HMK.out.out.lt i hi
        have := ge2 j hj
        omega
      have hoff : ∀ j, j < z2.length → (Value.slice (some ⟨gv, 0, none⟩) z.length cv).ownBlock ≠ some (r2 j) := fun j hj e => by
        have h1 := HMK.out.gv_lt.2
        have h2 := ge2 j hj
        simp [Value.ownBlock] at e
        omega
      have PT2 := Lib.hid pt2
      have HGE := Lib.hid ge2
      have HP0 := Lib.hid hz2p
      have HZZ := Lib.hid hzz
      have HW2 := Lib.hid hgw2
      have HGS := Lib.hid hgS
      have HAP := Lib.hid hap
      have HOF := Lib.hid hoff
      have HZ2 := Lib.hid hz2
      have HZ2L := Lib.hid hz2l
      have HB2 := Lib.hid (HB.out.trans (b2.mono (Nat.le_of_lt HGW.out)))
      have HKB := Lib.hid (show ks.length ≤ 1048576 by rw [HKL.out]; omega)
      have hzv : z.length + z2.length ≤ 100000 := by omega
      clear pt2 ge2 hz2p hzz hgw2 hgS hap hoff hz2 hz2l hg2 b2 b4 hbox hqz hq0 c0
      go_wp2_with (first | (refine wpList_append_pt _ rfl _ _ rfl (g0 + 1) wr.heap.size (.slice (some ⟨gv, 0, none⟩) z.length cv) z r rfl M2.out.out g2 c2 z2 r2 PT2.out rfl HP0.out HZZ.out HW2.out HGS.out HAP.out HOF.out ?_; intro g3 c3 w3 r3 pt3 rr1 rr2 b3 gr3 or3; have M3 := Lib.hid (M2.out.app gr3 pt3 rr1 rr2 HGE.out HMK.out.gu_lt.2 (or3.imp (fun e => by simpa [Value.ownBlock] using e) id)); have x4 : w3.cell? ⟨g0, 4, none⟩ = some (.slice (some ⟨gu, 0, none⟩) ks.length cu) := cell4 M3.out.box; have HW3 := Lib.hid (show g0 + 1 ≤ w3.heap.size from lt_of_heap M3.out.box); have HB3 := Lib.hid (HB2.out.trans (b3.mono (Nat.le_succ g0)))) | (refine wpList_append_int2 _ _ rfl _ _ rfl (g0 + 1) (.slice (some ⟨gu, 0, none⟩) ks.length cu) ks rfl M3.out.kids rfl HKB.out HW3.out ?_; intro g4 c4 w4 own4 b4 gr4 or4; have M4 := Lib.hid (M3.out.kid own4 gr4 (or4.imp (fun e => by simpa [Value.ownBlock] using e) id)); have hb4 : w4.heap[g0]? = some (.cells #[.int .i64 n.k, .int .i64 n.op, .string n.s, .string n.t, .slice (some ⟨gu, 0, none⟩) ks.length cu] 36 (0, 0)) := (b4.block g0 (Nat.lt_succ_self g0)).trans M3.out.box; have y4 : w4.cell? ⟨g0, 4, none⟩ = some (.slice (some ⟨gu, 0, none⟩) ks.length cu) := cell4 hb4; have f4 : w4.frozen? ⟨g0, 4, none⟩ = false := frozen_of_row _ _ 4 _ _ hb4))
      go_roundw
      case rel =>
        have hbe := ((HB3.out.trans (b4.mono (Nat.le_succ g0))).setCell (p := ⟨g0, 4, none⟩) (Nat.le_refl _) (.slice (some ⟨g4, 0, none⟩) (ks.length + 1) c4))
        have hlen1 : (makeGo (ps.take J) [] []).1.length = z.length := by rw [← HZ1.out, List.length_map]
        refine ⟨J + 1, g3, c3, z ++ z2, r3, g4, c4, _, by omega, by go_num, by rw [List.length_append], M4.out, ?_, hbe⟩
        rw [HTK.out, makeGo_snoc, List.map_append, HZ2.out, ← HZ1.out, ← HK1.out, List.length_map]
        refine Prod.ext rfl ?_
        refine congrArg (fun x => ks ++ [x]) ?_
        rw [List.length_append, List.length_map, List.length_map, HZ2L.out]
        omega
      case measure => simp [intOf]; omega
    · obtain rfl : J = ps.length := by omega
      have hkv : KidV (g0 + 1) wr gu (.slice (some ⟨gu, 0, none⟩) ks.length cu) ks := by
        rcases HMK.out.kids.blkM with ⟨h, _⟩ | ⟨g, c, h, hg, hb, hm⟩
        · cases h
        · injection h with h1 _ h3
          injection h1 with h1
          injection h1 with h1 _ _
          subst h1 h3
          exact .inr ⟨_, rfl, hb, hg, hm⟩
      have HKV := Lib.hid (show KidV (g0 + 1) wr gu (.slice (some ⟨gu, 0, none⟩) ks.length cu) ({ n with kids := ks } : Nd).kids from hkv)
      have HZB := Lib.hid (show z.length ≤ 1048576 by omega)
      have HGS := Lib.hid (show g0 + 1 ≤ wr.heap.size from HGW.out)
      have HGU := Lib.hid HMK.out.gu_lt.2
      have HOF := Lib.hid (show (Value.slice (some ⟨gv, 0, none⟩) z.length cv).ownBlock ≠ some gu from fun e => by simp [Value.ownBlock] at e; exact HMK.out.ne e)
      have b0 : wr.cell? ⟨g0, 0, none⟩ = some (.int .i64 n.k) := by rw [cell_of_row _ _ 0 _ _ _ hbox]; rfl
      have b1 : wr.cell? ⟨g0, 1, none⟩ = some (.int .i64 n.op) := by rw [cell_of_row _ _ 1 _ _ _ hbox]; rfl
      have b2 : wr.cell? ⟨g0, 2, none⟩ = some (.string n.s) := by rw [cell_of_row _ _ 2 _ _ _ hbox]; rfl
      have b3 : wr.cell? ⟨g0, 3, none⟩ = some (.string n.t) := by rw [cell_of_row _ _ 3 _ _ _ hbox]; rfl
      have hj1 : ¬ (ps.length : Int) < (ps.length : Int) := by omega
      clear hkv hbox
      go_wp2_with (refine wpList_append_node _ ({ n with kids := ks } : Nd) _ rfl _ _ rfl (g0 + 1) (.slice (some ⟨gv, 0, none⟩) z.length cv) z r gu rfl HMK.out.out rfl rfl HZB.out HGS.out HKV.out HMK.out.row HGU.out HOF.out ?_; intro v' r' w4 pt4 b4' rr1 rr2)
      go_ret
      have HG := HG0.out
      refine ⟨_, _, r', rfl, ?_, pt4.up (by omega), by rw [← HG]; exact HB.out.trans (b4'.mono (Nat.le_succ g0)), fun i hi => ?_⟩
      rotate_left
      · rw [← HG]
        simp at hi
        by_cases he : i < z.length
        · rw [rr1 i he]; exact Nat.le_of_lt (HMK.out.gt i he)
        · rw [show i = z.length by omega, rr2]; exact Nat.le_of_lt HMK.out.gu_lt.1
      rw [List.map_append, HZ1.out, List.take_length, HK1.out, List.take_length]
      rfl
end Go.Proofs.YtckeepjfbpphaaaGreatDoor.nd
