/-
  spec.l6Bent: a small tree; cut short, with a kid more, with another first kid, or twice: some nodes. spec.l6Where, spec.DrawPart.
-/
import Derived.Test.YtldkhdoboieibaaLoopPM
import Derived.Test.YtldkhdoboieibaaGF
import Derived.Deep.RegionLaw
namespace Go.Proofs.Ytldkhdoboieibaa.draw
open Go.ChangeShapes Go.WideShapes Go.ChangeAt Go.RowKit
open nd lcg
open sz (Sh expr_str stmt_str prog_str)
set_option linter.unusedVariables false
set_option maxRecDepth 20000

theorem neF {x c : Int} (h : ¬ x = c) : (x == c) = false ∧ (x != c) = true := by simp [h]
theorem In.drew1 {B p len cap : Nat} {w : World} {a : Option Addr} {zs : List Int} {s : Nat × Int} (H : In B w p a len cap zs s) : In B w.drew p a len cap zs s :=
  ⟨H.code.keep ⟨rfl, rfl, rfl, Nat.le_refl _, fun _ _ => rfl⟩, H.cur, H.le, H.used, H.small⟩
/-- Nodes that lie beside the cursor's block. -/
def IntsX (p B : Nat) (w : World) (a : Option Addr) (l : List Int) : Prop :=
  l = [] ∨ ∃ b o, a = some ⟨b, o, none⟩ ∧ b < B ∧ b ≠ p ∧ ∀ i (h : i < l.length), w.cell? ⟨b, o + i, none⟩ = some (.int .i64 l[i])
def LiesX (p B : Nat) (w : World) (a : Option Addr) (l : List Nd) : Prop :=
  l = [] ∨ ∃ b o, a = some ⟨b, o, none⟩ ∧ b < B ∧ b ≠ p ∧ ∀ i (h : i < l.length), ∃ ak ck, Five w b (o + i * 5) l[i] ak ck ∧ IntsX p B w ak l[i].kids
theorem IBlk.intsX {p : Nat} {w : World} {g n : Nat} {l : List Int} (h : IBlk w g n l) (hp : g ≠ p) : IntsX p w.heap.size w (some ⟨g, 0, none⟩) l :=
  .inr ⟨g, 0, rfl, h.lt, hp, fun i hi => by rw [Nat.zero_add]; exact h.at i hi⟩
theorem OwnI.intsX {p B : Nat} {a : Option Addr} {n cap : Nat} {l : List Int} {w : World} (h : OwnI B (.slice a n cap) l w) (hp : (Value.slice a n cap).ownBlock ≠ some p) : IntsX p w.heap.size w a l := by
  rcases h.blk with ⟨_, h1⟩ | ⟨g, c, hv, _, h1⟩
  · exact .inl h1
  · injection hv with hv _ _
    subst hv
    exact IBlk.intsX h1 (fun e => hp (by rw [e]; rfl))
theorem IntsX.grown {p : Nat} {w w' : World} {a : Option Addr} {l : List Int} (h : IntsX p w.heap.size w a l) (hg : w.grownBy w' (some p)) : IntsX p w'.heap.size w' a l := by
  rcases h with h | ⟨b, o, rfl, h1, h2, h3⟩
  · exact .inl h
  · exact .inr ⟨b, o, rfl, Nat.lt_of_lt_of_le h1 hg.size, h2, fun i hi => World.grownBy.cell hg (h3 i hi) (fun e => h2 (by injection e))⟩
theorem LiesX.grown {p : Nat} {w w' : World} {a : Option Addr} {l : List Nd} (h : LiesX p w.heap.size w a l) (hg : w.grownBy w' (some p)) : LiesX p w'.heap.size w' a l := by
  rcases h with h | ⟨b, o, rfl, h1, h2, h3⟩
  · exact .inl h
  · refine .inr ⟨b, o, rfl, Nat.lt_of_lt_of_le h1 hg.size, h2, fun i hi => ?_⟩
    obtain ⟨ak, ck, ⟨c0, c1, c2, c3, c4⟩, h4⟩ := h3 i hi
    have hne : ∀ j, some (⟨b, j, none⟩ : Addr).block ≠ some p := fun j e => h2 (by injection e)
    exact ⟨ak, ck, ⟨World.grownBy.cell hg c0 (hne _), World.grownBy.cell hg c1 (hne _), World.grownBy.cell hg c2 (hne _), World.grownBy.cell hg c3 (hne _), World.grownBy.cell hg c4 (hne _)⟩, h4.grown hg⟩
theorem LiesX.lies {p B : Nat} {w : World} {a : Option Addr} {l : List Nd} (h : LiesX p B w a l) : Lies B w a l := by
  rcases h with h | ⟨b, o, rfl, h1, h2, h3⟩
  · exact .inl h
  · refine .inr ⟨b, o, rfl, h1, fun i hi => ?_⟩
    obtain ⟨ak, ck, h5, h4⟩ := h3 i hi
    exact ⟨ak, ck, h5, h4.imp id (fun ⟨b, o, e, h1, _, h3⟩ => ⟨b, o, e, h1, h3⟩)⟩
theorem LiesX.take {p B : Nat} {w : World} {a : Option Addr} {l : List Nd} (h : LiesX p B w a l) (k : Nat) : LiesX p B w a (l.take k) := by
  rcases h with h | ⟨b, o, rfl, h1, h2, h3⟩
  · exact .inl (by rw [h]; simp)
  · refine .inr ⟨b, o, rfl, h1, h2, fun i hi => ?_⟩
    rw [List.getElem_take]
    exact h3 i _
/-- Some nodes, not many. -/
def Wild (q : List Nd) : Prop := q.length ≤ 4600 ∧ (∀ t ∈ q, t.kids.length ≤ 1001) ∧ ∀ t ∈ q, Sh t
def BOut (B p : Nat) (a : Option Addr) (len cap : Nat) (zs : List Int) (w : World) (e : Ending) (w' : World) : Prop :=
  ∃ q a2 c2 s', e = .returned (.slice a2 q.length c2) ∧ LiesX p w'.heap.size w' a2 q ∧ q.length ≤ c2 ∧ Wild q ∧ In B w' p a len cap zs s' ∧ w.grownBy w' (some p)
/-- A drawn tree as a block. -/
theorem TR.row {p S : Nat} {v : Value} {q : List Nd} {w : World} (h : TR p S v q w) (h0 : 0 < q.length) : ∃ g c z r, v = .slice (some ⟨g, 0, none⟩) q.length c ∧ q.length ≤ c ∧ S ≤ g ∧ g < w.heap.size ∧ p < S ∧ z.map (·.1) = q ∧ z.length = q.length ∧ PT S (.slice (some ⟨g, 0, none⟩) q.length c) z r w ∧ ∀ i (h : i < z.length), z[i].2 ≠ .slice none 0 0 → r i ≠ p ∧ S ≤ r i := by
  obtain ⟨h1, z, r, hz, hp, hr⟩ := h
  have hl : z.length = q.length := by rw [← hz, List.length_map]
  rcases hp.own.2 with ⟨_, hn⟩ | ⟨g, c, cur, rfl, hg, hblk, hlc, _⟩
  · omega
  · refine ⟨g, c, z, r, by rw [hl], by omega, hg, lt_of_heap hblk, h1, hz, hl, by rw [← hl]; exact hp, fun i hi hne => ⟨hr i hi hne, ?_⟩⟩
    rcases hp.kid i hi with hk | ⟨_, _, _, e3, _⟩
    · exact absurd hk.1 hne
    · exact e3
/-- The cells of node i. -/
theorem pt_five {S g n c : Nat} {z : List (Nd × Value)} {r : Nat → Nat} {w : World} (h : PT S (.slice (some ⟨g, 0, none⟩) n c) z r w) {i : Nat} (hi : i < z.length) :
    w.cell? ⟨g, i * 5, none⟩ = some (.int .i64 z[i].1.k) ∧ w.cell? ⟨g, i * 5 + 1, none⟩ = some (.int .i64 z[i].1.op) ∧ w.cell? ⟨g, i * 5 + 2, none⟩ = some (.string z[i].1.s) ∧ w.cell? ⟨g, i * 5 + 3, none⟩ = some (.string z[i].1.t) ∧ w.cell? ⟨g, i * 5 + 4, none⟩ = some z[i].2 := by
  obtain ⟨a, c2, e⟩ := h.form
  injection e with e1 e2 e3
  subst e2 e3
  have hc := fun j hj => World.ownsRow.cellAt h.own j hj
  obtain ⟨x0, x1, x2, x3, x4⟩ := fl_get z i hi
  exact ⟨(hc _ (by omega)).trans x0, (hc _ (by omega)).trans x1, (hc _ (by omega)).trans x2, (hc _ (by omega)).trans x3, (hc _ (by omega)).trans x4⟩
/-- One node's kids are others now. -/
theorem bent_lies {p S g n c k : Nat} {z : List (Nd × Value)} {r : Nat → Nat} {w w5 : World} (h : PT S (.slice (some ⟨g, 0, none⟩) n c) z r w) (hk : k < z.length) (hg : g < w5.heap.size) (hgp : g ≠ p) (m : List Int) (a' : Option Addr) (c' : Nat)
    (h1 : ∀ j v, j ≠ k * 5 + 4 → w.cell? ⟨g, j, none⟩ = some v → w5.cell? ⟨g, j, none⟩ = some v) (h2 : w5.cell? ⟨g, k * 5 + 4, none⟩ = some (.slice a' m.length c')) (h3 : IntsX p w5.heap.size w5 a' m)
    (h4 : ∀ i (hi : i < z.length), i ≠ k → z[i].2 ≠ .slice none 0 0 → w5.heap[r i]? = w.heap[r i]? ∧ r i ≠ p) : LiesX p w5.heap.size w5 (some ⟨g, 0, none⟩) ((z.map (·.1)).set k { z[k].1 with kids := m }) := by
  refine .inr ⟨g, 0, rfl, hg, hgp, fun i hi => ?_⟩
  simp only [List.length_set, List.length_map] at hi
  obtain ⟨f0, f1, f2, f3, f4⟩ := pt_five h hi
  rw [Nat.zero_add]
  by_cases he : k = i
  · subst he
    simp only [List.getElem_set_self]
    exact ⟨a', c', ⟨h1 _ _ (by omega) f0, h1 _ _ (by omega) f1, h1 _ _ (by omega) f2, h1 _ _ (by omega) f3, h2⟩, h3⟩
  · simp only [List.getElem_set_ne he, List.getElem_map]
    rcases h.kid i hi with ⟨e1, e2⟩ | ⟨cap, e1, e2, e3⟩
    · exact ⟨none, 0, ⟨h1 _ _ (by omega) f0, h1 _ _ (by omega) f1, h1 _ _ (by omega) f2, h1 _ _ (by omega) f3, by rw [h1 _ _ (by omega) f4, e1, e2]; rfl⟩, .inl e2⟩
    · have e4 := h4 i hi (fun e => he e.symm) (by rw [e1]; simp)
      exact ⟨_, cap, ⟨h1 _ _ (by omega) f0, h1 _ _ (by omega) f1, h1 _ _ (by omega) f2, h1 _ _ (by omega) f3, by rw [h1 _ _ (by omega) f4, e1]⟩, IBlk.intsX (e2.of_block e4.1) e4.2⟩
/-- None of them changed. -/
theorem pt_lies {p S g n c : Nat} {z : List (Nd × Value)} {r : Nat → Nat} {w : World} (h : PT S (.slice (some ⟨g, 0, none⟩) n c) z r w) (hg : g < w.heap.size) (hgp : g ≠ p)
    (h4 : ∀ i (hi : i < z.length), z[i].2 ≠ .slice none 0 0 → r i ≠ p) : LiesX p w.heap.size w (some ⟨g, 0, none⟩) (z.map (·.1)) := by
  refine .inr ⟨g, 0, rfl, hg, hgp, fun i hi => ?_⟩
  simp only [List.length_map] at hi
  obtain ⟨f0, f1, f2, f3, f4⟩ := pt_five h hi
  rw [Nat.zero_add]
  simp only [List.getElem_map]
  rcases h.kid i hi with ⟨e1, e2⟩ | ⟨cap, e1, e2, e3⟩
  · exact ⟨none, 0, ⟨f0, f1, f2, f3, by rw [f4, e1, e2]; rfl⟩, .inl e2⟩
  · exact ⟨_, cap, ⟨f0, f1, f2, f3, by rw [f4, e1]⟩, IBlk.intsX e2 (h4 i hi (by rw [e1]; simp))⟩
/-- The same nodes once more behind themselves. -/
theorem twice_lies {p S g n c g2 c2 : Nat} {z : List (Nd × Value)} {r : Nat → Nat} {w w5 : World} (h : PT S (.slice (some ⟨g, 0, none⟩) n c) z r w) (ho : w5.ownsRow S 26 5 (.slice (some ⟨g2, 0, none⟩) (z.length + z.length) c2) (z.length + z.length) (fl z ++ fl z))
    (hgp : g2 ≠ p) (h4 : ∀ i (hi : i < z.length), z[i].2 ≠ .slice none 0 0 → w5.heap[r i]? = w.heap[r i]? ∧ r i ≠ p) : LiesX p w5.heap.size w5 (some ⟨g2, 0, none⟩) (z.map (·.1) ++ z.map (·.1)) := by
  rw [← fl_append] at ho
  refine .inr ⟨g2, 0, rfl, (World.ownsRow.lt ho g2 rfl).2, hgp, fun i hi => ?_⟩
  simp only [List.length_append, List.length_map] at hi
  have hi2 : i < (z ++ z).length := by simpa using hi
  have hc := fun j hj => World.ownsRow.cellAt ho j hj
  obtain ⟨x0, x1, x2, x3, x4⟩ := fl_get (z ++ z) i hi2
  obtain ⟨j, hj, e⟩ : ∃ j, ∃ hj : j < z.length, (z ++ z)[i] = z[j] := by
    by_cases he : i < z.length
    · exact ⟨i, he, List.getElem_append_left he⟩
    · exact ⟨i - z.length, by omega, List.getElem_append_right (by omega)⟩
  have e2 : (z.map (·.1) ++ z.map (·.1))[i]'(by simpa using hi) = z[j].1 := by
    have : (z.map (·.1) ++ z.map (·.1))[i]'(by simpa using hi) = ((z ++ z).map (·.1))[i]'(by simpa using hi) := by simp only [List.map_append]
    rw [this, List.getElem_map, e]
  rw [e2, Nat.zero_add]
  rw [e] at x0 x1 x2 x3 x4
  have c0 := (hc _ (by omega)).trans x0
  have c1 := (hc _ (by omega)).trans x1
  have c2' := (hc _ (by omega)).trans x2
  have c3 := (hc _ (by omega)).trans x3
  have c4 := (hc _ (by omega)).trans x4
  rcases h.kid j hj with ⟨e1, e2⟩ | ⟨cap, e1, e5, e3⟩
  · exact ⟨none, 0, ⟨c0, c1, c2', c3, by rw [c4, e1, e2]; rfl⟩, .inl e2⟩
  · have e6 := h4 j hj (by rw [e1]; simp)
    exact ⟨_, cap, ⟨c0, c1, c2', c3, by rw [c4, e1]⟩, IBlk.intsX (e5.of_block e6.1) e6.2⟩
/-- 'append(l, v)' as a step of a region that draws its order: where the new row lies. -/
theorem step_append_int2 {ops : Array Oper} {o : Oper} {a : Act} {w : World} {K : Act → World → Prop} {Q : Exit → Act → World → Prop} {E : Prop} (hgd : o.guard = none) (s x : Operand)
    (ho : o.op = .call { callee := .builtin .append, args := #[s, x], argTypes := #[24, 24] }) (B : Nat) (v : Value) (d : List Int) (z : Int) (hs : a.eval s = v)
    (hown : OwnI B v d w) (gz : Nat) (hx : a.eval x = .slice (some ⟨gz, 0, none⟩) 1 1) (hz : w.heap[gz]? = some (.cells #[.int .i64 z] 3 (0, 0))) (hn : d.length ≤ 1048576) (hB : B ≤ w.heap.size)
    (h : ∀ g cap w', OwnI B (.slice (some ⟨g, 0, none⟩) (d.length + 1) cap) (d ++ [z]) w' → w.grownBy w' v.ownBlock → (v.ownBlock = some g ∨ w.heap.size ≤ g) → K (a.put o.dst (.slice (some ⟨g, 0, none⟩) (d.length + 1) cap)) w') :
    if Region.wanted o (yielded ops a.tmps) = true then Oper.wp Try.prog o a w K Q else E := by
  obtain ⟨i0, hi, hz0, hz1, hz2⟩ := info_parts Try.infoInt
  refine step_append_lies w hgd s x 24 ho B 3 i0 _ 1 8 Try.underlying24 hi hz0 hz1 hz2 rfl (by decide) v d.length (ivals d) hs hown ⟨gz, 0, none⟩ 1 1 [.int .i64 z] hx rfl ?_ ?_ (by decide) (by unfold maxLen; omega) (by omega) hB _ rfl ?_
  · intro j u hj
    rw [show ((⟨gz, 0, none⟩ : Addr).add j) = ⟨gz, j, none⟩ by unfold Addr.add; split <;> simp_all]
    rw [cell_of_row _ gz j _ _ _ hz]
    simpa using hj
  · intro u hu
    simp at hu
    rcases hu with rfl <;> rfl
  · intro g cap w' hown' hg hor _
    refine h g cap w' ?_ hg (hor.imp id (fun e => by omega))
    unfold OwnI
    rw [ivals_snoc, List.length_append]
    exact hown'
section
variable {B p len cap : Nat} {a : Option Addr} {zs : List Int}
theorem wild_of {q : List Nd} (h : Small 2300 q) (hs : ∀ t ∈ q, Sh t) : Wild q := ⟨by have := h.2.1; omega, fun t ht => by have := h.2.2 t ht; omega, hs⟩
theorem wild_set {q : List Nd} (h : Small 2300 q) (hs : ∀ t ∈ q, Sh t) {k : Nat} (t : Nd) (ht : t.kids.length ≤ 1001) (hst : Sh t) : Wild (q.set k t) := by
  refine ⟨by rw [List.length_set]; have := h.2.1; omega, fun u hu => ?_, fun u hu => ?_⟩
  · rcases List.mem_or_eq_of_mem_set hu with hu | rfl
    · have := h.2.2 u hu; omega
    · exact ht
  · rcases List.mem_or_eq_of_mem_set hu with hu | rfl
    · exact hs u hu
    · exact hst
theorem pick4 {w : World} {s : St} (k : Int) (H : In B w p a len cap zs s) :
    Calls Try.prog 43 #[.pointer (some ⟨p, 0, none⟩), .slice (some ⟨w.heap.size, 0, none⟩) 4 4] (w.alloc (.cells #[.int .i64 (-1), .int .i64 k, .int .i64 0, .int .i64 99] 3)) (fun e w' => ∃ x s', e = .returned (.int .i64 x) ∧ In B w' p a len cap zs s' ∧ w.grownBy w' (some p)) := by
  refine (pickInt_lit 4 [-1, k, 0, 99] H rfl (by decide) (by decide)).mono ?_
  rintro e w' ⟨⟨rfl, hI, hG⟩, _⟩
  exact ⟨_, _, rfl, hI, hG⟩
theorem below1 {w : World} {s : St} (k : Nat) (H : In B w p a len cap zs s) :
    Calls Try.prog 26 #[.pointer (some ⟨p, 0, none⟩), .int .i64 ((k : Int) + 1)] w (fun e w' => ∃ (x : Nat) (s' : St), x ≤ k ∧ e = .returned (.int .i64 (x : Int)) ∧ In B w' p a len cap zs s' ∧ w.grownBy w' (some p)) := by
  have hb := exact_lt zs (k + 1) s (by omega)
  have h := bl_ok (K := ((exactG zs).bl (k + 1) s).1) (k + 1) (by omega) rfl H
  rw [show (((k + 1 : Nat)) : Int) = (k : Int) + 1 by omega] at h
  refine h.mono ?_
  rintro e w' ⟨rfl, hI, hG⟩
  exact ⟨_, _, by omega, rfl, hI, hG⟩
theorem grown_drew {w w1 : World} (h : w.grownBy w1 (some p)) : w.grownBy w1.drew (some p) := ⟨h.os, h.tape, h.output, h.size, h.block⟩

/-- Some nodes and a place in them or one beside them. -/
def WOut (B p : Nat) (a : Option Addr) (len cap : Nat) (zs : List Int) (w : World) (e : Ending) (w' : World) : Prop :=
  ∃ q a2 c2 i s', e = .returned (.tuple #[.slice a2 q.length c2, .int .i64 i]) ∧ -1 ≤ i ∧ i ≤ (q.length : Int) ∧ LiesX p w'.heap.size w' a2 q ∧ q.length ≤ c2 ∧ Wild q ∧ In B w' p a len cap zs s' ∧ w.grownBy w' (some p)
/-- What the law is handed. -/
def POut (w : World) (e : Ending) (w' : World) : Prop :=
  ∃ q a2 c2 i, e = .returned (.tuple #[.slice a2 q.length c2, .int .i64 i]) ∧ -1 ≤ i ∧ i ≤ (q.length : Int) ∧ Lies w'.heap.size w' a2 q ∧ q.length ≤ c2 ∧ Wild q ∧ Below w.heap.size w w'
end
end Go.Proofs.Ytldkhdoboieibaa.draw
