/-
  spec.l6Bent: a small tree; cut short, with a kid more, with another first kid, or twice: some nodes. spec.l6Where, spec.DrawPart.
-/
import Derived.Test.YtkijebbggcbemaaLoopP
import Derived.Test.YtkijebbggcbemaaDepth
import Derived.Deep.RegionLaw
namespace Go.Proofs.Ytkijebbggcbemaa.draw
open Go.ChangeShapes Go.WideShapes Go.ChangeAt Go.RowKit
open nd lcg
set_option linter.unusedVariables false

theorem neF {x c : Int} (h : ¬ x = c) : (x == c) = false ∧ (x != c) = true := by simp [h]
theorem In.drew1 {B p len cap : Nat} {w : World} {a : Option Addr} {zs : List Int} {s : Nat × Int} (H : In B w p a len cap zs s) : In B w.drew p a len cap zs s :=
  ⟨H.code.keep ⟨rfl, rfl, rfl, Nat.le_refl _, fun _ _ => rfl⟩, H.cur, H.le, H.used, H.small⟩
/-- Nodes that lie beside the cursor's block. -/
def IntsX (p B : Nat) (w : World) (a : Option Addr) (l : List Int) : Prop :=
  l = [] ∨ ∃ b o, a = some ⟨b, o, none⟩ ∧ b < B ∧ b ≠ p ∧ ∀ i (h : i < l.length), w.cell? ⟨b, o + i, none⟩ = some (.int .i64 l[i])
def LiesX (p B : Nat) (w : World) (a : Option Addr) (l : List Nd) : Prop :=
  l = [] ∨ ∃ b o, a = some ⟨b, o, none⟩ ∧ b < B ∧ b ≠ p ∧ ∀ i (h : i < l.length), ∃ ak ck, Five w b (o + i * 5) l[i] ak ck ∧ IntsX p B w ak l[i].kids
theorem IBlk.intsX {p : Nat} {w : World} {g n : Nat} {l : List Int} (h : IBlk w g n l) (hp : g ≠ p) : IntsX p w.heap.size w (some ⟨g, 0, none⟩) l :=
  .inr ⟨g, 0, rfl, h.lt, hp, fun i hi => by rw [Nat.zero_add]; exact h.at i hi⟩
theorem OwnI.intsX {p B : Nat} {a : Option Addr} {n cap : Nat} {l : List Int} {w : World} (h : OwnI B (.slice a n cap) l w) (hp : (Value.slice a n cap).ownBlock ≠ some p) : IntsX p w.heap.size w a l := by
  rcases h.blk with ⟨_, h1⟩ | ⟨g, c, hv, _, h1⟩
  · exact .inl h1
  · injection hv with hv _ _
    subst hv
    exact IBlk.intsX h1 (fun e => hp (by rw [e]; rfl))
theorem IntsX.grown {p : Nat} {w w' : World} {a : Option Addr} {l : List Int} (h : IntsX p w.heap.size w a l) (hg : w.grownBy w' (some p)) : IntsX p w'.heap.size w' a l := by
  rcases h with h | ⟨b, o, rfl, h1, h2, h3⟩
  · exact .inl h
  · exact .inr ⟨b, o, rfl, Nat.lt_of_lt_of_le h1 hg.size, h2, fun i hi => World.grownBy.cell hg (h3 i hi) (fun e => h2 (by injection e))⟩
theorem LiesX.grown {p : Nat} {w w' : World} {a : Option Addr} {l : List Nd} (h : LiesX p w.heap.size w a l) (hg : w.grownBy w' (some p)) : LiesX p w'.heap.size w' a l := by
  rcases h with h | ⟨b, o, rfl, h1, h2, h3⟩
  · exact .inl h
  · refine .inr ⟨b, o, rfl, Nat.lt_of_lt_of_le h1 hg.size, h2, fun i hi => ?_⟩
    obtain ⟨ak, ck, ⟨c0, c1, c2, c3, c4⟩, h4⟩ := h3 i hi
    have hne : ∀ j, some (⟨b, j, none⟩ : Addr).block ≠ some p := fun j e => h2 (by injection e)
    exact ⟨ak, ck, ⟨World.grownBy.cell hg c0 (hne _), World.grownBy.cell hg c1 (hne _), World.grownBy.cell hg c2 (hne _), World.grownBy.cell hg c3 (hne _), World.grownBy.cell hg c4 (hne _)⟩, h4.grown hg⟩
theorem LiesX.lies {p B : Nat} {w : World} {a : Option Addr} {l : List Nd} (h : LiesX p B w a l) : Lies B w a l := by
  rcases h with h | ⟨b, o, rfl, h1, h2, h3⟩
  · exact .inl h
  · refine .inr ⟨b, o, rfl, h1, fun i hi => ?_⟩
    obtain ⟨ak, ck, h5, h4⟩ := h3 i hi
    exact ⟨ak, ck, h5, h4.imp id (fun ⟨b, o, e, h1, _, h3⟩ => ⟨b, o, e, h1, h3⟩)⟩
theorem LiesX.take {p B : Nat} {w : World} {a : Option Addr} {l : List Nd} (h : LiesX p B w a l) (k : Nat) : LiesX p B w a (l.take k) := by
  rcases h with h | ⟨b, o, rfl, h1, h2, h3⟩
  · exact .inl (by rw [h]; simp)
  · refine .inr ⟨b, o, rfl, h1, h2, fun i hi => ?_⟩
    rw [List.getElem_take]
    exact h3 i _
/-- Some nodes, not many. -/
def Wild (q : List Nd) : Prop := q.length ≤ 4600 ∧ ∀ t ∈ q, t.kids.length ≤ 1001
def BOut (B p : Nat) (a : Option Addr) (len cap : Nat) (zs : List Int) (w : World) (e : Ending) (w' : World) : Prop :=
  ∃ q a2 c2 s', e = .returned (.slice a2 q.length c2) ∧ LiesX p w'.heap.size w' a2 q ∧ q.length ≤ c2 ∧ Wild q ∧ In B w' p a len cap zs s' ∧ w.grownBy w' (some p)
/-- A drawn tree as a block. -/
theorem TR.row {p S : Nat} {v : Value} {q : List Nd} {w : World} (h : TR p S v q w) (h0 : 0 < q.length) : ∃ g c z r, v = .slice (some ⟨g, 0, none⟩) q.length c ∧ q.length ≤ c ∧ S ≤ g ∧ g < w.heap.size ∧ p < S ∧ z.map (·.1) = q ∧ z.length = q.length ∧ PT S (.slice (some ⟨g, 0, none⟩) q.length c) z r w ∧ ∀ i (h : i < z.length), z[i].2 ≠ .slice none 0 0 → r i ≠ p ∧ S ≤ r i := by
  obtain ⟨h1, z, r, hz, hp, hr⟩ := h
  have hl : z.length = q.length := by rw [← hz, List.length_map]
  rcases hp.own.2 with ⟨_, hn⟩ | ⟨g, c, cur, rfl, hg, hblk, hlc, _⟩
  · omega
  · refine ⟨g, c, z, r, by rw [hl], by omega, hg, lt_of_heap hblk, h1, hz, hl, by rw [← hl]; exact hp, fun i hi hne => ⟨hr i hi hne, ?_⟩⟩
    rcases hp.kid i hi with hk | ⟨_, _, _, e3, _⟩
    · exact absurd hk.1 hne
    · exact e3
/-- The cells of node i. -/
theorem pt_five {S g n c : Nat} {z : List (Nd × Value)} {r : Nat → Nat} {w : World} (h : PT S (.slice (some ⟨g, 0, none⟩) n c) z r w) {i : Nat} (hi : i < z.length) :
    w.cell? ⟨g, i * 5, none⟩ = some (.int .i64 z[i].1.k) ∧ w.cell? ⟨g, i * 5 + 1, none⟩ = some (.int .i64 z[i].1.op) ∧ w.cell? ⟨g, i * 5 + 2, none⟩ = some (.string z[i].1.s) ∧ w.cell? ⟨g, i * 5 + 3, none⟩ = some (.string z[i].1.t) ∧ w.cell? ⟨g, i * 5 + 4, none⟩ = some z[i].2 := by
  obtain ⟨a, c2, e⟩ := h.form
  injection e with e1 e2 e3
  subst e2 e3
  have hc := fun j hj => World.ownsRow.cellAt h.own j hj
  obtain ⟨x0, x1, x2, x3, x4⟩ := fl_get z i hi
  exact ⟨(hc _ (by omega)).trans x0, (hc _ (by omega)).trans x1, (hc _ (by omega)).trans x2, (hc _ (by omega)).trans x3, (hc _ (by omega)).trans x4⟩
/-- One node's kids are others now. -/
theorem bent_lies {p S g n c k : Nat} {z : List (Nd × Value)} {r : Nat → Nat} {w w5 : World} (h : PT S (.slice (some ⟨g, 0, none⟩) n c) z r w) (hk : k < z.length) (hg : g < w5.heap.size) (hgp : g ≠ p) (m : List Int) (a' : Option Addr) (c' : Nat)
    (h1 : ∀ j v, j ≠ k * 5 + 4 → w.cell? ⟨g, j, none⟩ = some v → w5.cell? ⟨g, j, none⟩ = some v) (h2 : w5.cell? ⟨g, k * 5 + 4, none⟩ = some (.slice a' m.length c')) (h3 : IntsX p w5.heap.size w5 a' m)
    (h4 : ∀ i (hi : i < z.length), i ≠ k → z[i].2 ≠ .slice none 0 0 → w5.heap[r i]? = w.heap[r i]? ∧ r i ≠ p) : LiesX p w5.heap.size w5 (some ⟨g, 0, none⟩) ((z.map (·.1)).set k { z[k].1 with kids := m }) := by
  refine .inr ⟨g, 0, rfl, hg, hgp, fun i hi => ?_⟩
  simp only [List.length_set, List.length_map] at hi
  obtain ⟨f0, f1, f2, f3, f4⟩ := pt_five h hi
  rw [Nat.zero_add]
  by_cases he : k = i
  · subst he
    simp only [List.getElem_set_self]
    exact ⟨a', c', ⟨h1 _ _ (by omega) f0, h1 _ _ (by omega) f1, h1 _ _ (by omega) f2, h1 _ _ (by omega) f3, h2⟩, h3⟩
  · simp only [List.getElem_set_ne he, List.getElem_map]
    rcases h.kid i hi with ⟨e1, e2⟩ | ⟨cap, e1, e2, e3⟩
    · exact ⟨none, 0, ⟨h1 _ _ (by omega) f0, h1 _ _ (by omega) f1, h1 _ _ (by omega) f2, h1 _ _ (by omega) f3, by rw [h1 _ _ (by omega) f4, e1, e2]; rfl⟩, .inl e2⟩
    · have e4 := h4 i hi (fun e => he e.symm) (by rw [e1]; simp)
      exact ⟨_, cap, ⟨h1 _ _ (by omega) f0, h1 _ _ (by omega) f1, h1 _ _ (by omega) f2, h1 _ _ (by omega) f3, by rw [h1 _ _ (by omega) f4, e1]⟩, IBlk.intsX (e2.of_block e4.1) e4.2⟩
/-- None of them changed. -/
theorem pt_lies {p S g n c : Nat} {z : List (Nd × Value)} {r : Nat → Nat} {w : World} (h : PT S (.slice (some ⟨g, 0, none⟩) n c) z r w) (hg : g < w.heap.size) (hgp : g ≠ p)
    (h4 : ∀ i (hi : i < z.length), z[i].2 ≠ .slice none 0 0 → r i ≠ p) : LiesX p w.heap.size w (some ⟨g, 0, none⟩) (z.map (·.1)) := by
  refine .inr ⟨g, 0, rfl, hg, hgp, fun i hi => ?_⟩
  simp only [List.length_map] at hi
  obtain ⟨f0, f1, f2, f3, f4⟩ := pt_five h hi
  rw [Nat.zero_add]
  simp only [List.getElem_map]
  rcases h.kid i hi with ⟨e1, e2⟩ | ⟨cap, e1, e2, e3⟩
  · exact ⟨none, 0, ⟨f0, f1, f2, f3, by rw [f4, e1, e2]; rfl⟩, .inl e2⟩
  · exact ⟨_, cap, ⟨f0, f1, f2, f3, by rw [f4, e1]⟩, IBlk.intsX e2 (h4 i hi (by rw [e1]; simp))⟩
/-- The same nodes once more behind themselves. -/
theorem twice_lies {p S g n c g2 c2 : Nat} {z : List (Nd × Value)} {r : Nat → Nat} {w w5 : World} (h : PT S (.slice (some ⟨g, 0, none⟩) n c) z r w) (ho : w5.ownsRow S 35 5 (.slice (some ⟨g2, 0, none⟩) (z.length + z.length) c2) (z.length + z.length) (fl z ++ fl z))
    (hgp : g2 ≠ p) (h4 : ∀ i (hi : i < z.length), z[i].2 ≠ .slice none 0 0 → w5.heap[r i]? = w.heap[r i]? ∧ r i ≠ p) : LiesX p w5.heap.size w5 (some ⟨g2, 0, none⟩) (z.map (·.1) ++ z.map (·.1)) := by
  rw [← fl_append] at ho
  refine .inr ⟨g2, 0, rfl, (World.ownsRow.lt ho g2 rfl).2, hgp, fun i hi => ?_⟩
  simp only [List.length_append, List.length_map] at hi
  have hi2 : i < (z ++ z).length := by simpa using hi
  have hc := fun j hj => World.ownsRow.cellAt ho j hj
  obtain ⟨x0, x1, x2, x3, x4⟩ := fl_get (z ++ z) i hi2
  obtain ⟨j, hj, e⟩ : ∃ j, ∃ hj : j < z.length, (z ++ z)[i] = z[j] := by
    by_cases he : i < z.length
    · exact ⟨i, he, List.getElem_append_left he⟩
    · exact ⟨i - z.length, by omega, List.getElem_append_right (by omega)⟩
  have e2 : (z.map (·.1) ++ z.map (·.1))[i]'(by simpa using hi) = z[j].1 := by
    have : (z.map (·.1) ++ z.map (·.1))[i]'(by simpa using hi) = ((z ++ z).map (·.1))[i]'(by simpa using hi) := by simp only [List.map_append]
    rw [this, List.getElem_map, e]
  rw [e2, Nat.zero_add]
  rw [e] at x0 x1 x2 x3 x4
  have c0 := (hc _ (by omega)).trans x0
  have c1 := (hc _ (by omega)).trans x1
  have c2' := (hc _ (by omega)).trans x2
  have c3 := (hc _ (by omega)).trans x3
  have c4 := (hc _ (by omega)).trans x4
  rcases h.kid j hj with ⟨e1, e2⟩ | ⟨cap, e1, e5, e3⟩
  · exact ⟨none, 0, ⟨c0, c1, c2', c3, by rw [c4, e1, e2]; rfl⟩, .inl e2⟩
  · have e6 := h4 j hj (by rw [e1]; simp)
    exact ⟨_, cap, ⟨c0, c1, c2', c3, by rw [c4, e1]⟩, IBlk.intsX (e5.of_block e6.1) e6.2⟩
/-- 'append(l, v)' as a step of a region that draws its order: where the new row lies. -/
theorem step_append_int2 {ops : Array Oper} {o : Oper} {a : Act} {w : World} {K : Act → World → Prop} {Q : Exit → Act → World → Prop} {E : Prop} (hgd : o.guard = none) (s x : Operand)
    (ho : o.op = .call { callee := .builtin .append, args := #[s, x], argTypes := #[33, 33] }) (B : Nat) (v : Value) (d : List Int) (z : Int) (hs : a.eval s = v)
    (hown : OwnI B v d w) (gz : Nat) (hx : a.eval x = .slice (some ⟨gz, 0, none⟩) 1 1) (hz : w.heap[gz]? = some (.cells #[.int .i64 z] 3 (0, 0))) (hn : d.length ≤ 1048576) (hB : B ≤ w.heap.size)
    (h : ∀ g cap w', OwnI B (.slice (some ⟨g, 0, none⟩) (d.length + 1) cap) (d ++ [z]) w' → w.grownBy w' v.ownBlock → (v.ownBlock = some g ∨ w.heap.size ≤ g) → K (a.put o.dst (.slice (some ⟨g, 0, none⟩) (d.length + 1) cap)) w') :
    if Region.wanted o (yielded ops a.tmps) = true then Oper.wp Try.prog o a w K Q else E := by
  obtain ⟨i0, hi, hz0, hz1, hz2⟩ := info_parts Try.infoInt
  refine step_append_lies w hgd s x 33 ho B 3 i0 _ 1 8 Try.underlying33 hi hz0 hz1 hz2 rfl (by decide) v d.length (ivals d) hs hown ⟨gz, 0, none⟩ 1 1 [.int .i64 z] hx rfl ?_ ?_ (by decide) (by unfold maxLen; omega) (by omega) hB _ rfl ?_
  · intro j u hj
    rw [show ((⟨gz, 0, none⟩ : Addr).add j) = ⟨gz, j, none⟩ by unfold Addr.add; split <;> simp_all]
    rw [cell_of_row _ gz j _ _ _ hz]
    simpa using hj
  · intro u hu
    simp at hu
    rcases hu with rfl <;> rfl
  · intro g cap w' hown' hg hor _
    refine h g cap w' ?_ hg (hor.imp id (fun e => by omega))
    unfold OwnI
    rw [ivals_snoc, List.length_append]
    exact hown'
section
variable {B p len cap : Nat} {a : Option Addr} {zs : List Int}
theorem wild_of {q : List Nd} (h : Small 2300 q) : Wild q := ⟨by have := h.2.1; omega, fun t ht => by have := h.2.2 t ht; omega⟩
theorem wild_set {q : List Nd} (h : Small 2300 q) {k : Nat} (t : Nd) (ht : t.kids.length ≤ 1001) : Wild (q.set k t) := by
  refine ⟨by rw [List.length_set]; have := h.2.1; omega, fun u hu => ?_⟩
  rcases List.mem_or_eq_of_mem_set hu with hu | rfl
  · have := h.2.2 u hu; omega
  · exact ht
theorem pick4 {w : World} {s : St} (k : Int) (H : In B w p a len cap zs s) :
    Calls Try.prog 45 #[.pointer (some ⟨p, 0, none⟩), .slice (some ⟨w.heap.size, 0, none⟩) 4 4] (w.alloc (.cells #[.int .i64 (-1), .int .i64 k, .int .i64 0, .int .i64 99] 3)) (fun e w' => ∃ x s', e = .returned (.int .i64 x) ∧ In B w' p a len cap zs s' ∧ w.grownBy w' (some p)) := by
  refine (pickInt_lit 4 [-1, k, 0, 99] H rfl (by decide) (by decide)).mono ?_
  rintro e w' ⟨⟨rfl, hI, hG⟩, _⟩
  exact ⟨_, _, rfl, hI, hG⟩
theorem below1 {w : World} {s : St} (k : Nat) (H : In B w p a len cap zs s) :
    Calls Try.prog 39 #[.pointer (some ⟨p, 0, none⟩), .int .i64 ((k : Int) + 1)] w (fun e w' => ∃ (x : Nat) (s' : St), x ≤ k ∧ e = .returned (.int .i64 (x : Int)) ∧ In B w' p a len cap zs s' ∧ w.grownBy w' (some p)) := by
  have hb := exact_lt zs (k + 1) s (by omega)
  have h := bl_ok (K := ((exactG zs).bl (k + 1) s).1) (k + 1) (by omega) rfl H
  rw [show (((k + 1 : Nat)) : Int) = (k : Int) + 1 by omega] at h
  refine h.mono ?_
  rintro e w' ⟨rfl, hI, hG⟩
  exact ⟨_, _, by omega, rfl, hI, hG⟩
theorem grown_drew {w w1 : World} (h : w.grownBy w1 (some p)) : w.grownBy w1.drew (some p) := ⟨h.os, h.tape, h.output, h.size, h.block⟩

set_option maxHeartbeats 3200000 in
theorem bent_ok {w : World} {s : St} (H : In B w p a len cap zs s) :
    Calls Try.prog 38 #[.pointer (some ⟨p, 0, none⟩)] w (BOut B p a len cap zs w) := by
  have HI := Lib.hid H
  have HP := H.lt
  clear H
  go_enter Try.func38, Try.ntmps38
  go_wp2_with fail
  refine (any_ok HI.out).mono ?_
  rintro e w1 ⟨q, s1, ⟨v, rfl, T1, I1, G1⟩, hsm⟩
  obtain ⟨g, c, z, r, rfl, hcq, hSg, hgw, hpS, hz, hzl, hpt, hr⟩ := T1.row hsm.1
  have hq0 := hsm.1
  have hq1 := hsm.2.1
  have HSM := Lib.hid hsm
  have HG1 := Lib.hid G1
  have HI1 := Lib.hid I1
  obtain ⟨n, hn⟩ : ∃ n, q.length = n := ⟨_, rfl⟩
  have HZ := Lib.hid hz
  have HN := Lib.hid hn
  have HPT1 := Lib.hid hpt
  have HR := Lib.hid hr
  rw [hn] at hcq hzl HPT1 hq0 hq1 ⊢
  obtain ⟨k, hk⟩ : ∃ k, ((exactG zs).bl n s1).1 = k := ⟨_, rfl⟩
  have hkn := exact_lt zs n s1 (by omega)
  rw [hk] at hkn
  have HK := Lib.hid hk
  clear T1 I1 G1 hsm hz hn hpt hr hk
  go_wp2_with fail
  refine (bl_ok n (by omega) HK.out HI1.out).mono ?_
  rintro e w2 ⟨rfl, I2, G2⟩
  obtain ⟨s2, hs2⟩ : ∃ s2, ((exactG zs).bl n s1).2 = s2 := ⟨_, rfl⟩
  rw [hs2] at I2
  obtain ⟨K, hK⟩ : ∃ K, ((exactG zs).bl 12 s2).1 = K := ⟨_, rfl⟩
  have hK12 := exact_lt zs 12 s2 (by decide)
  rw [hK] at hK12
  have HKK := Lib.hid hK
  have HI2 := Lib.hid I2
  have HG2 := Lib.hid G2
  clear I2 G2 hs2 hK
  go_wp2_with fail
  refine (bl_ok 12 (by decide) HKK.out HI2.out).mono ?_
  rintro e w3 ⟨rfl, I3, G3⟩
  obtain ⟨s3, hs3⟩ : ∃ s3, ((exactG zs).bl 12 s2).2 = s3 := ⟨_, rfl⟩
  rw [hs3] at I3
  have HI3 := Lib.hid I3
  have HG13 := Lib.hid (grown_trans HG2.out G3)
  have HG3 := Lib.hid (grown_trans HG1.out HG13.out)
  have hgp : g ≠ p := by omega
  have HPT := Lib.hid (pt_kept2 HPT1.out HG13.out (by simp only [Value.ownBlock]; intro e; injection e with e; exact hgp e) (fun i hi hne => (HR.out i hi hne).1))
  have hg3 : g < w3.heap.size := Nat.lt_of_lt_of_le hgw HG13.out.size
  clear I3 G3 hs3
  have HSZ := Lib.hid HG3.out.size
  have HLI := Lib.hid (show LiesX p w3.heap.size w3 (some ⟨g, 0, none⟩) q by rw [← HZ.out]; exact pt_lies HPT.out hg3 hgp (fun i hi hne => (HR.out i hi hne).1))
  obtain ⟨cur, hcur⟩ : ∃ cur, w3.heap[g]? = some (.cells cur 35 (0, 0)) := by
    rcases HPT.out.own.2 with ⟨h, _⟩ | ⟨g', cap', cur, h, _, hb, _⟩
    · cases h
    · injection h with h _ _
      injection h with h
      injection h with h _ _
      exact ⟨cur, by rw [h]; exact hb⟩
  have HCUR := Lib.hid hcur
  have hkz : k < z.length := by omega
  obtain ⟨f0, f1, f2, f3, f4⟩ := pt_five HPT.out hkz
  obtain ⟨ak, ck, hvk, _⟩ := (HPT.out.kid k hkz).form
  have hqk : z[k].1 ∈ q := by rw [← HZ.out]; exact List.mem_map.2 ⟨_, List.getElem_mem hkz, rfl⟩
  have hkl : z[k].1.kids.length ≤ 1000 := HSM.out.2.2 _ hqk
  have HKID := Lib.hid (HPT.out.kid k hkz)
  have HOFF := Lib.hid (HPT.out.off k hkz)
  have HKR := Lib.hid (HR.out k hkz)
  obtain ⟨t, ht⟩ : ∃ t, t = z[k].1 := ⟨_, rfl⟩
  rw [← ht] at hvk hkl HKID
  rw [hvk] at f4 HKID HKR
  have HT := Lib.hid ht
  have hk0 : (0 : Int) ≤ (k : Int) := by omega
  have hk1 : (k : Int) < (n : Int) := by omega
  clear f0 f1 f2 f3 hcur hqk ht
  rcases (show K = 0 ∨ K = 1 ∨ K = 2 ∨ K = 3 ∨ 4 ≤ K by omega) with rfl | rfl | rfl | rfl | hK4
  · go_wp2
    go_ret
    refine ⟨q.take k, some ⟨g, 0, none⟩, c, s3, by rw [List.length_take, HN.out, Nat.min_eq_left (by omega)]; rfl, ?_, by rw [List.length_take]; omega, ⟨by rw [List.length_take]; omega, fun t ht => by have := HSM.out.2.2 t (List.mem_of_mem_take ht); omega⟩, HI3.out, HG3.out⟩
    exact HLI.out.take k
  · have HOWN := Lib.hid (show OwnI w.heap.size (.slice ak t.kids.length ck) t.kids w3.drew from HKID.out.own)
    have hob : (Value.slice ak t.kids.length ck).ownBlock = none ∨ ((Value.slice ak t.kids.length ck).ownBlock = some (r k) ∧ r k ≠ p ∧ r k ≠ g ∧ w.heap.size ≤ r k) := by
      rcases HKID.out with ⟨e, _⟩ | ⟨cap, e, _, h3, _⟩
      · left; rw [e]; rfl
      · right
        refine ⟨by rw [e]; rfl, (HKR.out (by rw [e]; simp)).1, fun e2 => HOFF.out (by rw [e2]; rfl), h3⟩
    have hop : (Value.slice ak t.kids.length ck).ownBlock ≠ some p := by
      rcases hob with e | ⟨e, h1, _⟩
      · rw [e]; simp
      · rw [e]; intro e2; injection e2 with e2; exact h1 e2
    have hog : (Value.slice ak t.kids.length ck).ownBlock ≠ some g := by
      rcases hob with e | ⟨e, _, h1, _⟩
      · rw [e]; simp
      · rw [e]; intro e2; injection e2 with e2; exact h1 e2
    have HPC := Lib.hid (pick4 (k : Int) HI3.out.drew1)
    have f4d : w3.drew.cell? ⟨g, k * 5 + 4, none⟩ = some (.slice ak t.kids.length ck) := f4
    have f4a : ∀ z, (w3.drew.alloc z).cell? ⟨g, k * 5 + 4, none⟩ = some (.slice ak t.kids.length ck) := fun z => cell_past z f4d
    have HOB := Lib.hid hob
    have HOP := Lib.hid hop
    have HOG := Lib.hid hog
    clear hob hop hog
    go_wp2
    go_region_law (first
      | (refine step_append_int2 (by rfl) _ _ (by rfl) w.heap.size _ t.kids x (by rfl) (OWN4.out.alloc _) w4.heap.size (by rfl) (by exact heap_alloc_new w4 _) (by omega) (by simp; exact Nat.le_succ_of_le SZ4.out) ?_
         intro g2 c2 w6 own6 gr6 or6
         have HC6 : w6.heap[g]? = some (.cells cur 35 (0, 0)) := (gr6.block g (by simp; exact Nat.lt_succ_of_lt (lt_of_heap HC4.out)) (fun e => HOG.out e.symm)).trans ((Below.heap_alloc w4 _ g (lt_of_heap HC4.out)).trans HC4.out)
         have Y4 : w6.cell? ⟨g, k * 5 + 4, none⟩ = some (.slice ak t.kids.length ck) := (World.cell?_of_block (a := ⟨g, k * 5 + 4, none⟩) (HC6.trans HCUR.out.symm)).trans f4
         have Y5 : w6.frozen? ⟨g, k * 5 + 4, none⟩ = false := frozen_of_row _ _ _ _ _ HC6)
      | (go_simp
         go_at_call 45
         refine HPC.out.mono ?_
         rintro e w4 ⟨x, s4, rfl, I4, G4⟩
         have HC4 := Lib.hid ((G4.block g hg3 (fun e => hgp (by injection e))).trans HCUR.out)
         have OWN4 := Lib.hid (OwnI.kept HOWN.out G4 HOP.out)
         have SZ4 := Lib.hid (Nat.le_trans HSZ.out G4.size)
         have HI4 := Lib.hid I4
         have HG4 := Lib.hid G4
         have X4 : w4.cell? ⟨g, k * 5 + 4, none⟩ = some (.slice ak t.kids.length ck) := (World.cell?_of_block (a := ⟨g, k * 5 + 4, none⟩) (HC4.out.trans HCUR.out.symm)).trans f4
         have X5 : ∀ z, (w4.alloc z).cell? ⟨g, k * 5 + 4, none⟩ = some (.slice ak t.kids.length ck) := fun z => cell_past z X4
         clear I4 G4))
    all_goals
      go_wp2
      go_ret
      have hgs : g < (w4.alloc (.cells #[.int .i64 x] 3)).heap.size := by simp; exact Nat.lt_succ_of_lt (lt_of_heap HC4.out)
      have hbl : Below w.heap.size w4 (w6.setCell ⟨g, k * 5 + 4, none⟩ (.slice (some ⟨g2, 0, none⟩) (t.kids.length + 1) c2)) :=
        ((((Below.refl w.heap.size w4).alloc SZ4.out _).grown gr6 (by simp; exact Nat.le_succ_of_le SZ4.out) (fun b hb => (World.ownsRow.lt OWN4.out b hb).1))).setCell (p := ⟨g, k * 5 + 4, none⟩) hSg _
      have hg2 : g2 ≠ g := by
        rcases or6 with e | e
        · intro e2; exact HOG.out (by rw [e, e2])
        · omega
      have own7 := OwnI.kept own6 (grown_one w6 g (k * 5 + 4) (.slice (some ⟨g2, 0, none⟩) (t.kids.length + 1) c2)) (by simp only [Value.ownBlock]; intro e; injection e with e; exact hg2 e)
      refine ⟨(z.map (·.1)).set k { z[k].1 with kids := t.kids ++ [x] }, some ⟨g, 0, none⟩, c, s4, by rw [List.length_set, List.length_map, hzl]; rfl, ?_, by rw [List.length_set, List.length_map, hzl]; exact hcq, by rw [HZ.out]; exact wild_set HSM.out _ (by simp; omega), HI4.out.keep hbl hpS, grown_below (grown_trans (grown_drew HG3.out) HG4.out) hbl rfl⟩
      refine bent_lies HPT.out hkz (by simp; exact lt_of_heap HC6) hgp _ (some ⟨g2, 0, none⟩) c2 (fun j v hj hv => ?_) ?_ (OwnI.intsX own7 (by
        simp only [Value.ownBlock]
        intro e
        injection e with e
        rcases or6 with e2 | e2
        · exact HOP.out (by rw [e2, e])
        · have := HI4.out.lt; simp at e2; omega)) (fun i hi hik hne => ?_)
      · rw [World.cell?_setCell_other _ _ _ _ (by intro e; simp only [Addr.mk.injEq] at e; exact hj e.2.1.symm)]
        exact (World.cell?_of_block (a := ⟨g, j, none⟩) (HC6.trans HCUR.out.symm)).trans hv
      · rw [World.cell?_setCell_same _ _ _ Y4, List.length_append]
        rfl
      · have hir : g ≠ r i := fun e => HPT.out.off i hi (by rw [← e]; rfl)
        have hri := HPT.out.lt i hi
        have hrp := (HR.out i hi hne).1
        have h1 : w4.heap[r i]? = w3.heap[r i]? := HG4.out.block (r i) hri (fun e => hrp (by injection e))
        have h0 : r i < w4.heap.size := Nat.lt_of_lt_of_le hri HG4.out.size
        have h2 : w6.heap[r i]? = w3.heap[r i]? := (gr6.block (r i) (by simp; omega) (fun e => by
          rcases HOB.out with e2 | ⟨e2, _⟩
          · rw [e2] at e; cases e
          · rw [e2] at e
            injection e with e
            rcases Nat.lt_or_ge i k with hlt | hge
            · exact HPT.out.asc i k hlt hkz e
            · exact HPT.out.asc k i (by omega) hi e.symm)).trans ((Below.heap_alloc w4 _ _ h0).trans h1)
        exact ⟨((grown_one w6 g (k * 5 + 4) _).block (r i) (by have := gr6.size; simp at this; omega) (fun e => hir (by injection e with e; exact e.symm))).trans h2, hrp⟩
  · by_cases hke : t.kids.length = 0
    · have hkn0 : ¬ (0 : Int) < (t.kids.length : Int) := by omega
      go_wp2
      go_ret
      exact ⟨q, some ⟨g, 0, none⟩, c, s3, by rw [HN.out]; rfl, HLI.out, by rw [HN.out]; exact hcq, wild_of HSM.out, HI3.out, HG3.out⟩
    · have hkn0 : (0 : Int) < (t.kids.length : Int) := by omega
      obtain ⟨cap, hak, hib, hrS, _⟩ : ∃ cap, (Value.slice ak t.kids.length ck) = .slice (some ⟨r k, 0, none⟩) t.kids.length cap ∧ IBlk w3 (r k) cap t.kids ∧ w.heap.size ≤ r k ∧ cap ≤ maxLen := by
        rcases HKID.out with ⟨e, _⟩ | h
        · injection e with _ e _; omega
        · exact h
      injection hak with hak _ hck
      subst hak hck
      have hrp : r k ≠ p := by omega
      have hrg : g ≠ r k := fun e => HOFF.out (by rw [← e]; rfl)
      have HBL := Lib.hid (by
        have h := below1 k HI3.out.drew1
        rw [← show IntKind.i64.wrap ((k : Int) + 1) = (k : Int) + 1 by rw [IntKind.wrap_i64]; omega] at h
        exact h)
      have HIB := Lib.hid hib
      have f4d : w3.drew.cell? ⟨g, k * 5 + 4, none⟩ = some (.slice (some ⟨r k, 0, none⟩) t.kids.length ck) := f4
      obtain ⟨y0, hy0⟩ : ∃ y0, w3.cell? ⟨r k, 0, none⟩ = some (.int .i64 y0) := ⟨_, hib.at 0 (by omega)⟩
      have hlt0 := hib.lt
      have HFR := Lib.hid (hib.frozen 0)
      clear hib
      go_wp2
      go_region_law (first
        | (go_simp
           go_at_call 39
           refine HBL.out.mono ?_
           rintro e w4 ⟨x, s4, hx, rfl, I4, G4⟩
           have HB4 := Lib.hid (HIB.out.of_block (G4.block (r k) hlt0 (fun e => hrp (by injection e))))
           have HC4 := Lib.hid ((G4.block g hg3 (fun e => hgp (by injection e))).trans HCUR.out)
           have HI4 := Lib.hid I4
           have HG4 := Lib.hid G4
           have Y0 := HB4.out.at 0 (by omega)
           have Y1 := HB4.out.frozen 0
           have X4 : w4.cell? ⟨g, k * 5 + 4, none⟩ = some (.slice (some ⟨r k, 0, none⟩) t.kids.length ck) := (World.cell?_of_block (a := ⟨g, k * 5 + 4, none⟩) (HC4.out.trans HCUR.out.symm)).trans f4
           clear I4 G4))
      all_goals
        go_wp2
        go_ret
        obtain ⟨y, hy⟩ : ∃ y, y = IntKind.i64.wrap ((x : Int) - 1) := ⟨_, rfl⟩
        rw [← hy]
        have hbl : Below w.heap.size w4 (w4.setCell ⟨r k, 0, none⟩ (.int .i64 y)) := (Below.refl w.heap.size w4).setCell (p := ⟨r k, 0, none⟩) hrS _
        refine ⟨(z.map (·.1)).set k { z[k].1 with kids := t.kids.set 0 y }, some ⟨g, 0, none⟩, c, s4, by rw [List.length_set, List.length_map, hzl]; rfl, ?_, by rw [List.length_set, List.length_map, hzl]; exact hcq, by rw [HZ.out]; exact wild_set HSM.out _ (by simp; omega), HI4.out.keep hbl hpS, grown_below (grown_trans (grown_drew HG3.out) HG4.out) hbl rfl⟩
        refine bent_lies HPT.out hkz (by simp; exact lt_of_heap HC4.out) hgp _ (some ⟨r k, 0, none⟩) ck (fun j v hj hv => ?_) ?_ (IBlk.intsX (HB4.out.set 0 y) hrp) (fun i hi hik hne => ?_)
        · rw [World.cell?_setCell_other _ _ _ _ (by intro e; simp only [Addr.mk.injEq] at e; first | exact hrg e.1 | exact hrg e.1.symm)]
          exact (World.cell?_of_block (a := ⟨g, j, none⟩) (HC4.out.trans HCUR.out.symm)).trans hv
        · rw [World.cell?_setCell_other _ _ _ _ (by intro e; simp only [Addr.mk.injEq] at e; first | exact hrg e.1 | exact hrg e.1.symm), X4, List.length_set]
        · have hri := HPT.out.lt i hi
          have hrp' := (HR.out i hi hne).1
          have h1 : w4.heap[r i]? = w3.heap[r i]? := HG4.out.block (r i) hri (fun e => hrp' (by injection e))
          refine ⟨((grown_one w4 (r k) 0 _).block (r i) (Nat.lt_of_lt_of_le hri HG4.out.size) (fun e => ?_)).trans h1, hrp'⟩
          injection e with e
          rcases Nat.lt_or_ge i k with hlt | hge
          · exact HPT.out.asc i k hlt hkz e
          · exact HPT.out.asc k i (by omega) hi e.symm
  · have HOWN := Lib.hid (show w3.ownsRow w.heap.size 35 5 (.slice (some ⟨g, 0, none⟩) n c) n (fl z) by have := HPT.out.own; unfold OwnN at this; rwa [hzl] at this)
    have HIF := Lib.hid (info_parts Try.infoNode)
    have HFL := Lib.hid (show (fl z).length = n * 5 by rw [fl_len, hzl])
    have HONE := Lib.hid (fl_one z HPT.out.kid)
    have HNEWS := Lib.hid (show ∀ j u, (fl z)[j]? = some u → w3.cell? ((⟨g, 0, none⟩ : Addr).add j) = some u from HOWN.out.cells rfl)
    go_wp2_with (refine wpList_append_lies _ rfl _ _ 24 rfl w.heap.size 35 HIF.out.choose _ 5 72 Try.underlying24 HIF.out.choose_spec.1 HIF.out.choose_spec.2.1 HIF.out.choose_spec.2.2.1 HIF.out.choose_spec.2.2.2 rfl (by decide) (.slice (some ⟨g, 0, none⟩) n c) n (fl z) rfl HOWN.out ⟨g, 0, none⟩ n c (fl z) rfl HFL.out HNEWS.out HONE.out (by omega) (by unfold maxLen; omega) (by omega) HSZ.out _ rfl ?_; intro g2 c2 w6 own6 gr6 or6 lt6)
    go_ret
    have hbl : Below w.heap.size w3 w6 := (Below.refl w.heap.size w3).grown gr6 HSZ.out (fun b hb => by simp only [Value.ownBlock] at hb; injection hb with hb; omega)
    refine ⟨z.map (·.1) ++ z.map (·.1), some ⟨g2, 0, none⟩, c2, s3, by rw [List.length_append, List.length_map, hzl]; rfl, ?_, ?_, ⟨by rw [List.length_append, List.length_map, hzl]; omega, fun t ht => ?_⟩, HI3.out.keep hbl hpS, grown_below HG3.out hbl rfl⟩
    · refine twice_lies HPT.out (by rw [hzl]; exact own6) ?_ (fun i hi hne => ⟨gr6.block (r i) (HPT.out.lt i hi) (fun e => HPT.out.off i hi e.symm), (HR.out i hi hne).1⟩)
      rcases or6 with e | e
      · simp only [Value.ownBlock] at e; injection e with e; omega
      · have := HI3.out.lt; omega
    · rw [List.length_append, List.length_map, hzl]
      rcases own6.2 with ⟨h, _⟩ | ⟨g', cap', cu', h, _, _, h5, _⟩
      · cases h
      · injection h with _ _ h
        rw [h]; exact h5
    · rw [HZ.out] at ht
      have : t ∈ q := by rcases List.mem_append.1 ht with h | h <;> exact h
      have := HSM.out.2.2 t this
      omega
  · have d0 := (neF (x := (K : Int)) (c := 0) (by omega)).1
    have d1 := (neF (x := (K : Int)) (c := 1) (by omega)).1
    have d2 := (neF (x := (K : Int)) (c := 2) (by omega)).1
    have d3 := (neF (x := (K : Int)) (c := 3) (by omega)).1
    go_wp2
    go_ret
    exact ⟨q, some ⟨g, 0, none⟩, c, s3, by rw [HN.out]; rfl, HLI.out, by rw [HN.out]; exact hcq, wild_of HSM.out, HI3.out, HG3.out⟩
/-- Some nodes and a place in them or one beside them. -/
def WOut (B p : Nat) (a : Option Addr) (len cap : Nat) (zs : List Int) (w : World) (e : Ending) (w' : World) : Prop :=
  ∃ q a2 c2 i s', e = .returned (.tuple #[.slice a2 q.length c2, .int .i64 i]) ∧ -1 ≤ i ∧ i ≤ (q.length : Int) ∧ LiesX p w'.heap.size w' a2 q ∧ q.length ≤ c2 ∧ Wild q ∧ In B w' p a len cap zs s' ∧ w.grownBy w' (some p)
theorem where_ok {w : World} {s : St} (H : In B w p a len cap zs s) :
    Calls Try.prog 25 #[.pointer (some ⟨p, 0, none⟩)] w (WOut B p a len cap zs w) := by
  have HI := Lib.hid H
  have HP := H.lt
  clear H
  go_enter Try.func25, Try.ntmps25
  go_wp2_with fail
  refine (bent_ok HI.out).mono ?_
  rintro e w1 ⟨q, a2, c2, s1, rfl, hl, hc, hw, I1, G1⟩
  obtain ⟨n, hn⟩ : ∃ n, q.length = n := ⟨_, rfl⟩
  have HL := Lib.hid hl
  have HW := Lib.hid hw
  have HN := Lib.hid hn
  have HI1 := Lib.hid I1
  have HG1 := Lib.hid G1
  have hn2 := hw.1
  have hb := exact_lt zs (n + 2) s1 (by omega)
  obtain ⟨k, hk⟩ : ∃ k, ((exactG zs).bl (n + 2) s1).1 = k := ⟨_, rfl⟩
  rw [hk] at hb
  have HBL := Lib.hid (by
    have h := bl_ok (K := k) (n + 2) (by omega) hk I1
    rw [show (((n + 2 : Nat)) : Int) = (n : Int) + 2 by omega] at h
    exact h)
  rw [hn] at hc hn2 ⊢
  clear hl hw hn I1 G1 hk
  go_wp2_with fail
  refine HBL.out.mono ?_
  rintro e w2 ⟨rfl, I2, G2⟩
  have HI2 := Lib.hid I2
  have HG2 := Lib.hid G2
  have HL2 := Lib.hid (HL.out.grown HG2.out)
  clear I2 G2
  go_wp2
  refine bodyPost_ret (v := .tuple #[.slice a2 n c2, .int .i64 ((k : Int) - 1)]) (by simp [results, Try.results25, go_sem]) rfl ?_
  exact ⟨q, a2, c2, (k : Int) - 1, _, by rw [HN.out], by omega, by rw [HN.out]; omega, HL2.out, by rw [HN.out]; exact hc, HW.out, HI2.out, grown_trans HG1.out HG2.out⟩
/-- What the law is handed. -/
def POut (w : World) (e : Ending) (w' : World) : Prop :=
  ∃ q a2 c2 i, e = .returned (.tuple #[.slice a2 q.length c2, .int .i64 i]) ∧ -1 ≤ i ∧ i ≤ (q.length : Int) ∧ Lies w'.heap.size w' a2 q ∧ q.length ≤ c2 ∧ Wild q ∧ Below w.heap.size w w'
theorem part_any {w : World} (hc : Code w.heap.size w a len zs) (hl : len ≤ 1048576) :
    Calls Try.prog 8 #[.slice a len cap] w (POut w) := by
  have HC := Lib.hid hc
  clear hc
  go_enter Try.func8, Try.ntmps8
  go_wp2_with fail
  refine (new_any HC.out (Nat.le_refl _) hl).mono ?_
  rintro e w1 ⟨rfl, I1, b1⟩
  have HB1 := Lib.hid b1
  go_wp2_with fail
  refine (where_ok I1).mono ?_
  rintro e w2 ⟨q, a2, c2, i, s', rfl, h1, h2, h3, h4, h5, I2, G2⟩
  have HF := Lib.hid (And.intro h1 (And.intro h2 (And.intro h3.lies (And.intro h4 (And.intro h5 (HB1.out.trans (below_of G2 (Nat.le_refl _) HB1.out.size)))))))
  clear h1 h2 h3 h4 h5 I2 G2 I1 b1
  go_wp2
  refine bodyPost_ret (v := .tuple #[.slice a2 q.length c2, .int .i64 i]) (by simp [results, Try.results8, go_sem]) rfl ?_
  exact ⟨q, a2, c2, i, rfl, HF.out⟩
end
end Go.Proofs.Ytkijebbggcbemaa.draw
