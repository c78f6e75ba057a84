/-
  A slice of laws.Node that came in, as a list of nodes ('open_nodes').
-/
import Derived.Test.YtckeepjfbpphaaaGreatDoorNd
import Derived.Lib.SmallJoins
namespace Go.Proofs.YtckeepjfbpphaaaGreatDoor.nd
open Go.ChangeShapes Go.WideShapes Go.ChangeAt Go.RowKit Go.Deep
set_option linter.unusedVariables false
set_option maxRecDepth 20000

theorem cellsNode : Tryz.prog.cellsOf 33 = 5 := by kernel_rfl
theorem cellsInt : Tryz.prog.cellsOf 3 = 1 := by kernel_rfl
theorem cellsStr : Tryz.prog.cellsOf 9 = 1 := by kernel_rfl
theorem cellsInts : Tryz.prog.cellsOf 31 = 1 := by kernel_rfl

theorem addr_plain (b o j : Nat) : (⟨b, o, none⟩ : Addr).add j = ⟨b, o + j, none⟩ := by
  simp only [Addr.add]
  split
  · next h0 => subst h0; rfl
  · rfl

section
variable {H : Type} {enc : TypeId × Value → H} {P : Program} {w : World} {base : Nat} {spare : Nat → Bool} {held : Bool}
theorem trod_struct5 {t : TypeId} {f0 f1 f2 f3 f4 : Field} {fuel : Nat} {cs : List Value} {x : DataW H × List MemPlace} (ht : P.underlying t = some (.struct #[f0, f1, f2, f3, f4])) (h : DataW.trod enc P w base spare held fuel t cs = some x) :
    ∃ y0 y1 y2 y3 y4 n, cs.length = P.cellsOf t ∧ DataW.trod enc P w base spare held n f0.type ((cs.drop f0.offset).take (P.cellsOf f0.type)) = some y0 ∧
      DataW.trod enc P w base spare held n f1.type ((cs.drop f1.offset).take (P.cellsOf f1.type)) = some y1 ∧ DataW.trod enc P w base spare held n f2.type ((cs.drop f2.offset).take (P.cellsOf f2.type)) = some y2 ∧
      DataW.trod enc P w base spare held n f3.type ((cs.drop f3.offset).take (P.cellsOf f3.type)) = some y3 ∧ DataW.trod enc P w base spare held n f4.type ((cs.drop f4.offset).take (P.cellsOf f4.type)) = some y4 := by
  obtain ⟨xs, n, _, rfl, hl, hlen, hf⟩ := DataW.trod_struct ht h
  match xs, hlen with
  | [y0, y1, y2, y3, y4], _ => exact ⟨y0, y1, y2, y3, y4, n, hl, by simpa using hf 0 f0 rfl, by simpa using hf 1 f1 rfl, by simpa using hf 2 f2 rfl, by simpa using hf 3 f3 rfl, by simpa using hf 4 f4 rfl⟩
end

theorem open_row {H : Type} {enc : TypeId × Value → H} {W : World} {fuel : Nat} {v : Value} {x : DataW H × List MemPlace} (hf : DataW.trod enc Tryz.prog W 0 (fun _ => true) true fuel 31 [v] = some x) :
    ∃ (a : Option Addr) (cap : Nat) (l : List Int), v = .slice a l.length cap ∧ l.length ≤ maxLen ∧ Ints W.heap.size W a l := by
  rcases open_slice1 Tryz.underlying31 cellsInt hf with ⟨hcs, _⟩ | ⟨x, len, cap, m, n, V, D, Pl, hcs, _, hl, hm, hmm, _, hx⟩
  · simp at hcs
    exact ⟨none, 0, [], hcs, by simp, .inl rfl⟩
  · simp at hcs
    have hlm : len ≤ m := by rw [hmm]; simp; exact hl
    have each : ∀ i, i < len → ∃ z : Int, W.cell? (x.add i) = some (.int .i64 z) := by
      intro i hi
      obtain ⟨h1, h2⟩ := hx i (by omega)
      obtain ⟨z0, e0, _, _⟩ := DataW.trod_int Tryz.underlying3 h2
      simp at e0
      exact ⟨z0, by rw [h1, e0]⟩
    obtain ⟨f, hf'⟩ := choose_lt each
    refine ⟨some x, cap, (List.range len).map f, by simpa using hcs, by simp; omega, ?_⟩
    by_cases h0 : len = 0
    · exact .inl (by simp [h0])
    · refine .inr ?_
      obtain ⟨b, o, sp⟩ := x
      have c0 := hf' 0 (by omega)
      have hsp : sp = none := by simpa [Addr.add] using World.cell?_spot c0
      subst hsp
      refine ⟨b, o, rfl, ?_, ?_⟩
      · rw [addr_plain] at c0
        exact World.block_lt_of_cell? W _ c0
      · intro i hi
        simp at hi
        have d0 := hf' i hi
        rw [addr_plain] at d0
        simp only [List.getElem_map, List.getElem_range]
        exact d0

theorem open_nodes {H : Type} {enc : TypeId × Value → H} {W : World} {base : Nat} {v : Value} {d : DataW H} {p : List MemPlace} (hv : Value.okWide Tryz.prog W .any base 22 v)
    (h : DataW.Trod enc Tryz.prog W 0 (fun _ => true) true 22 v d p) :
    ∃ (a : Option Addr) (cap : Nat) (l : List Nd), v = .slice a l.length cap ∧ l.length ≤ maxLen ∧ Lies W.heap.size W a l ∧ ∀ t ∈ l, t.fit := by
  obtain ⟨a, len, cap, rfl⟩ := okWide_slice Tryz.underlying22 hv
  obtain ⟨fuel, hf⟩ := h
  rcases open_slice Tryz.underlying22 hf with ⟨hcs, _⟩ | ⟨x, n, c, m, k, D, Pl, hcs, _, hl, hm, hmm, _, hx⟩
  · simp [Value.cells] at hcs
    obtain ⟨rfl, rfl, rfl⟩ := hcs
    exact ⟨none, 0, [], rfl, by simp, .inl rfl, by simp⟩
  · simp [Value.cells] at hcs
    obtain ⟨rfl, rfl, rfl⟩ := hcs
    rw [cellsNode] at hx
    have hlm : len ≤ m := by rw [hmm]; simp; exact hl
    have each : ∀ i, i < len → ∃ t : Nd, (W.cell? (x.add (i * 5)) = some (.int .i64 t.k) ∧ W.cell? (x.add (i * 5 + 1)) = some (.int .i64 t.op) ∧ W.cell? (x.add (i * 5 + 2)) = some (.string t.s) ∧ W.cell? (x.add (i * 5 + 3)) = some (.string t.t) ∧ ∃ a cap, W.cell? (x.add (i * 5 + 4)) = some (.slice a t.kids.length cap) ∧ Ints W.heap.size W a t.kids) ∧ t.fit := by
      intro i hi
      obtain ⟨cs', h1, h2⟩ := hx i (by omega)
      obtain ⟨_, hlen, hcell⟩ := World.cells?_some h1
      obtain ⟨y0, y1, y2, y3, y4, q, _, g0, g1, g2, g3, g4⟩ := trod_struct5 Tryz.underlying33 h2
      match cs', hlen with
      | [v0, v1, v2, v3, v4], _ =>
        simp [cellsInt, cellsStr, cellsInts] at g0 g1 g2 g3 g4
        obtain ⟨z0, e0, _, _⟩ := DataW.trod_int Tryz.underlying3 g0
        obtain ⟨z1, e1, _, _⟩ := DataW.trod_int Tryz.underlying3 g1
        obtain ⟨z2, e2, _, w2⟩ := DataW.trod_string Tryz.underlying9 g2
        obtain ⟨z3, e3, _, w3⟩ := DataW.trod_string Tryz.underlying9 g3
        obtain ⟨a4, c4, z4, e4, w4, i4⟩ := open_row g4
        simp at e0 e1 e2 e3
        subst e0 e1 e2 e3 e4
        have c0 := hcell 0 (by omega)
        have c1 := hcell 1 (by omega)
        have c2 := hcell 2 (by omega)
        have c3 := hcell 3 (by omega)
        have c4' := hcell 4 (by omega)
        rw [add_add] at c0 c1 c2 c3 c4'
        exact ⟨⟨z0, z1, z2, z3, z4⟩, ⟨by simpa using c0, by simpa using c1, by simpa using c2, by simpa using c3, a4, c4, by simpa using c4', i4⟩, w2, w3, w4⟩
    obtain ⟨f, hf'⟩ := choose_lt each
    refine ⟨some x, cap, (List.range len).map f, by simp, by simp; omega, ?_, ?_⟩
    · by_cases h0 : len = 0
      · exact .inl (by simp [h0])
      · refine .inr ?_
        obtain ⟨b, o, sp⟩ := x
        have c0 := (hf' 0 (by omega)).1.1
        have hsp : sp = none := by simpa [Addr.add] using World.cell?_spot c0
        subst hsp
        refine ⟨b, o, rfl, ?_, ?_⟩
        · rw [addr_plain] at c0
          exact World.block_lt_of_cell? W _ c0
        · intro i hi
          simp at hi
          obtain ⟨⟨d0, d1, d2, d3, a4, c4, d4, i4⟩, _⟩ := hf' i hi
          rw [addr_plain] at d0 d1 d2 d3 d4
          simp only [List.getElem_map, List.getElem_range]
          exact ⟨a4, c4, ⟨d0, d1, d2, d3, d4⟩, i4⟩
    · intro t ht
      obtain ⟨i, hi, rfl⟩ := List.mem_map.1 ht
      exact (hf' i (by simpa using hi)).2

theorem array5 {α : Type} {cs : Array α} (h : cs.size = 5) : ∃ c0 c1 c2 c3 c4, cs = #[c0, c1, c2, c3, c4] := by
  obtain ⟨l⟩ := cs
  match l, h with
  | [c0, c1, c2, c3, c4], _ => exact ⟨c0, c1, c2, c3, c4, rfl⟩
theorem open_node {H : Type} {enc : TypeId × Value → H} {W : World} {base : Nat} {v : Value} {d : DataW H} {p : List MemPlace} (hv : Value.okWide Tryz.prog W .any base 33 v)
    (h : DataW.Trod enc Tryz.prog W 0 (fun _ => true) true 33 v d p) :
    ∃ (t : Nd) (a : Option Addr) (cap : Nat), v = .agg #[.int .i64 t.k, .int .i64 t.op, .string t.s, .string t.t, .slice a t.kids.length cap] ∧ t.fit ∧ Ints W.heap.size W a t.kids := by
  obtain ⟨cs, rfl, hsz⟩ := okWide_struct Tryz.underlying33 hv
  obtain ⟨v0, v1, v2, v3, v4, rfl⟩ := array5 (hsz.trans cellsNode)
  obtain ⟨fuel, hf⟩ := h
  obtain ⟨y0, y1, y2, y3, y4, q, _, g0, g1, g2, g3, g4⟩ := trod_struct5 Tryz.underlying33 hf
  simp [cellsInt, cellsStr, cellsInts, Value.cells] at g0 g1 g2 g3 g4
  obtain ⟨z0, e0, _, _⟩ := DataW.trod_int Tryz.underlying3 g0
  obtain ⟨z1, e1, _, _⟩ := DataW.trod_int Tryz.underlying3 g1
  obtain ⟨z2, e2, _, w2⟩ := DataW.trod_string Tryz.underlying9 g2
  obtain ⟨z3, e3, _, w3⟩ := DataW.trod_string Tryz.underlying9 g3
  obtain ⟨a4, c4, z4, e4, w4, i4⟩ := open_row g4
  simp at e0 e1 e2 e3
  subst e0 e1 e2 e3 e4
  exact ⟨⟨z0, z1, z2, z3, z4⟩, a4, c4, rfl, ⟨w2, w3, w4⟩, i4⟩

theorem places_lt {H : Type} {enc : TypeId × Value → H} {W : World} {t : TypeId} {v : Value} {d : DataW H} {p : List MemPlace} (h : DataW.Trod enc Tryz.prog W 0 (fun _ => true) true t v d p) : ∀ x ∈ p, x.block < W.heap.size := by
  obtain ⟨m, hm⟩ := h
  exact DataW.trod_lt m _ _ _ hm
end Go.Proofs.YtckeepjfbpphaaaGreatDoor.nd
