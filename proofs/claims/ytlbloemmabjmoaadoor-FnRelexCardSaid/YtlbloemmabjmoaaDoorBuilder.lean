/-
  strings.Builder at this program's numbers: a builder of the call's own holds bytes ('Bld'); WriteByte, WriteString add to them. (The shelf's own contracts of these two do not fit this cut: its copyCheck ends in a stop where the library's has text.)
-/
import Derived.Test.YtlbloemmabjmoaaDoorRows
import Derived.Test.YtlbloemmabjmoaaDoorBase
import Derived.Test.YtlbloemmabjmoaaDoorBytes
import Derived.Test.YtlbloemmabjmoaaDoorShelf
import Derived.WalkKit
import Derived.Below
import Derived.Lib.Builder
import Derived.Lib.AppendStr
import Derived.Laws.Externs
namespace Go.Proofs.YtlbloemmabjmoaaDoor.bld
open Go.RowKit
set_option linter.unusedVariables false

theorem sizeB : (Tryd.prog.info? 54).map (·.size) = some 2 := by kernel_rfl
theorem liesB : liesAt Tryd.prog Tryd.prog.depth 54 (2 / Tryd.prog.cellsOf 54) 0 54 1 = true := by kernel_rfl

/-- The builder in block b, one of the call's own from block B on, holds the bytes l. -/
def Bld (B b : Nat) (l : List UInt8) (w : World) : Prop := Lib.IsBuilder 54 5 B b (cellsOf l) w
/-- .. and has been written. -/
def Used (B b : Nat) (bs : List Value) (w : World) : Prop := Lib.BuilderAt 54 5 B b (.pointer (some ⟨b, 0, none⟩)) bs w

/-- What a write leaves alone: blocks that were there, but for the builder's own and rows of bytes. -/
def Apart (b : Nat) (w w' : World) : Prop := ∀ k, k < w.heap.size → k ≠ b → (∀ c fr, w.heap[k]? ≠ some (.cells c 5 fr)) → w'.heap[k]? = w.heap[k]?

set_option maxRecDepth 100000 in
theorem copy_old {B b : Nat} {bs : List Value} {w : World} (h : Used B b bs w) : Calls Tryd.prog 65 #[.pointer (some ⟨b, 0, none⟩)] w fun e w' => e = .returned (.tuple #[]) ∧ w = w' := by
  obtain ⟨j, hj, _⟩ := Option.map_eq_some_iff.1 sizeB
  have c0 := h.cell0
  go_enter Tryd.func65, Tryd.ntmps65
  go_wp2
  rw [Lib.run_neq_ptr_same w _ Tryd.underlying52 hj]
  go_wp2
  go_end0
  exact ⟨rfl, rfl⟩

set_option maxRecDepth 100000 in
theorem copy_new {B b : Nat} {bs : List Value} {w : World} (h : Lib.BuilderAt 54 5 B b (.pointer none) bs w) :
    Calls Tryd.prog 65 #[.pointer (some ⟨b, 0, none⟩)] w fun e w' => e = .returned (.tuple #[]) ∧ w' = w.setCell ⟨b, 0, none⟩ (.pointer (some ⟨b, 0, none⟩)) := by
  obtain ⟨j, hj, hjs⟩ := Option.map_eq_some_iff.1 sizeB
  have c0 := h.cell0
  have f0 := h.frozen0
  have hsh := h.shape
  go_enter Tryd.func65, Tryd.ntmps65
  go_wp2
  rw [Lib.run_to_unsafe w ⟨b, 0, none⟩ Tryd.underlying52 Tryd.underlying87 hj (by rw [hjs]; decide) hsh (Nat.zero_lt_succ 1)]
  simp only [Result.andThen]
  rw [Oper.upon_value]
  go_wp2
  rw [run_callFunc_extern Tryd.func98 (by kernel_rfl) (by kernel_rfl) (by kernel_rfl) (e := Extern.AbiNoEscape.same) (by kernel_rfl), Lib.run_noEscape]
  simp only [Result.andThen]
  rw [Oper.upon_value]
  go_wp2
  rw [Lib.run_from_unsafe w ⟨b, 0, none⟩ Tryd.underlying87 Tryd.underlying52 hj hsh liesB]
  simp only [Result.andThen]
  rw [Oper.upon_value]
  go_wp2
  go_end0
  exact ⟨rfl, rfl⟩

theorem copy_any {B b : Nat} {l : List UInt8} {w : World} (h : Bld B b l w) :
    Calls Tryd.prog 65 #[.pointer (some ⟨b, 0, none⟩)] w fun e w' => e = .returned (.tuple #[]) ∧ Used B b (cellsOf l) w' ∧ Below B w w' ∧ (∀ k, k ≠ b → w'.heap[k]? = w.heap[k]?) := by
  rcases h with h | h
  · exact (copy_new h).mono fun e w' ⟨he, hw⟩ => ⟨he, by rw [hw]; exact h.used _, by rw [hw]; exact (Below.refl B w).setCell (p := ⟨b, 0, none⟩) h.1 _, fun k hk => by rw [hw]; exact Below.heap_setCell w ⟨b, 0, none⟩ _ k hk⟩
  · exact (copy_old h).mono fun e w' ⟨he, hw⟩ => ⟨he, by rw [← hw]; exact h, by rw [← hw]; exact Below.refl B w, fun k _ => by rw [← hw]⟩

theorem row_ne {w : World} {B : Nat} {v : Value} {n : Nat} {xs : List Value} {k : Nat} (h : w.ownsRow B 5 1 v n xs) (hty : ∀ c fr, w.heap[k]? ≠ some (.cells c 5 fr)) : some k ≠ v.ownBlock := by
  rcases h.2 with ⟨rfl, _⟩ | ⟨g, cap, cur, rfl, _, hg, _⟩
  · simp [Value.ownBlock]
  · intro e
    simp only [Value.ownBlock, Option.some.injEq] at e
    subst e
    exact hty _ _ hg
theorem Bld.lt {B b : Nat} {l : List UInt8} {w : World} (h : Bld B b l w) : b < w.heap.size := h.elim (fun h => h.lt) (fun h => h.lt)
theorem Bld.drewN {B b : Nat} {l : List UInt8} {w : World} (h : Bld B b l w) (n : Nat) : Bld B b l (w.drewN n) := h
theorem Bld.keep {B b B' : Nat} {l : List UInt8} {w w' : World} (h : Bld B b l w) (hb : Below B' w w') (hB : w.heap.size ≤ B') : Bld B b l w' := by
  have one : ∀ p, Lib.BuilderAt 54 5 B b p (cellsOf l) w → Lib.BuilderAt 54 5 B b p (cellsOf l) w' := by
    intro p ⟨hBb, v, hblk, hown, hne⟩
    have hlt : ∀ k o, w.heap[k]? = some o → k < w.heap.size := fun k o h => by
      rcases Nat.lt_or_ge k w.heap.size with h' | h'
      · exact h'
      · rw [Array.getElem?_eq_none h'] at h; cases h
    refine ⟨hBb, v, by rw [hb.block b (by have := hlt _ _ hblk; omega)]; exact hblk, ⟨hown.1, ?_⟩, hne⟩
    rcases hown.2 with h1 | ⟨g, cap, cur, hv, hg, hgb, r⟩
    · exact .inl h1
    · exact .inr ⟨g, cap, cur, hv, hg, by rw [hb.block g (by have := hlt _ _ hgb; omega)]; exact hgb, r⟩
  exact h.elim (fun h => .inl (one _ h)) (fun h => .inr (one _ h))

set_option maxHeartbeats 1000000 in
theorem write_byte {B b : Nat} {l : List UInt8} {w : World} (c : UInt8) (h : Bld B b l w) (hl : l.length ≤ 1073741824) (hB : B ≤ w.heap.size) :
    Calls Tryd.prog 33 #[.pointer (some ⟨b, 0, none⟩), .int .u8 (c.toNat : Int)] w fun e w' => e = .returned .nilIface ∧ Bld B b (l ++ [c]) w' ∧ Below B w w' ∧ Apart b w w' := by
  have HL := Lib.hid h
  have hc := c.toNat_lt
  clear h
  go_enter Tryd.func33, Tryd.ntmps33
  go_wp2_with fail
  refine (copy_any HL.out).mono ?_
  rintro e w1 ⟨rfl, ⟨hBb, v, hblk, hown, hne⟩, b1, hoth⟩
  rw [cellsOf_length] at hown
  have hsz := b1.size
  have hlt : b < w1.heap.size := by
    rcases Nat.lt_or_ge b w1.heap.size with h' | h'
    · exact h'
    · rw [Array.getElem?_eq_none h'] at hblk; cases hblk
  have c0 : w1.cell? ⟨b, 0, none⟩ = some (.pointer (some ⟨b, 0, none⟩)) := by rw [cell_of_row w1 b 0 _ _ _ hblk]; rfl
  have c1 : w1.cell? ⟨b, 1, none⟩ = some v := by rw [cell_of_row w1 b 1 _ _ _ hblk]; rfl
  obtain ⟨i0, hi, hz0, hz1, hz2⟩ := info_parts Tryd.infoByte
  go_wp2_with (at_builtin; refine wpList_append_own _ rfl _ _ 22 rfl B 5 i0 (.int .u8 0) 1 1 Tryd.underlying22 hi hz0 hz1 hz2 rfl (by decide) _ _ _ rfl (hown.alloc _) ⟨w1.heap.size, 0, none⟩ 1 1 [.int .u8 (c.toNat : Int)] rfl rfl ?n1 ?n2 ?n3 ?n4 ?n5 ?_)
  case n1 =>
    intro j u hj
    match j, hj with
    | 0, hj =>
      simp at hj
      subst hj
      simp [Addr.add]
  case n2 => intro u hu; simp at hu; subst hu; rfl
  case n3 => unfold maxLen; omega
  case n4 => omega
  case n5 => simp; omega
  intro v' w2 hown' hgr _
  have hblk2 : w2.heap[b]? = some (.cells #[.pointer (some ⟨b, 0, none⟩), v] 54 (0, 0)) := by
    rw [hgr.block b (by simp; omega) (fun e => hne e.symm), Below.heap_alloc w1 _ b hlt]
    exact hblk
  have d0 : w2.cell? ⟨b, 0, none⟩ = some (.pointer (some ⟨b, 0, none⟩)) := by rw [cell_of_row w2 b 0 _ _ _ hblk2]; rfl
  have d1 : w2.cell? ⟨b, 1, none⟩ = some v := by rw [cell_of_row w2 b 1 _ _ _ hblk2]; rfl
  have f1 : w2.frozen? ⟨b, 1, none⟩ = false := frozen_of_row w2 b 1 _ _ hblk2
  obtain ⟨g, cap, rfl⟩ : ∃ g cap, v' = .slice (some ⟨g, 0, none⟩) (l.length + 1) cap := by
    rcases hown'.2 with ⟨_, h0⟩ | ⟨g, cap, _, hv, _⟩
    · omega
    · exact ⟨g, cap, hv⟩
  have HO := Lib.hid hown'
  have HB2 := Lib.hid ((b1.alloc (by omega) _).grown hgr (by simp; omega) (fun k hk => (hown.lt k hk).1))
  have HAP := Lib.hid (show ∀ u, Apart b w (w2.setCell ⟨b, 1, none⟩ u) from fun u k hk hkb hty => by
    rw [Below.heap_setCell w2 ⟨b, 1, none⟩ u k hkb, hgr.block k (by simp; omega) (row_ne hown (by rw [hoth k hkb]; exact hty)), Below.heap_alloc w1 _ k (by omega), hoth k hkb])
  clear hown' hown
  go_wp2
  go_ret
  refine ⟨rfl, .inr ?_, HB2.out.setCell (p := ⟨b, 1, none⟩) hBb _, HAP.out _⟩
  rw [cellsOf_snoc]
  exact Lib.BuilderAt.put hBb hblk2 (by rw [List.length_append, cellsOf_length]; exact HO.out) (by decide)

set_option maxHeartbeats 1000000 in
theorem write_string {B b : Nat} {l : List UInt8} {w : World} (s : ByteArray) (h : Bld B b l w) (hl : l.length + s.size ≤ 1073741824) (hB : B ≤ w.heap.size) :
    Calls Tryd.prog 34 #[.pointer (some ⟨b, 0, none⟩), .string s] w fun e w' => e = .returned (.tuple #[.int .i64 s.size, .nilIface]) ∧ Bld B b (l ++ s.data.toList) w' ∧ Below B w w' ∧ Apart b w w' := by
  have HL := Lib.hid h
  clear h
  go_enter Tryd.func34, Tryd.ntmps34
  go_wp2_with fail
  refine (copy_any HL.out).mono ?_
  rintro e w1 ⟨rfl, ⟨hBb, v, hblk, hown, hne⟩, b1, hoth⟩
  rw [cellsOf_length] at hown
  have hsz := b1.size
  have hlt : b < w1.heap.size := by
    rcases Nat.lt_or_ge b w1.heap.size with h' | h'
    · exact h'
    · rw [Array.getElem?_eq_none h'] at hblk; cases hblk
  have c0 : w1.cell? ⟨b, 0, none⟩ = some (.pointer (some ⟨b, 0, none⟩)) := by rw [cell_of_row w1 b 0 _ _ _ hblk]; rfl
  have c1 : w1.cell? ⟨b, 1, none⟩ = some v := by rw [cell_of_row w1 b 1 _ _ _ hblk]; rfl
  obtain ⟨i0, hi, hz0, hz1, hz2⟩ := info_parts Tryd.infoByte
  go_wp2_with (at_builtin; refine Lib.wpList_append_own_string _ rfl _ _ 22 9 rfl B 5 i0 Tryd.underlying22 Tryd.underlying9 hi hz0 hz1 hz2 _ _ _ rfl hown s rfl ?n3 ?n4 ?n5 ?_)
  case n3 => unfold maxLen; omega
  case n4 => omega
  case n5 => omega
  intro v' w2 hown' hgr _
  have hblk2 : w2.heap[b]? = some (.cells #[.pointer (some ⟨b, 0, none⟩), v] 54 (0, 0)) := by
    rw [hgr.block b hlt (fun e => hne e.symm)]
    exact hblk
  have d0 : w2.cell? ⟨b, 0, none⟩ = some (.pointer (some ⟨b, 0, none⟩)) := by rw [cell_of_row w2 b 0 _ _ _ hblk2]; rfl
  have d1 : w2.cell? ⟨b, 1, none⟩ = some v := by rw [cell_of_row w2 b 1 _ _ _ hblk2]; rfl
  have f1 : w2.frozen? ⟨b, 1, none⟩ = false := frozen_of_row w2 b 1 _ _ hblk2
  obtain ⟨ao, n', cap, rfl⟩ : ∃ ao n' cap, v' = .slice ao n' cap := by
    rcases hown'.2 with ⟨hv, _⟩ | ⟨g, cap, _, hv, _⟩
    · exact ⟨_, _, _, hv⟩
    · exact ⟨_, _, _, hv⟩
  have HO := Lib.hid hown'
  have HB2 := Lib.hid (b1.grown hgr (by omega) (fun k hk => (hown.lt k hk).1))
  have HAP := Lib.hid (show ∀ u, Apart b w (w2.setCell ⟨b, 1, none⟩ u) from fun u k hk hkb hty => by
    rw [Below.heap_setCell w2 ⟨b, 1, none⟩ u k hkb, hgr.block k (by omega) (row_ne hown (by rw [hoth k hkb]; exact hty)), hoth k hkb])
  clear hown' hown
  go_wp2
  go_ret2
  refine ⟨rfl, .inr ?_, HB2.out.setCell (p := ⟨b, 1, none⟩) hBb _, HAP.out _⟩
  have e : cellsOf (l ++ s.data.toList) = cellsOf l ++ Lib.strCells s := by unfold cellsOf; rw [List.map_append]; rfl
  rw [e]
  exact Lib.BuilderAt.put hBb hblk2 (by rw [List.length_append, cellsOf_length, Lib.strCells_length]; exact HO.out) (by decide)

theorem string_any {B b : Nat} {l : List UInt8} {w : World} (h : Bld B b l w) (hB : B ≤ w.heap.size) :
    Calls Tryd.prog 35 #[.pointer (some ⟨b, 0, none⟩)] w fun e w' => e = .returned (.string ⟨l.toArray⟩) ∧ Below B w w' :=
  Tryd.Builder_String_any B b l w h hB
theorem fresh (w : World) : Bld w.heap.size w.heap.size [] (w.alloc (.cells #[.pointer none, .slice none 0 0] 54)) := Lib.fresh_isBuilder _ _ w
end Go.Proofs.YtlbloemmabjmoaaDoor.bld
