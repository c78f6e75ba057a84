/-
  spec.l10Node: nodes without kids, names with lists, nodes with sides: contracts.
  spec.l10Node: a sign or $ ahead, assignments: contracts.
  spec.l10Node: in: contracts.
-/
import Derived.Test.YtdikohegclooiaaGreatDoorGB
namespace Go.Proofs.YtdikohegclooiaaGreatDoor.st
open Go.ChangeShapes Go.WideShapes Go.ChangeAt Go.RowKit
open tk (Tk)
open nd (Nd Ints)
open ps (Ps posOk kidI top)
open spell (Held)
open et
set_option linter.unusedVariables false
set_option linter.unusedSimpArgs false
set_option maxRecDepth 20000

set_option maxHeartbeats 3200000 in
theorem node_name {l : List Nd} {a : Option Addr} {m cap : Nat} {fl : Bool} {i : Nat} {E U : Nat → Ps → List Tk} (n : Nd) (hc : n.k = 1) (hm : m = l.length) (hmx : m ≤ 1048576) (hi : i < m) (hn : l.getD i default = n) (hGG : ∀ p : Ps, posOk p.l p.d = true → Gis l a m cap fl i n p E U) : CallS 38 l a m cap fl i (fun q => body E U n q) := by
  intro p hq w hL
  show Calls Tryz.prog 38 _ w (Out (body E U n p) w)
  have hG := hGG p hq
  have hil : i < l.length := hm ▸ hi
  rw [getD_at hil] at hn
  have hLL := hL
  obtain ⟨bl, ol, rfl, hbl, hnode⟩ := nd.lies_at hL hil
  obtain ⟨ak, ck, h5, hi0⟩ := hnode i hil
  rw [hn] at h5 hi0
  have hi := hi0
  obtain ⟨hh0, hh1, hh2, hw0, hs0⟩ := three w (.cells #[.slice (some ⟨bl, ol, none⟩) m cap, .bool fl] 48) (.cells #[.int .i64 p.l, .bool p.d, .bool p.i, .bool p.g, .bool p.s] 30) (.cells #[.int .i64 n.k, .int .i64 n.op, .string n.s, .string n.t, .slice ak n.kids.length ck] 45)
  have HY1 := Lib.hid (show ∀ W, Below (((w.alloc (.cells #[.slice (some ⟨bl, ol, none⟩) m cap, .bool fl] 48)).alloc (.cells #[.int .i64 p.l, .bool p.d, .bool p.i, .bool p.g, .bool p.s] 30)).alloc (.cells #[.int .i64 n.k, .int .i64 n.op, .string n.s, .string n.t, .slice ak n.kids.length ck] 45)).heap.size (((w.alloc (.cells #[.slice (some ⟨bl, ol, none⟩) m cap, .bool fl] 48)).alloc (.cells #[.int .i64 p.l, .bool p.d, .bool p.i, .bool p.g, .bool p.s] 30)).alloc (.cells #[.int .i64 n.k, .int .i64 n.op, .string n.s, .string n.t, .slice ak n.kids.length ck] 45)) W → W.cell? ⟨w.heap.size, 0, none⟩ = some (.slice (some ⟨bl, ol, none⟩) m cap) ∧ W.cell? ⟨w.heap.size, 1, none⟩ = some (.bool fl) ∧ W.cell? ⟨(w.heap.size + 1), 0, none⟩ = some (.int .i64 p.l) ∧ W.cell? ⟨(w.heap.size + 1), 1, none⟩ = some (.bool p.d) ∧ W.cell? ⟨(w.heap.size + 1), 2, none⟩ = some (.bool p.i) ∧ W.cell? ⟨(w.heap.size + 1), 3, none⟩ = some (.bool p.g) ∧ W.cell? ⟨(w.heap.size + 1), 4, none⟩ = some (.bool p.s) ∧ W.cell? ⟨(w.heap.size + 1 + 1), 0, none⟩ = some (.int .i64 n.k) ∧ W.cell? ⟨(w.heap.size + 1 + 1), 1, none⟩ = some (.int .i64 n.op) ∧ W.cell? ⟨(w.heap.size + 1 + 1), 2, none⟩ = some (.string n.s) ∧ W.cell? ⟨(w.heap.size + 1 + 1), 3, none⟩ = some (.string n.t) ∧ W.cell? ⟨(w.heap.size + 1 + 1), 4, none⟩ = some (.slice ak n.kids.length ck) from fun W hb => by
    have hh0 := (hb.block w.heap.size (by omega)).trans hh0
    have hh1 := (hb.block (w.heap.size + 1) (by omega)).trans hh1
    have hh2 := (hb.block (w.heap.size + 1 + 1) (by omega)).trans hh2
    exact ⟨by rw [cell_of_row _ _ 0 _ _ _ (hh0)]; rfl, by rw [cell_of_row _ _ 1 _ _ _ (hh0)]; rfl, by rw [cell_of_row _ _ 0 _ _ _ (hh1)]; rfl, by rw [cell_of_row _ _ 1 _ _ _ (hh1)]; rfl, by rw [cell_of_row _ _ 2 _ _ _ (hh1)]; rfl, by rw [cell_of_row _ _ 3 _ _ _ (hh1)]; rfl, by rw [cell_of_row _ _ 4 _ _ _ (hh1)]; rfl, by rw [cell_of_row _ _ 0 _ _ _ (hh2)]; rfl, by rw [cell_of_row _ _ 1 _ _ _ (hh2)]; rfl, by rw [cell_of_row _ _ 2 _ _ _ (hh2)]; rfl, by rw [cell_of_row _ _ 3 _ _ _ (hh2)]; rfl, by rw [cell_of_row _ _ 4 _ _ _ (hh2)]; rfl⟩)
  have HW1 := Lib.hid hw0
  have HL1 := Lib.hid (hLL.on hw0 (Nat.le_refl _))
  have h5a := h5.keep (show Below w.heap.size w (w.alloc (.cells #[.slice (some ⟨bl, ol, none⟩) m cap, .bool fl] 48)) from (Below.refl _ _).alloc (Nat.le_refl _) _) hbl
  have h5b := h5a.keep (show Below w.heap.size (w.alloc (.cells #[.slice (some ⟨bl, ol, none⟩) m cap, .bool fl] 48)) ((w.alloc (.cells #[.slice (some ⟨bl, ol, none⟩) m cap, .bool fl] 48)).alloc (.cells #[.int .i64 p.l, .bool p.d, .bool p.i, .bool p.g, .bool p.s] 30)) from (Below.refl _ _).alloc (by simp) _) hbl
  obtain ⟨y0, y1, y2, y3, y4⟩ := h5b
  have HLK := Lib.hid (show leafK n = 6 by simp [leafK, hc])
  have hii1 : (0 : Int) ≤ (i : Int) := by omega
  have hii2 : (i : Int) < (m : Int) := by omega
  obtain ⟨x5, x5'⟩ := rt.ne_facts (show ¬ n.k = 5 by omega)
  obtain ⟨x7, x7'⟩ := rt.ne_facts (show ¬ n.k = 7 by omega)
  obtain ⟨x8, x8'⟩ := rt.ne_facts (show ¬ n.k = 8 by omega)
  obtain ⟨x9, x9'⟩ := rt.ne_facts (show ¬ n.k = 9 by omega)
  obtain ⟨x10, x10'⟩ := rt.ne_facts (show ¬ n.k = 10 by omega)
  obtain ⟨x15, x15'⟩ := rt.ne_facts (show ¬ n.k = 15 by omega)
  obtain ⟨x6, x6'⟩ := rt.ne_facts (show ¬ n.k = 6 by omega)
  obtain ⟨x11, x11'⟩ := rt.ne_facts (show ¬ n.k = 11 by omega)
  obtain ⟨x13, x13'⟩ := rt.ne_facts (show ¬ n.k = 13 by omega)
  have HGG := Lib.hid hG
  have HBODY : body E U n p = [nam 6 n.s] := by rw [body_1 hc]
  rw [HBODY]
  clear hm hL hLL hi hi0 hG hGG hh0 hh1 hh2 hw0 hs0 h5 h5a hnode hn hil    
  have HC := Lib.hid hc
  clear hc
  go_enter Tryz.func38, Tryz.ntmps38
  go_wp2_with fail
  refine (spec_leaf n ak ck _).mono ?_
  rw [HLK.out]
  rintro e w2 ⟨rfl, b2⟩
  clear y0 y1 y2 y3 y4
  have HW0 := Lib.hid (show Below w.heap.size w (w2.alloc (.cells #[.int .i64 6, .string (leafS n), .int .i64 0] 56)) from (HW1.out.trans (b2.mono HW1.out.size)).alloc (Nat.le_trans HW1.out.size b2.size) _)
  have HL := Lib.hid (HL1.out.on (show Below (((w.alloc (.cells #[.slice (some ⟨bl, ol, none⟩) m cap, .bool fl] 48)).alloc (.cells #[.int .i64 p.l, .bool p.d, .bool p.i, .bool p.g, .bool p.s] 30)).alloc (.cells #[.int .i64 n.k, .int .i64 n.op, .string n.s, .string n.t, .slice ak n.kids.length ck] 45)).heap.size (((w.alloc (.cells #[.slice (some ⟨bl, ol, none⟩) m cap, .bool fl] 48)).alloc (.cells #[.int .i64 p.l, .bool p.d, .bool p.i, .bool p.g, .bool p.s] 30)).alloc (.cells #[.int .i64 n.k, .int .i64 n.op, .string n.s, .string n.t, .slice ak n.kids.length ck] 45)) (w2.alloc (.cells #[.int .i64 6, .string (leafS n), .int .i64 0] 56)) from b2.alloc b2.size _) (Nat.le_refl _))
  have HY := Lib.hid (show ∀ W, Below (w2.alloc (.cells #[.int .i64 6, .string (leafS n), .int .i64 0] 56)).heap.size (w2.alloc (.cells #[.int .i64 6, .string (leafS n), .int .i64 0] 56)) W → W.cell? ⟨w.heap.size, 0, none⟩ = some (.slice (some ⟨bl, ol, none⟩) m cap) ∧ W.cell? ⟨w.heap.size, 1, none⟩ = some (.bool fl) ∧ W.cell? ⟨(w.heap.size + 1), 0, none⟩ = some (.int .i64 p.l) ∧ W.cell? ⟨(w.heap.size + 1), 1, none⟩ = some (.bool p.d) ∧ W.cell? ⟨(w.heap.size + 1), 2, none⟩ = some (.bool p.i) ∧ W.cell? ⟨(w.heap.size + 1), 3, none⟩ = some (.bool p.g) ∧ W.cell? ⟨(w.heap.size + 1), 4, none⟩ = some (.bool p.s) ∧ W.cell? ⟨(w.heap.size + 1 + 1), 0, none⟩ = some (.int .i64 n.k) ∧ W.cell? ⟨(w.heap.size + 1 + 1), 1, none⟩ = some (.int .i64 n.op) ∧ W.cell? ⟨(w.heap.size + 1 + 1), 2, none⟩ = some (.string n.s) ∧ W.cell? ⟨(w.heap.size + 1 + 1), 3, none⟩ = some (.string n.t) ∧ W.cell? ⟨(w.heap.size + 1 + 1), 4, none⟩ = some (.slice ak n.kids.length ck) from fun W hb => HY1.out W ((b2.alloc b2.size _).trans (hb.mono (b2.alloc b2.size _).size)))
  obtain ⟨f0, f1, f2, f3, f4, f5, f6, f7, f8, f9, f10, f11⟩ := HY.out _ (Below.refl _ _)
  have HS2 := Lib.hid (show leafS n = n.s by unfold leafS; rw [if_pos (by have := HC.out; omega)])
  go_wp2
  go_ret
  refine ⟨_, rfl, HW0.out.alloc HW0.out.size _, ?_⟩
  have := lit1 (B := w.heap.size) (w2.alloc (.cells #[.int .i64 6, .string (leafS n), .int .i64 0] 56)) ⟨6, leafS n, 0⟩ HW0.out.size
  rw [HS2.out] at this ⊢
  first | exact this | simpa [nam] using this

set_option maxHeartbeats 3200000 in
theorem node_num {l : List Nd} {a : Option Addr} {m cap : Nat} {fl : Bool} {i : Nat} {E U : Nat → Ps → List Tk} (n : Nd) (hc : n.k = 2) (hm : m = l.length) (hmx : m ≤ 1048576) (hi : i < m) (hn : l.getD i default = n) (hGG : ∀ p : Ps, posOk p.l p.d = true → Gis l a m cap fl i n p E U) : CallS 38 l a m cap fl i (fun q => body E U n q) := by
  intro p hq w hL
  show Calls Tryz.prog 38 _ w (Out (body E U n p) w)
  have hG := hGG p hq
  have hil : i < l.length := hm ▸ hi
  rw [getD_at hil] at hn
  have hLL := hL
  obtain ⟨bl, ol, rfl, hbl, hnode⟩ := nd.lies_at hL hil
  obtain ⟨ak, ck, h5, hi0⟩ := hnode i hil
  rw [hn] at h5 hi0
  have hi := hi0
  obtain ⟨hh0, hh1, hh2, hw0, hs0⟩ := three w (.cells #[.slice (some ⟨bl, ol, none⟩) m cap, .bool fl] 48) (.cells #[.int .i64 p.l, .bool p.d, .bool p.i, .bool p.g, .bool p.s] 30) (.cells #[.int .i64 n.k, .int .i64 n.op, .string n.s, .string n.t, .slice ak n.kids.length ck] 45)
  have HY1 := Lib.hid (show ∀ W, Below (((w.alloc (.cells #[.slice (some ⟨bl, ol, none⟩) m cap, .bool fl] 48)).alloc (.cells #[.int .i64 p.l, .bool p.d, .bool p.i, .bool p.g, .bool p.s] 30)).alloc (.cells #[.int .i64 n.k, .int .i64 n.op, .string n.s, .string n.t, .slice ak n.kids.length ck] 45)).heap.size (((w.alloc (.cells #[.slice (some ⟨bl, ol, none⟩) m cap, .bool fl] 48)).alloc (.cells #[.int .i64 p.l, .bool p.d, .bool p.i, .bool p.g, .bool p.s] 30)).alloc (.cells #[.int .i64 n.k, .int .i64 n.op, .string n.s, .string n.t, .slice ak n.kids.length ck] 45)) W → W.cell? ⟨w.heap.size, 0, none⟩ = some (.slice (some ⟨bl, ol, none⟩) m cap) ∧ W.cell? ⟨w.heap.size, 1, none⟩ = some (.bool fl) ∧ W.cell? ⟨(w.heap.size + 1), 0, none⟩ = some (.int .i64 p.l) ∧ W.cell? ⟨(w.heap.size + 1), 1, none⟩ = some (.bool p.d) ∧ W.cell? ⟨(w.heap.size + 1), 2, none⟩ = some (.bool p.i) ∧ W.cell? ⟨(w.heap.size + 1), 3, none⟩ = some (.bool p.g) ∧ W.cell? ⟨(w.heap.size + 1), 4, none⟩ = some (.bool p.s) ∧ W.cell? ⟨(w.heap.size + 1 + 1), 0, none⟩ = some (.int .i64 n.k) ∧ W.cell? ⟨(w.heap.size + 1 + 1), 1, none⟩ = some (.int .i64 n.op) ∧ W.cell? ⟨(w.heap.size + 1 + 1), 2, none⟩ = some (.string n.s) ∧ W.cell? ⟨(w.heap.size + 1 + 1), 3, none⟩ = some (.string n.t) ∧ W.cell? ⟨(w.heap.size + 1 + 1), 4, none⟩ = some (.slice ak n.kids.length ck) from fun W hb => by
    have hh0 := (hb.block w.heap.size (by omega)).trans hh0
    have hh1 := (hb.block (w.heap.size + 1) (by omega)).trans hh1
    have hh2 := (hb.block (w.heap.size + 1 + 1) (by omega)).trans hh2
    exact ⟨by rw [cell_of_row _ _ 0 _ _ _ (hh0)]; rfl, by rw [cell_of_row _ _ 1 _ _ _ (hh0)]; rfl, by rw [cell_of_row _ _ 0 _ _ _ (hh1)]; rfl, by rw [cell_of_row _ _ 1 _ _ _ (hh1)]; rfl, by rw [cell_of_row _ _ 2 _ _ _ (hh1)]; rfl, by rw [cell_of_row _ _ 3 _ _ _ (hh1)]; rfl, by rw [cell_of_row _ _ 4 _ _ _ (hh1)]; rfl, by rw [cell_of_row _ _ 0 _ _ _ (hh2)]; rfl, by rw [cell_of_row _ _ 1 _ _ _ (hh2)]; rfl, by rw [cell_of_row _ _ 2 _ _ _ (hh2)]; rfl, by rw [cell_of_row _ _ 3 _ _ _ (hh2)]; rfl, by rw [cell_of_row _ _ 4 _ _ _ (hh2)]; rfl⟩)
  have HW1 := Lib.hid hw0
  have HL1 := Lib.hid (hLL.on hw0 (Nat.le_refl _))
  have h5a := h5.keep (show Below w.heap.size w (w.alloc (.cells #[.slice (some ⟨bl, ol, none⟩) m cap, .bool fl] 48)) from (Below.refl _ _).alloc (Nat.le_refl _) _) hbl
  have h5b := h5a.keep (show Below w.heap.size (w.alloc (.cells #[.slice (some ⟨bl, ol, none⟩) m cap, .bool fl] 48)) ((w.alloc (.cells #[.slice (some ⟨bl, ol, none⟩) m cap, .bool fl] 48)).alloc (.cells #[.int .i64 p.l, .bool p.d, .bool p.i, .bool p.g, .bool p.s] 30)) from (Below.refl _ _).alloc (by simp) _) hbl
  obtain ⟨y0, y1, y2, y3, y4⟩ := h5b
  have HLK := Lib.hid (show leafK n = 3 by simp [leafK, hc])
  have hii1 : (0 : Int) ≤ (i : Int) := by omega
  have hii2 : (i : Int) < (m : Int) := by omega
  obtain ⟨x5, x5'⟩ := rt.ne_facts (show ¬ n.k = 5 by omega)
  obtain ⟨x7, x7'⟩ := rt.ne_facts (show ¬ n.k = 7 by omega)
  obtain ⟨x8, x8'⟩ := rt.ne_facts (show ¬ n.k = 8 by omega)
  obtain ⟨x9, x9'⟩ := rt.ne_facts (show ¬ n.k = 9 by omega)
  obtain ⟨x10, x10'⟩ := rt.ne_facts (show ¬ n.k = 10 by omega)
  obtain ⟨x15, x15'⟩ := rt.ne_facts (show ¬ n.k = 15 by omega)
  obtain ⟨x6, x6'⟩ := rt.ne_facts (show ¬ n.k = 6 by omega)
  obtain ⟨x11, x11'⟩ := rt.ne_facts (show ¬ n.k = 11 by omega)
  obtain ⟨x13, x13'⟩ := rt.ne_facts (show ¬ n.k = 13 by omega)
  have HGG := Lib.hid hG
  have HBODY : body E U n p = [nam 3 n.s] := by rw [body_2 hc]
  rw [HBODY]
  clear hm hL hLL hi hi0 hG hGG hh0 hh1 hh2 hw0 hs0 h5 h5a hnode hn hil    
  have HC := Lib.hid hc
  clear hc
  go_enter Tryz.func38, Tryz.ntmps38
  go_wp2_with fail
  refine (spec_leaf n ak ck _).mono ?_
  rw [HLK.out]
  rintro e w2 ⟨rfl, b2⟩
  clear y0 y1 y2 y3 y4
  have HW0 := Lib.hid (show Below w.heap.size w (w2.alloc (.cells #[.int .i64 3, .string (leafS n), .int .i64 0] 56)) from (HW1.out.trans (b2.mono HW1.out.size)).alloc (Nat.le_trans HW1.out.size b2.size) _)
  have HL := Lib.hid (HL1.out.on (show Below (((w.alloc (.cells #[.slice (some ⟨bl, ol, none⟩) m cap, .bool fl] 48)).alloc (.cells #[.int .i64 p.l, .bool p.d, .bool p.i, .bool p.g, .bool p.s] 30)).alloc (.cells #[.int .i64 n.k, .int .i64 n.op, .string n.s, .string n.t, .slice ak n.kids.length ck] 45)).heap.size (((w.alloc (.cells #[.slice (some ⟨bl, ol, none⟩) m cap, .bool fl] 48)).alloc (.cells #[.int .i64 p.l, .bool p.d, .bool p.i, .bool p.g, .bool p.s] 30)).alloc (.cells #[.int .i64 n.k, .int .i64 n.op, .string n.s, .string n.t, .slice ak n.kids.length ck] 45)) (w2.alloc (.cells #[.int .i64 3, .string (leafS n), .int .i64 0] 56)) from b2.alloc b2.size _) (Nat.le_refl _))
  have HY := Lib.hid (show ∀ W, Below (w2.alloc (.cells #[.int .i64 3, .string (leafS n), .int .i64 0] 56)).heap.size (w2.alloc (.cells #[.int .i64 3, .string (leafS n), .int .i64 0] 56)) W → W.cell? ⟨w.heap.size, 0, none⟩ = some (.slice (some ⟨bl, ol, none⟩) m cap) ∧ W.cell? ⟨w.heap.size, 1, none⟩ = some (.bool fl) ∧ W.cell? ⟨(w.heap.size + 1), 0, none⟩ = some (.int .i64 p.l) ∧ W.cell? ⟨(w.heap.size + 1), 1, none⟩ = some (.bool p.d) ∧ W.cell? ⟨(w.heap.size + 1), 2, none⟩ = some (.bool p.i) ∧ W.cell? ⟨(w.heap.size + 1), 3, none⟩ = some (.bool p.g) ∧ W.cell? ⟨(w.heap.size + 1), 4, none⟩ = some (.bool p.s) ∧ W.cell? ⟨(w.heap.size + 1 + 1), 0, none⟩ = some (.int .i64 n.k) ∧ W.cell? ⟨(w.heap.size + 1 + 1), 1, none⟩ = some (.int .i64 n.op) ∧ W.cell? ⟨(w.heap.size + 1 + 1), 2, none⟩ = some (.string n.s) ∧ W.cell? ⟨(w.heap.size + 1 + 1), 3, none⟩ = some (.string n.t) ∧ W.cell? ⟨(w.heap.size + 1 + 1), 4, none⟩ = some (.slice ak n.kids.length ck) from fun W hb => HY1.out W ((b2.alloc b2.size _).trans (hb.mono (b2.alloc b2.size _).size)))
  obtain ⟨f0, f1, f2, f3, f4, f5, f6, f7, f8, f9, f10, f11⟩ := HY.out _ (Below.refl _ _)
  have HS2 := Lib.hid (show leafS n = n.s by unfold leafS; rw [if_pos (by have := HC.out; omega)])
  go_wp2
  go_ret
  refine ⟨_, rfl, HW0.out.alloc HW0.out.size _, ?_⟩
  have := lit1 (B := w.heap.size) (w2.alloc (.cells #[.int .i64 3, .string (leafS n), .int .i64 0] 56)) ⟨3, leafS n, 0⟩ HW0.out.size
  rw [HS2.out] at this ⊢
  first | exact this | simpa [nam] using this

set_option maxHeartbeats 3200000 in
theorem node_str {l : List Nd} {a : Option Addr} {m cap : Nat} {fl : Bool} {i : Nat} {E U : Nat → Ps → List Tk} (n : Nd) (hc : n.k = 3) (hm : m = l.length) (hmx : m ≤ 1048576) (hi : i < m) (hn : l.getD i default = n) (hGG : ∀ p : Ps, posOk p.l p.d = true → Gis l a m cap fl i n p E U) : CallS 38 l a m cap fl i (fun q => body E U n q) := by
  intro p hq w hL
  show Calls Tryz.prog 38 _ w (Out (body E U n p) w)
  have hG := hGG p hq
  have hil : i < l.length := hm ▸ hi
  rw [getD_at hil] at hn
  have hLL := hL
  obtain ⟨bl, ol, rfl, hbl, hnode⟩ := nd.lies_at hL hil
  obtain ⟨ak, ck, h5, hi0⟩ := hnode i hil
  rw [hn] at h5 hi0
  have hi := hi0
  obtain ⟨hh0, hh1, hh2, hw0, hs0⟩ := three w (.cells #[.slice (some ⟨bl, ol, none⟩) m cap, .bool fl] 48) (.cells #[.int .i64 p.l, .bool p.d, .bool p.i, .bool p.g, .bool p.s] 30) (.cells #[.int .i64 n.k, .int .i64 n.op, .string n.s, .string n.t, .slice ak n.kids.length ck] 45)
  have HY1 := Lib.hid (show ∀ W, Below (((w.alloc (.cells #[.slice (some ⟨bl, ol, none⟩) m cap, .bool fl] 48)).alloc (.cells #[.int .i64 p.l, .bool p.d, .bool p.i, .bool p.g, .bool p.s] 30)).alloc (.cells #[.int .i64 n.k, .int .i64 n.op, .string n.s, .string n.t, .slice ak n.kids.length ck] 45)).heap.size (((w.alloc (.cells #[.slice (some ⟨bl, ol, none⟩) m cap, .bool fl] 48)).alloc (.cells #[.int .i64 p.l, .bool p.d, .bool p.i, .bool p.g, .bool p.s] 30)).alloc (.cells #[.int .i64 n.k, .int .i64 n.op, .string n.s, .string n.t, .slice ak n.kids.length ck] 45)) W → W.cell? ⟨w.heap.size, 0, none⟩ = some (.slice (some ⟨bl, ol, none⟩) m cap) ∧ W.cell? ⟨w.heap.size, 1, none⟩ = some (.bool fl) ∧ W.cell? ⟨(w.heap.size + 1), 0, none⟩ = some (.int .i64 p.l) ∧ W.cell? ⟨(w.heap.size + 1), 1, none⟩ = some (.bool p.d) ∧ W.cell? ⟨(w.heap.size + 1), 2, none⟩ = some (.bool p.i) ∧ W.cell? ⟨(w.heap.size + 1), 3, none⟩ = some (.bool p.g) ∧ W.cell? ⟨(w.heap.size + 1), 4, none⟩ = some (.bool p.s) ∧ W.cell? ⟨(w.heap.size + 1 + 1), 0, none⟩ = some (.int .i64 n.k) ∧ W.cell? ⟨(w.heap.size + 1 + 1), 1, none⟩ = some (.int .i64 n.op) ∧ W.cell? ⟨(w.heap.size + 1 + 1), 2, none⟩ = some (.string n.s) ∧ W.cell? ⟨(w.heap.size + 1 + 1), 3, none⟩ = some (.string n.t) ∧ W.cell? ⟨(w.heap.size + 1 + 1), 4, none⟩ = some (.slice ak n.kids.length ck) from fun W hb => by
    have hh0 := (hb.block w.heap.size (by omega)).trans hh0
    have hh1 := (hb.block (w.heap.size + 1) (by omega)).trans hh1
    have hh2 := (hb.block (w.heap.size + 1 + 1) (by omega)).trans hh2
    exact ⟨by rw [cell_of_row _ _ 0 _ _ _ (hh0)]; rfl, by rw [cell_of_row _ _ 1 _ _ _ (hh0)]; rfl, by rw [cell_of_row _ _ 0 _ _ _ (hh1)]; rfl, by rw [cell_of_row _ _ 1 _ _ _ (hh1)]; rfl, by rw [cell_of_row _ _ 2 _ _ _ (hh1)]; rfl, by rw [cell_of_row _ _ 3 _ _ _ (hh1)]; rfl, by rw [cell_of_row _ _ 4 _ _ _ (hh1)]; rfl, by rw [cell_of_row _ _ 0 _ _ _ (hh2)]; rfl, by rw [cell_of_row _ _ 1 _ _ _ (hh2)]; rfl, by rw [cell_of_row _ _ 2 _ _ _ (hh2)]; rfl, by rw [cell_of_row _ _ 3 _ _ _ (hh2)]; rfl, by rw [cell_of_row _ _ 4 _ _ _ (hh2)]; rfl⟩)
  have HW1 := Lib.hid hw0
  have HL1 := Lib.hid (hLL.on hw0 (Nat.le_refl _))
  have h5a := h5.keep (show Below w.heap.size w (w.alloc (.cells #[.slice (some ⟨bl, ol, none⟩) m cap, .bool fl] 48)) from (Below.refl _ _).alloc (Nat.le_refl _) _) hbl
  have h5b := h5a.keep (show Below w.heap.size (w.alloc (.cells #[.slice (some ⟨bl, ol, none⟩) m cap, .bool fl] 48)) ((w.alloc (.cells #[.slice (some ⟨bl, ol, none⟩) m cap, .bool fl] 48)).alloc (.cells #[.int .i64 p.l, .bool p.d, .bool p.i, .bool p.g, .bool p.s] 30)) from (Below.refl _ _).alloc (by simp) _) hbl
  obtain ⟨y0, y1, y2, y3, y4⟩ := h5b
  have HLK := Lib.hid (show leafK n = 4 by simp [leafK, hc])
  have hii1 : (0 : Int) ≤ (i : Int) := by omega
  have hii2 : (i : Int) < (m : Int) := by omega
  obtain ⟨x5, x5'⟩ := rt.ne_facts (show ¬ n.k = 5 by omega)
  obtain ⟨x7, x7'⟩ := rt.ne_facts (show ¬ n.k = 7 by omega)
  obtain ⟨x8, x8'⟩ := rt.ne_facts (show ¬ n.k = 8 by omega)
  obtain ⟨x9, x9'⟩ := rt.ne_facts (show ¬ n.k = 9 by omega)
  obtain ⟨x10, x10'⟩ := rt.ne_facts (show ¬ n.k = 10 by omega)
  obtain ⟨x15, x15'⟩ := rt.ne_facts (show ¬ n.k = 15 by omega)
  obtain ⟨x6, x6'⟩ := rt.ne_facts (show ¬ n.k = 6 by omega)
  obtain ⟨x11, x11'⟩ := rt.ne_facts (show ¬ n.k = 11 by omega)
  obtain ⟨x13, x13'⟩ := rt.ne_facts (show ¬ n.k = 13 by omega)
  have HGG := Lib.hid hG
  have HBODY : body E U n p = [nam 4 n.s] := by rw [body_3 hc]
  rw [HBODY]
  clear hm hL hLL hi hi0 hG hGG hh0 hh1 hh2 hw0 hs0 h5 h5a hnode hn hil    
  have HC := Lib.hid hc
  clear hc
  go_enter Tryz.func38, Tryz.ntmps38
  go_wp2_with fail
  refine (spec_leaf n ak ck _).mono ?_
  rw [HLK.out]
  rintro e w2 ⟨rfl, b2⟩
  clear y0 y1 y2 y3 y4
  have HW0 := Lib.hid (show Below w.heap.size w (w2.alloc (.cells #[.int .i64 4, .string (leafS n), .int .i64 0] 56)) from (HW1.out.trans (b2.mono HW1.out.size)).alloc (Nat.le_trans HW1.out.size b2.size) _)
  have HL := Lib.hid (HL1.out.on (show Below (((w.alloc (.cells #[.slice (some ⟨bl, ol, none⟩) m cap, .bool fl] 48)).alloc (.cells #[.int .i64 p.l, .bool p.d, .bool p.i, .bool p.g, .bool p.s] 30)).alloc (.cells #[.int .i64 n.k, .int .i64 n.op, .string n.s, .string n.t, .slice ak n.kids.length ck] 45)).heap.size (((w.alloc (.cells #[.slice (some ⟨bl, ol, none⟩) m cap, .bool fl] 48)).alloc (.cells #[.int .i64 p.l, .bool p.d, .bool p.i, .bool p.g, .bool p.s] 30)).alloc (.cells #[.int .i64 n.k, .int .i64 n.op, .string n.s, .string n.t, .slice ak n.kids.length ck] 45)) (w2.alloc (.cells #[.int .i64 4, .string (leafS n), .int .i64 0] 56)) from b2.alloc b2.size _) (Nat.le_refl _))
  have HY := Lib.hid (show ∀ W, Below (w2.alloc (.cells #[.int .i64 4, .string (leafS n), .int .i64 0] 56)).heap.size (w2.alloc (.cells #[.int .i64 4, .string (leafS n), .int .i64 0] 56)) W → W.cell? ⟨w.heap.size, 0, none⟩ = some (.slice (some ⟨bl, ol, none⟩) m cap) ∧ W.cell? ⟨w.heap.size, 1, none⟩ = some (.bool fl) ∧ W.cell? ⟨(w.heap.size + 1), 0, none⟩ = some (.int .i64 p.l) ∧ W.cell? ⟨(w.heap.size + 1), 1, none⟩ = some (.bool p.d) ∧ W.cell? ⟨(w.heap.size + 1), 2, none⟩ = some (.bool p.i) ∧ W.cell? ⟨(w.heap.size + 1), 3, none⟩ = some (.bool p.g) ∧ W.cell? ⟨(w.heap.size + 1), 4, none⟩ = some (.bool p.s) ∧ W.cell? ⟨(w.heap.size + 1 + 1), 0, none⟩ = some (.int .i64 n.k) ∧ W.cell? ⟨(w.heap.size + 1 + 1), 1, none⟩ = some (.int .i64 n.op) ∧ W.cell? ⟨(w.heap.size + 1 + 1), 2, none⟩ = some (.string n.s) ∧ W.cell? ⟨(w.heap.size + 1 + 1), 3, none⟩ = some (.string n.t) ∧ W.cell? ⟨(w.heap.size + 1 + 1), 4, none⟩ = some (.slice ak n.kids.length ck) from fun W hb => HY1.out W ((b2.alloc b2.size _).trans (hb.mono (b2.alloc b2.size _).size)))
  obtain ⟨f0, f1, f2, f3, f4, f5, f6, f7, f8, f9, f10, f11⟩ := HY.out _ (Below.refl _ _)
  have HS2 := Lib.hid (show leafS n = n.s by unfold leafS; rw [if_pos (by have := HC.out; omega)])
  go_wp2
  go_ret
  refine ⟨_, rfl, HW0.out.alloc HW0.out.size _, ?_⟩
  have := lit1 (B := w.heap.size) (w2.alloc (.cells #[.int .i64 4, .string (leafS n), .int .i64 0] 56)) ⟨4, leafS n, 0⟩ HW0.out.size
  rw [HS2.out] at this ⊢
  first | exact this | simpa [nam] using this

set_option maxHeartbeats 3200000 in
theorem node_ere {l : List Nd} {a : Option Addr} {m cap : Nat} {fl : Bool} {i : Nat} {E U : Nat → Ps → List Tk} (n : Nd) (hc : n.k = 4) (hm : m = l.length) (hmx : m ≤ 1048576) (hi : i < m) (hn : l.getD i default = n) (hGG : ∀ p : Ps, posOk p.l p.d = true → Gis l a m cap fl i n p E U) : CallS 38 l a m cap fl i (fun q => body E U n q) := by
  intro p hq w hL
  show Calls Tryz.prog 38 _ w (Out (body E U n p) w)
  have hG := hGG p hq
  have hil : i < l.length := hm ▸ hi
  rw [getD_at hil] at hn
  have hLL := hL
  obtain ⟨bl, ol, rfl, hbl, hnode⟩ := nd.lies_at hL hil
  obtain ⟨ak, ck, h5, hi0⟩ := hnode i hil
  rw [hn] at h5 hi0
  have hi := hi0
  obtain ⟨hh0, hh1, hh2, hw0, hs0⟩ := three w (.cells #[.slice (some ⟨bl, ol, none⟩) m cap, .bool fl] 48) (.cells #[.int .i64 p.l, .bool p.d, .bool p.i, .bool p.g, .bool p.s] 30) (.cells #[.int .i64 n.k, .int .i64 n.op, .string n.s, .string n.t, .slice ak n.kids.length ck] 45)
  have HY1 := Lib.hid (show ∀ W, Below (((w.alloc (.cells #[.slice (some ⟨bl, ol, none⟩) m cap, .bool fl] 48)).alloc (.cells #[.int .i64 p.l, .bool p.d, .bool p.i, .bool p.g, .bool p.s] 30)).alloc (.cells #[.int .i64 n.k, .int .i64 n.op, .string n.s, .string n.t, .slice ak n.kids.length ck] 45)).heap.size (((w.alloc (.cells #[.slice (some ⟨bl, ol, none⟩) m cap, .bool fl] 48)).alloc (.cells #[.int .i64 p.l, .bool p.d, .bool p.i, .bool p.g, .bool p.s] 30)).alloc (.cells #[.int .i64 n.k, .int .i64 n.op, .string n.s, .string n.t, .slice ak n.kids.length ck] 45)) W → W.cell? ⟨w.heap.size, 0, none⟩ = some (.slice (some ⟨bl, ol, none⟩) m cap) ∧ W.cell? ⟨w.heap.size, 1, none⟩ = some (.bool fl) ∧ W.cell? ⟨(w.heap.size + 1), 0, none⟩ = some (.int .i64 p.l) ∧ W.cell? ⟨(w.heap.size + 1), 1, none⟩ = some (.bool p.d) ∧ W.cell? ⟨(w.heap.size + 1), 2, none⟩ = some (.bool p.i) ∧ W.cell? ⟨(w.heap.size + 1), 3, none⟩ = some (.bool p.g) ∧ W.cell? ⟨(w.heap.size + 1), 4, none⟩ = some (.bool p.s) ∧ W.cell? ⟨(w.heap.size + 1 + 1), 0, none⟩ = some (.int .i64 n.k) ∧ W.cell? ⟨(w.heap.size + 1 + 1), 1, none⟩ = some (.int .i64 n.op) ∧ W.cell? ⟨(w.heap.size + 1 + 1), 2, none⟩ = some (.string n.s) ∧ W.cell? ⟨(w.heap.size + 1 + 1), 3, none⟩ = some (.string n.t) ∧ W.cell? ⟨(w.heap.size + 1 + 1), 4, none⟩ = some (.slice ak n.kids.length ck) from fun W hb => by
    have hh0 := (hb.block w.heap.size (by omega)).trans hh0
    have hh1 := (hb.block (w.heap.size + 1) (by omega)).trans hh1
    have hh2 := (hb.block (w.heap.size + 1 + 1) (by omega)).trans hh2
    exact ⟨by rw [cell_of_row _ _ 0 _ _ _ (hh0)]; rfl, by rw [cell_of_row _ _ 1 _ _ _ (hh0)]; rfl, by rw [cell_of_row _ _ 0 _ _ _ (hh1)]; rfl, by rw [cell_of_row _ _ 1 _ _ _ (hh1)]; rfl, by rw [cell_of_row _ _ 2 _ _ _ (hh1)]; rfl, by rw [cell_of_row _ _ 3 _ _ _ (hh1)]; rfl, by rw [cell_of_row _ _ 4 _ _ _ (hh1)]; rfl, by rw [cell_of_row _ _ 0 _ _ _ (hh2)]; rfl, by rw [cell_of_row _ _ 1 _ _ _ (hh2)]; rfl, by rw [cell_of_row _ _ 2 _ _ _ (hh2)]; rfl, by rw [cell_of_row _ _ 3 _ _ _ (hh2)]; rfl, by rw [cell_of_row _ _ 4 _ _ _ (hh2)]; rfl⟩)
  have HW1 := Lib.hid hw0
  have HL1 := Lib.hid (hLL.on hw0 (Nat.le_refl _))
  have h5a := h5.keep (show Below w.heap.size w (w.alloc (.cells #[.slice (some ⟨bl, ol, none⟩) m cap, .bool fl] 48)) from (Below.refl _ _).alloc (Nat.le_refl _) _) hbl
  have h5b := h5a.keep (show Below w.heap.size (w.alloc (.cells #[.slice (some ⟨bl, ol, none⟩) m cap, .bool fl] 48)) ((w.alloc (.cells #[.slice (some ⟨bl, ol, none⟩) m cap, .bool fl] 48)).alloc (.cells #[.int .i64 p.l, .bool p.d, .bool p.i, .bool p.g, .bool p.s] 30)) from (Below.refl _ _).alloc (by simp) _) hbl
  obtain ⟨y0, y1, y2, y3, y4⟩ := h5b
  have HLK := Lib.hid (show leafK n = 5 by simp [leafK, hc])
  have hii1 : (0 : Int) ≤ (i : Int) := by omega
  have hii2 : (i : Int) < (m : Int) := by omega
  obtain ⟨x5, x5'⟩ := rt.ne_facts (show ¬ n.k = 5 by omega)
  obtain ⟨x7, x7'⟩ := rt.ne_facts (show ¬ n.k = 7 by omega)
  obtain ⟨x8, x8'⟩ := rt.ne_facts (show ¬ n.k = 8 by omega)
  obtain ⟨x9, x9'⟩ := rt.ne_facts (show ¬ n.k = 9 by omega)
  obtain ⟨x10, x10'⟩ := rt.ne_facts (show ¬ n.k = 10 by omega)
  obtain ⟨x15, x15'⟩ := rt.ne_facts (show ¬ n.k = 15 by omega)
  obtain ⟨x6, x6'⟩ := rt.ne_facts (show ¬ n.k = 6 by omega)
  obtain ⟨x11, x11'⟩ := rt.ne_facts (show ¬ n.k = 11 by omega)
  obtain ⟨x13, x13'⟩ := rt.ne_facts (show ¬ n.k = 13 by omega)
  have HGG := Lib.hid hG
  have HBODY : body E U n p = [nam 5 n.s] := by rw [body_4 hc]
  rw [HBODY]
  clear hm hL hLL hi hi0 hG hGG hh0 hh1 hh2 hw0 hs0 h5 h5a hnode hn hil    
  have HC := Lib.hid hc
  clear hc
  go_enter Tryz.func38, Tryz.ntmps38
  go_wp2_with fail
  refine (spec_leaf n ak ck _).mono ?_
  rw [HLK.out]
  rintro e w2 ⟨rfl, b2⟩
  clear y0 y1 y2 y3 y4
  have HW0 := Lib.hid (show Below w.heap.size w (w2.alloc (.cells #[.int .i64 5, .string (leafS n), .int .i64 0] 56)) from (HW1.out.trans (b2.mono HW1.out.size)).alloc (Nat.le_trans HW1.out.size b2.size) _)
  have HL := Lib.hid (HL1.out.on (show Below (((w.alloc (.cells #[.slice (some ⟨bl, ol, none⟩) m cap, .bool fl] 48)).alloc (.cells #[.int .i64 p.l, .bool p.d, .bool p.i, .bool p.g, .bool p.s] 30)).alloc (.cells #[.int .i64 n.k, .int .i64 n.op, .string n.s, .string n.t, .slice ak n.kids.length ck] 45)).heap.size (((w.alloc (.cells #[.slice (some ⟨bl, ol, none⟩) m cap, .bool fl] 48)).alloc (.cells #[.int .i64 p.l, .bool p.d, .bool p.i, .bool p.g, .bool p.s] 30)).alloc (.cells #[.int .i64 n.k, .int .i64 n.op, .string n.s, .string n.t, .slice ak n.kids.length ck] 45)) (w2.alloc (.cells #[.int .i64 5, .string (leafS n), .int .i64 0] 56)) from b2.alloc b2.size _) (Nat.le_refl _))
  have HY := Lib.hid (show ∀ W, Below (w2.alloc (.cells #[.int .i64 5, .string (leafS n), .int .i64 0] 56)).heap.size (w2.alloc (.cells #[.int .i64 5, .string (leafS n), .int .i64 0] 56)) W → W.cell? ⟨w.heap.size, 0, none⟩ = some (.slice (some ⟨bl, ol, none⟩) m cap) ∧ W.cell? ⟨w.heap.size, 1, none⟩ = some (.bool fl) ∧ W.cell? ⟨(w.heap.size + 1), 0, none⟩ = some (.int .i64 p.l) ∧ W.cell? ⟨(w.heap.size + 1), 1, none⟩ = some (.bool p.d) ∧ W.cell? ⟨(w.heap.size + 1), 2, none⟩ = some (.bool p.i) ∧ W.cell? ⟨(w.heap.size + 1), 3, none⟩ = some (.bool p.g) ∧ W.cell? ⟨(w.heap.size + 1), 4, none⟩ = some (.bool p.s) ∧ W.cell? ⟨(w.heap.size + 1 + 1), 0, none⟩ = some (.int .i64 n.k) ∧ W.cell? ⟨(w.heap.size + 1 + 1), 1, none⟩ = some (.int .i64 n.op) ∧ W.cell? ⟨(w.heap.size + 1 + 1), 2, none⟩ = some (.string n.s) ∧ W.cell? ⟨(w.heap.size + 1 + 1), 3, none⟩ = some (.string n.t) ∧ W.cell? ⟨(w.heap.size + 1 + 1), 4, none⟩ = some (.slice ak n.kids.length ck) from fun W hb => HY1.out W ((b2.alloc b2.size _).trans (hb.mono (b2.alloc b2.size _).size)))
  obtain ⟨f0, f1, f2, f3, f4, f5, f6, f7, f8, f9, f10, f11⟩ := HY.out _ (Below.refl _ _)
  have HS2 := Lib.hid (show leafS n = n.s by unfold leafS; rw [if_pos (by have := HC.out; omega)])
  go_wp2
  go_ret
  refine ⟨_, rfl, HW0.out.alloc HW0.out.size _, ?_⟩
  have := lit1 (B := w.heap.size) (w2.alloc (.cells #[.int .i64 5, .string (leafS n), .int .i64 0] 56)) ⟨5, leafS n, 0⟩ HW0.out.size
  rw [HS2.out] at this ⊢
  first | exact this | simpa [nam] using this

set_option maxHeartbeats 3200000 in
theorem node_index {l : List Nd} {a : Option Addr} {m cap : Nat} {fl : Bool} {i : Nat} {E U : Nat → Ps → List Tk} (n : Nd) (hc : n.k = 5) (hm : m = l.length) (hmx : m ≤ 1048576) (hi : i < m) (hn : l.getD i default = n) (hGG : ∀ p : Ps, posOk p.l p.d = true → Gis l a m cap fl i n p E U) : CallS 38 l a m cap fl i (fun q => body E U n q) := by
  intro p hq w hL
  show Calls Tryz.prog 38 _ w (Out (body E U n p) w)
  have hG := hGG p hq
  have hil : i < l.length := hm ▸ hi
  rw [getD_at hil] at hn
  have hLL := hL
  obtain ⟨bl, ol, rfl, hbl, hnode⟩ := nd.lies_at hL hil
  obtain ⟨ak, ck, h5, hi0⟩ := hnode i hil
  rw [hn] at h5 hi0
  have hi := hi0
  obtain ⟨hh0, hh1, hh2, hw0, hs0⟩ := three w (.cells #[.slice (some ⟨bl, ol, none⟩) m cap, .bool fl] 48) (.cells #[.int .i64 p.l, .bool p.d, .bool p.i, .bool p.g, .bool p.s] 30) (.cells #[.int .i64 n.k, .int .i64 n.op, .string n.s, .string n.t, .slice ak n.kids.length ck] 45)
  have HY1 := Lib.hid (show ∀ W, Below (((w.alloc (.cells #[.slice (some ⟨bl, ol, none⟩) m cap, .bool fl] 48)).alloc (.cells #[.int .i64 p.l, .bool p.d, .bool p.i, .bool p.g, .bool p.s] 30)).alloc (.cells #[.int .i64 n.k, .int .i64 n.op, .string n.s, .string n.t, .slice ak n.kids.length ck] 45)).heap.size (((w.alloc (.cells #[.slice (some ⟨bl, ol, none⟩) m cap, .bool fl] 48)).alloc (.cells #[.int .i64 p.l, .bool p.d, .bool p.i, .bool p.g, .bool p.s] 30)).alloc (.cells #[.int .i64 n.k, .int .i64 n.op, .string n.s, .string n.t, .slice ak n.kids.length ck] 45)) W → W.cell? ⟨w.heap.size, 0, none⟩ = some (.slice (some ⟨bl, ol, none⟩) m cap) ∧ W.cell? ⟨w.heap.size, 1, none⟩ = some (.bool fl) ∧ W.cell? ⟨(w.heap.size + 1), 0, none⟩ = some (.int .i64 p.l) ∧ W.cell? ⟨(w.heap.size + 1), 1, none⟩ = some (.bool p.d) ∧ W.cell? ⟨(w.heap.size + 1), 2, none⟩ = some (.bool p.i) ∧ W.cell? ⟨(w.heap.size + 1), 3, none⟩ = some (.bool p.g) ∧ W.cell? ⟨(w.heap.size + 1), 4, none⟩ = some (.bool p.s) ∧ W.cell? ⟨(w.heap.size + 1 + 1), 0, none⟩ = some (.int .i64 n.k) ∧ W.cell? ⟨(w.heap.size + 1 + 1), 1, none⟩ = some (.int .i64 n.op) ∧ W.cell? ⟨(w.heap.size + 1 + 1), 2, none⟩ = some (.string n.s) ∧ W.cell? ⟨(w.heap.size + 1 + 1), 3, none⟩ = some (.string n.t) ∧ W.cell? ⟨(w.heap.size + 1 + 1), 4, none⟩ = some (.slice ak n.kids.length ck) from fun W hb => by
    have hh0 := (hb.block w.heap.size (by omega)).trans hh0
    have hh1 := (hb.block (w.heap.size + 1) (by omega)).trans hh1
    have hh2 := (hb.block (w.heap.size + 1 + 1) (by omega)).trans hh2
    exact ⟨by rw [cell_of_row _ _ 0 _ _ _ (hh0)]; rfl, by rw [cell_of_row _ _ 1 _ _ _ (hh0)]; rfl, by rw [cell_of_row _ _ 0 _ _ _ (hh1)]; rfl, by rw [cell_of_row _ _ 1 _ _ _ (hh1)]; rfl, by rw [cell_of_row _ _ 2 _ _ _ (hh1)]; rfl, by rw [cell_of_row _ _ 3 _ _ _ (hh1)]; rfl, by rw [cell_of_row _ _ 4 _ _ _ (hh1)]; rfl, by rw [cell_of_row _ _ 0 _ _ _ (hh2)]; rfl, by rw [cell_of_row _ _ 1 _ _ _ (hh2)]; rfl, by rw [cell_of_row _ _ 2 _ _ _ (hh2)]; rfl, by rw [cell_of_row _ _ 3 _ _ _ (hh2)]; rfl, by rw [cell_of_row _ _ 4 _ _ _ (hh2)]; rfl⟩)
  have HW1 := Lib.hid hw0
  have HL1 := Lib.hid (hLL.on hw0 (Nat.le_refl _))
  have h5a := h5.keep (show Below w.heap.size w (w.alloc (.cells #[.slice (some ⟨bl, ol, none⟩) m cap, .bool fl] 48)) from (Below.refl _ _).alloc (Nat.le_refl _) _) hbl
  have h5b := h5a.keep (show Below w.heap.size (w.alloc (.cells #[.slice (some ⟨bl, ol, none⟩) m cap, .bool fl] 48)) ((w.alloc (.cells #[.slice (some ⟨bl, ol, none⟩) m cap, .bool fl] 48)).alloc (.cells #[.int .i64 p.l, .bool p.d, .bool p.i, .bool p.g, .bool p.s] 30)) from (Below.refl _ _).alloc (by simp) _) hbl
  obtain ⟨y0, y1, y2, y3, y4⟩ := h5b
  have HLK := Lib.hid (show leafK n = 0 by simp [leafK, hc])
  have hii1 : (0 : Int) ≤ (i : Int) := by omega
  have hii2 : (i : Int) < (m : Int) := by omega
  obtain ⟨x5, x5'⟩ := rt.eq_facts (show n.k = 5 by omega)
  obtain ⟨x7, x7'⟩ := rt.ne_facts (show ¬ n.k = 7 by omega)
  obtain ⟨x8, x8'⟩ := rt.ne_facts (show ¬ n.k = 8 by omega)
  obtain ⟨x9, x9'⟩ := rt.ne_facts (show ¬ n.k = 9 by omega)
  obtain ⟨x10, x10'⟩ := rt.ne_facts (show ¬ n.k = 10 by omega)
  obtain ⟨x15, x15'⟩ := rt.ne_facts (show ¬ n.k = 15 by omega)
  obtain ⟨x6, x6'⟩ := rt.ne_facts (show ¬ n.k = 6 by omega)
  obtain ⟨x11, x11'⟩ := rt.ne_facts (show ¬ n.k = 11 by omega)
  obtain ⟨x13, x13'⟩ := rt.ne_facts (show ¬ n.k = 13 by omega)
  have HLIST := Lib.hid (show ∀ W, Below (((w.alloc (.cells #[.slice (some ⟨bl, ol, none⟩) m cap, .bool fl] 48)).alloc (.cells #[.int .i64 p.l, .bool p.d, .bool p.i, .bool p.g, .bool p.s] 30)).alloc (.cells #[.int .i64 n.k, .int .i64 n.op, .string n.s, .string n.t, .slice ak n.kids.length ck] 45)).heap.size (((w.alloc (.cells #[.slice (some ⟨bl, ol, none⟩) m cap, .bool fl] 48)).alloc (.cells #[.int .i64 p.l, .bool p.d, .bool p.i, .bool p.g, .bool p.s] 30)).alloc (.cells #[.int .i64 n.k, .int .i64 n.op, .string n.s, .string n.t, .slice ak n.kids.length ck] 45)) W → Ints W.heap.size W ak n.kids from fun W hb => (((hi0.keep hw0 (Nat.le_refl _)).up hw0.size).keep hb (Nat.le_refl _)).up hb.size)
  have HGG := Lib.hid hG
  have HBODY : body E U n p = nam 6 n.s :: brack E n 34 (34 + 1) := by rw [body_5 hc]; rfl
  rw [HBODY]
  clear hm hL hLL hi hi0 hG hGG hh0 hh1 hh2 hw0 hs0 h5 h5a hnode hn hil    
  have HC := Lib.hid hc
  clear hc
  go_enter Tryz.func38, Tryz.ntmps38
  go_wp2_with fail
  refine (spec_leaf n ak ck _).mono ?_
  rw [HLK.out]
  rintro e w2 ⟨rfl, b2⟩
  clear y0 y1 y2 y3 y4
  have HW0 := Lib.hid (show Below w.heap.size w (w2.alloc (.cells #[.int .i64 0, .string (leafS n), .int .i64 0] 56)) from (HW1.out.trans (b2.mono HW1.out.size)).alloc (Nat.le_trans HW1.out.size b2.size) _)
  have HL := Lib.hid (HL1.out.on (show Below (((w.alloc (.cells #[.slice (some ⟨bl, ol, none⟩) m cap, .bool fl] 48)).alloc (.cells #[.int .i64 p.l, .bool p.d, .bool p.i, .bool p.g, .bool p.s] 30)).alloc (.cells #[.int .i64 n.k, .int .i64 n.op, .string n.s, .string n.t, .slice ak n.kids.length ck] 45)).heap.size (((w.alloc (.cells #[.slice (some ⟨bl, ol, none⟩) m cap, .bool fl] 48)).alloc (.cells #[.int .i64 p.l, .bool p.d, .bool p.i, .bool p.g, .bool p.s] 30)).alloc (.cells #[.int .i64 n.k, .int .i64 n.op, .string n.s, .string n.t, .slice ak n.kids.length ck] 45)) (w2.alloc (.cells #[.int .i64 0, .string (leafS n), .int .i64 0] 56)) from b2.alloc b2.size _) (Nat.le_refl _))
  have HY := Lib.hid (show ∀ W, Below (w2.alloc (.cells #[.int .i64 0, .string (leafS n), .int .i64 0] 56)).heap.size (w2.alloc (.cells #[.int .i64 0, .string (leafS n), .int .i64 0] 56)) W → W.cell? ⟨w.heap.size, 0, none⟩ = some (.slice (some ⟨bl, ol, none⟩) m cap) ∧ W.cell? ⟨w.heap.size, 1, none⟩ = some (.bool fl) ∧ W.cell? ⟨(w.heap.size + 1), 0, none⟩ = some (.int .i64 p.l) ∧ W.cell? ⟨(w.heap.size + 1), 1, none⟩ = some (.bool p.d) ∧ W.cell? ⟨(w.heap.size + 1), 2, none⟩ = some (.bool p.i) ∧ W.cell? ⟨(w.heap.size + 1), 3, none⟩ = some (.bool p.g) ∧ W.cell? ⟨(w.heap.size + 1), 4, none⟩ = some (.bool p.s) ∧ W.cell? ⟨(w.heap.size + 1 + 1), 0, none⟩ = some (.int .i64 n.k) ∧ W.cell? ⟨(w.heap.size + 1 + 1), 1, none⟩ = some (.int .i64 n.op) ∧ W.cell? ⟨(w.heap.size + 1 + 1), 2, none⟩ = some (.string n.s) ∧ W.cell? ⟨(w.heap.size + 1 + 1), 3, none⟩ = some (.string n.t) ∧ W.cell? ⟨(w.heap.size + 1 + 1), 4, none⟩ = some (.slice ak n.kids.length ck) from fun W hb => HY1.out W ((b2.alloc b2.size _).trans (hb.mono (b2.alloc b2.size _).size)))
  obtain ⟨f0, f1, f2, f3, f4, f5, f6, f7, f8, f9, f10, f11⟩ := HY.out _ (Below.refl _ _)
  have HI2 := Lib.hid (HLIST.out _ (show Below (((w.alloc (.cells #[.slice (some ⟨bl, ol, none⟩) m cap, .bool fl] 48)).alloc (.cells #[.int .i64 p.l, .bool p.d, .bool p.i, .bool p.g, .bool p.s] 30)).alloc (.cells #[.int .i64 n.k, .int .i64 n.op, .string n.s, .string n.t, .slice ak n.kids.length ck] 45)).heap.size (((w.alloc (.cells #[.slice (some ⟨bl, ol, none⟩) m cap, .bool fl] 48)).alloc (.cells #[.int .i64 p.l, .bool p.d, .bool p.i, .bool p.g, .bool p.s] 30)).alloc (.cells #[.int .i64 n.k, .int .i64 n.op, .string n.s, .string n.t, .slice ak n.kids.length ck] 45)) (w2.alloc (.cells #[.int .i64 0, .string (leafS n), .int .i64 0] 56)) from b2.alloc b2.size _))
  go_wp2_with fail
  refine (named_any (E := E) (nam 6 n.s) n ak ck 34 _ (by decide) HL.out HGG.out.len (fun K hK => HGG.out.kd hK) HI2.out HGG.out.e HGG.out.ls).mono ?_
  rintro e w3 ⟨v3, rfl, b3, o3⟩
  have B3 := Lib.hid (HW0.out.trans (b3.mono HW0.out.size))
  have O3 := Lib.hid (o3.up HW0.out.size)
  clear b3 o3
  go_wp2
  go_ret
  exact ⟨v3, rfl, B3.out, O3.out⟩

set_option maxHeartbeats 3200000 in
theorem node_call {l : List Nd} {a : Option Addr} {m cap : Nat} {fl : Bool} {i : Nat} {E U : Nat → Ps → List Tk} (n : Nd) (hc : n.k = 7) (hm : m = l.length) (hmx : m ≤ 1048576) (hi : i < m) (hn : l.getD i default = n) (hGG : ∀ p : Ps, posOk p.l p.d = true → Gis l a m cap fl i n p E U) : CallS 38 l a m cap fl i (fun q => body E U n q) := by
  intro p hq w hL
  show Calls Tryz.prog 38 _ w (Out (body E U n p) w)
  have hG := hGG p hq
  have hil : i < l.length := hm ▸ hi
  rw [getD_at hil] at hn
  have hLL := hL
  obtain ⟨bl, ol, rfl, hbl, hnode⟩ := nd.lies_at hL hil
  obtain ⟨ak, ck, h5, hi0⟩ := hnode i hil
  rw [hn] at h5 hi0
  have hi := hi0
  obtain ⟨hh0, hh1, hh2, hw0, hs0⟩ := three w (.cells #[.slice (some ⟨bl, ol, none⟩) m cap, .bool fl] 48) (.cells #[.int .i64 p.l, .bool p.d, .bool p.i, .bool p.g, .bool p.s] 30) (.cells #[.int .i64 n.k, .int .i64 n.op, .string n.s, .string n.t, .slice ak n.kids.length ck] 45)
  have HY1 := Lib.hid (show ∀ W, Below (((w.alloc (.cells #[.slice (some ⟨bl, ol, none⟩) m cap, .bool fl] 48)).alloc (.cells #[.int .i64 p.l, .bool p.d, .bool p.i, .bool p.g, .bool p.s] 30)).alloc (.cells #[.int .i64 n.k, .int .i64 n.op, .string n.s, .string n.t, .slice ak n.kids.length ck] 45)).heap.size (((w.alloc (.cells #[.slice (some ⟨bl, ol, none⟩) m cap, .bool fl] 48)).alloc (.cells #[.int .i64 p.l, .bool p.d, .bool p.i, .bool p.g, .bool p.s] 30)).alloc (.cells #[.int .i64 n.k, .int .i64 n.op, .string n.s, .string n.t, .slice ak n.kids.length ck] 45)) W → W.cell? ⟨w.heap.size, 0, none⟩ = some (.slice (some ⟨bl, ol, none⟩) m cap) ∧ W.cell? ⟨w.heap.size, 1, none⟩ = some (.bool fl) ∧ W.cell? ⟨(w.heap.size + 1), 0, none⟩ = some (.int .i64 p.l) ∧ W.cell? ⟨(w.heap.size + 1), 1, none⟩ = some (.bool p.d) ∧ W.cell? ⟨(w.heap.size + 1), 2, none⟩ = some (.bool p.i) ∧ W.cell? ⟨(w.heap.size + 1), 3, none⟩ = some (.bool p.g) ∧ W.cell? ⟨(w.heap.size + 1), 4, none⟩ = some (.bool p.s) ∧ W.cell? ⟨(w.heap.size + 1 + 1), 0, none⟩ = some (.int .i64 n.k) ∧ W.cell? ⟨(w.heap.size + 1 + 1), 1, none⟩ = some (.int .i64 n.op) ∧ W.cell? ⟨(w.heap.size + 1 + 1), 2, none⟩ = some (.string n.s) ∧ W.cell? ⟨(w.heap.size + 1 + 1), 3, none⟩ = some (.string n.t) ∧ W.cell? ⟨(w.heap.size + 1 + 1), 4, none⟩ = some (.slice ak n.kids.length ck) from fun W hb => by
    have hh0 := (hb.block w.heap.size (by omega)).trans hh0
    have hh1 := (hb.block (w.heap.size + 1) (by omega)).trans hh1
    have hh2 := (hb.block (w.heap.size + 1 + 1) (by omega)).trans hh2
    exact ⟨by rw [cell_of_row _ _ 0 _ _ _ (hh0)]; rfl, by rw [cell_of_row _ _ 1 _ _ _ (hh0)]; rfl, by rw [cell_of_row _ _ 0 _ _ _ (hh1)]; rfl, by rw [cell_of_row _ _ 1 _ _ _ (hh1)]; rfl, by rw [cell_of_row _ _ 2 _ _ _ (hh1)]; rfl, by rw [cell_of_row _ _ 3 _ _ _ (hh1)]; rfl, by rw [cell_of_row _ _ 4 _ _ _ (hh1)]; rfl, by rw [cell_of_row _ _ 0 _ _ _ (hh2)]; rfl, by rw [cell_of_row _ _ 1 _ _ _ (hh2)]; rfl, by rw [cell_of_row _ _ 2 _ _ _ (hh2)]; rfl, by rw [cell_of_row _ _ 3 _ _ _ (hh2)]; rfl, by rw [cell_of_row _ _ 4 _ _ _ (hh2)]; rfl⟩)
  have HW1 := Lib.hid hw0
  have HL1 := Lib.hid (hLL.on hw0 (Nat.le_refl _))
  have h5a := h5.keep (show Below w.heap.size w (w.alloc (.cells #[.slice (some ⟨bl, ol, none⟩) m cap, .bool fl] 48)) from (Below.refl _ _).alloc (Nat.le_refl _) _) hbl
  have h5b := h5a.keep (show Below w.heap.size (w.alloc (.cells #[.slice (some ⟨bl, ol, none⟩) m cap, .bool fl] 48)) ((w.alloc (.cells #[.slice (some ⟨bl, ol, none⟩) m cap, .bool fl] 48)).alloc (.cells #[.int .i64 p.l, .bool p.d, .bool p.i, .bool p.g, .bool p.s] 30)) from (Below.refl _ _).alloc (by simp) _) hbl
  obtain ⟨y0, y1, y2, y3, y4⟩ := h5b
  have HLK := Lib.hid (show leafK n = 0 by simp [leafK, hc])
  have hii1 : (0 : Int) ≤ (i : Int) := by omega
  have hii2 : (i : Int) < (m : Int) := by omega
  obtain ⟨x5, x5'⟩ := rt.ne_facts (show ¬ n.k = 5 by omega)
  obtain ⟨x7, x7'⟩ := rt.eq_facts (show n.k = 7 by omega)
  obtain ⟨x8, x8'⟩ := rt.ne_facts (show ¬ n.k = 8 by omega)
  obtain ⟨x9, x9'⟩ := rt.ne_facts (show ¬ n.k = 9 by omega)
  obtain ⟨x10, x10'⟩ := rt.ne_facts (show ¬ n.k = 10 by omega)
  obtain ⟨x15, x15'⟩ := rt.ne_facts (show ¬ n.k = 15 by omega)
  obtain ⟨x6, x6'⟩ := rt.ne_facts (show ¬ n.k = 6 by omega)
  obtain ⟨x11, x11'⟩ := rt.ne_facts (show ¬ n.k = 11 by omega)
  obtain ⟨x13, x13'⟩ := rt.ne_facts (show ¬ n.k = 13 by omega)
  have HLIST := Lib.hid (show ∀ W, Below (((w.alloc (.cells #[.slice (some ⟨bl, ol, none⟩) m cap, .bool fl] 48)).alloc (.cells #[.int .i64 p.l, .bool p.d, .bool p.i, .bool p.g, .bool p.s] 30)).alloc (.cells #[.int .i64 n.k, .int .i64 n.op, .string n.s, .string n.t, .slice ak n.kids.length ck] 45)).heap.size (((w.alloc (.cells #[.slice (some ⟨bl, ol, none⟩) m cap, .bool fl] 48)).alloc (.cells #[.int .i64 p.l, .bool p.d, .bool p.i, .bool p.g, .bool p.s] 30)).alloc (.cells #[.int .i64 n.k, .int .i64 n.op, .string n.s, .string n.t, .slice ak n.kids.length ck] 45)) W → Ints W.heap.size W ak n.kids from fun W hb => (((hi0.keep hw0 (Nat.le_refl _)).up hw0.size).keep hb (Nat.le_refl _)).up hb.size)
  have HGG := Lib.hid hG
  have HBODY : body E U n p = nam 7 n.s :: brack E n 32 (32 + 1) := by rw [body_7 hc]; rfl
  rw [HBODY]
  clear hm hL hLL hi hi0 hG hGG hh0 hh1 hh2 hw0 hs0 h5 h5a hnode hn hil    
  have HC := Lib.hid hc
  clear hc
  go_enter Tryz.func38, Tryz.ntmps38
  go_wp2_with fail
  refine (spec_leaf n ak ck _).mono ?_
  rw [HLK.out]
  rintro e w2 ⟨rfl, b2⟩
  clear y0 y1 y2 y3 y4
  have HW0 := Lib.hid (show Below w.heap.size w (w2.alloc (.cells #[.int .i64 0, .string (leafS n), .int .i64 0] 56)) from (HW1.out.trans (b2.mono HW1.out.size)).alloc (Nat.le_trans HW1.out.size b2.size) _)
  have HL := Lib.hid (HL1.out.on (show Below (((w.alloc (.cells #[.slice (some ⟨bl, ol, none⟩) m cap, .bool fl] 48)).alloc (.cells #[.int .i64 p.l, .bool p.d, .bool p.i, .bool p.g, .bool p.s] 30)).alloc (.cells #[.int .i64 n.k, .int .i64 n.op, .string n.s, .string n.t, .slice ak n.kids.length ck] 45)).heap.size (((w.alloc (.cells #[.slice (some ⟨bl, ol, none⟩) m cap, .bool fl] 48)).alloc (.cells #[.int .i64 p.l, .bool p.d, .bool p.i, .bool p.g, .bool p.s] 30)).alloc (.cells #[.int .i64 n.k, .int .i64 n.op, .string n.s, .string n.t, .slice ak n.kids.length ck] 45)) (w2.alloc (.cells #[.int .i64 0, .string (leafS n), .int .i64 0] 56)) from b2.alloc b2.size _) (Nat.le_refl _))
  have HY := Lib.hid (show ∀ W, Below (w2.alloc (.cells #[.int .i64 0, .string (leafS n), .int .i64 0] 56)).heap.size (w2.alloc (.cells #[.int .i64 0, .string (leafS n), .int .i64 0] 56)) W → W.cell? ⟨w.heap.size, 0, none⟩ = some (.slice (some ⟨bl, ol, none⟩) m cap) ∧ W.cell? ⟨w.heap.size, 1, none⟩ = some (.bool fl) ∧ W.cell? ⟨(w.heap.size + 1), 0, none⟩ = some (.int .i64 p.l) ∧ W.cell? ⟨(w.heap.size + 1), 1, none⟩ = some (.bool p.d) ∧ W.cell? ⟨(w.heap.size + 1), 2, none⟩ = some (.bool p.i) ∧ W.cell? ⟨(w.heap.size + 1), 3, none⟩ = some (.bool p.g) ∧ W.cell? ⟨(w.heap.size + 1), 4, none⟩ = some (.bool p.s) ∧ W.cell? ⟨(w.heap.size + 1 + 1), 0, none⟩ = some (.int .i64 n.k) ∧ W.cell? ⟨(w.heap.size + 1 + 1), 1, none⟩ = some (.int .i64 n.op) ∧ W.cell? ⟨(w.heap.size + 1 + 1), 2, none⟩ = some (.string n.s) ∧ W.cell? ⟨(w.heap.size + 1 + 1), 3, none⟩ = some (.string n.t) ∧ W.cell? ⟨(w.heap.size + 1 + 1), 4, none⟩ = some (.slice ak n.kids.length ck) from fun W hb => HY1.out W ((b2.alloc b2.size _).trans (hb.mono (b2.alloc b2.size _).size)))
  obtain ⟨f0, f1, f2, f3, f4, f5, f6, f7, f8, f9, f10, f11⟩ := HY.out _ (Below.refl _ _)
  have HI2 := Lib.hid (HLIST.out _ (show Below (((w.alloc (.cells #[.slice (some ⟨bl, ol, none⟩) m cap, .bool fl] 48)).alloc (.cells #[.int .i64 p.l, .bool p.d, .bool p.i, .bool p.g, .bool p.s] 30)).alloc (.cells #[.int .i64 n.k, .int .i64 n.op, .string n.s, .string n.t, .slice ak n.kids.length ck] 45)).heap.size (((w.alloc (.cells #[.slice (some ⟨bl, ol, none⟩) m cap, .bool fl] 48)).alloc (.cells #[.int .i64 p.l, .bool p.d, .bool p.i, .bool p.g, .bool p.s] 30)).alloc (.cells #[.int .i64 n.k, .int .i64 n.op, .string n.s, .string n.t, .slice ak n.kids.length ck] 45)) (w2.alloc (.cells #[.int .i64 0, .string (leafS n), .int .i64 0] 56)) from b2.alloc b2.size _))
  go_wp2_with fail
  refine (named_any (E := E) (nam 7 n.s) n ak ck 32 _ (by decide) HL.out HGG.out.len (fun K hK => HGG.out.kd hK) HI2.out HGG.out.e HGG.out.ls).mono ?_
  rintro e w3 ⟨v3, rfl, b3, o3⟩
  have B3 := Lib.hid (HW0.out.trans (b3.mono HW0.out.size))
  have O3 := Lib.hid (o3.up HW0.out.size)
  clear b3 o3
  go_wp2
  go_ret
  exact ⟨v3, rfl, B3.out, O3.out⟩

set_option maxHeartbeats 3200000 in
theorem node_builtin {l : List Nd} {a : Option Addr} {m cap : Nat} {fl : Bool} {i : Nat} {E U : Nat → Ps → List Tk} (n : Nd) (hc : n.k = 8) (hm : m = l.length) (hmx : m ≤ 1048576) (hi : i < m) (hn : l.getD i default = n) (hGG : ∀ p : Ps, posOk p.l p.d = true → Gis l a m cap fl i n p E U) : CallS 38 l a m cap fl i (fun q => body E U n q) := by
  intro p hq w hL
  show Calls Tryz.prog 38 _ w (Out (body E U n p) w)
  have hG := hGG p hq
  have hil : i < l.length := hm ▸ hi
  rw [getD_at hil] at hn
  have hLL := hL
  obtain ⟨bl, ol, rfl, hbl, hnode⟩ := nd.lies_at hL hil
  obtain ⟨ak, ck, h5, hi0⟩ := hnode i hil
  rw [hn] at h5 hi0
  have hi := hi0
  obtain ⟨hh0, hh1, hh2, hw0, hs0⟩ := three w (.cells #[.slice (some ⟨bl, ol, none⟩) m cap, .bool fl] 48) (.cells #[.int .i64 p.l, .bool p.d, .bool p.i, .bool p.g, .bool p.s] 30) (.cells #[.int .i64 n.k, .int .i64 n.op, .string n.s, .string n.t, .slice ak n.kids.length ck] 45)
  have HY1 := Lib.hid (show ∀ W, Below (((w.alloc (.cells #[.slice (some ⟨bl, ol, none⟩) m cap, .bool fl] 48)).alloc (.cells #[.int .i64 p.l, .bool p.d, .bool p.i, .bool p.g, .bool p.s] 30)).alloc (.cells #[.int .i64 n.k, .int .i64 n.op, .string n.s, .string n.t, .slice ak n.kids.length ck] 45)).heap.size (((w.alloc (.cells #[.slice (some ⟨bl, ol, none⟩) m cap, .bool fl] 48)).alloc (.cells #[.int .i64 p.l, .bool p.d, .bool p.i, .bool p.g, .bool p.s] 30)).alloc (.cells #[.int .i64 n.k, .int .i64 n.op, .string n.s, .string n.t, .slice ak n.kids.length ck] 45)) W → W.cell? ⟨w.heap.size, 0, none⟩ = some (.slice (some ⟨bl, ol, none⟩) m cap) ∧ W.cell? ⟨w.heap.size, 1, none⟩ = some (.bool fl) ∧ W.cell? ⟨(w.heap.size + 1), 0, none⟩ = some (.int .i64 p.l) ∧ W.cell? ⟨(w.heap.size + 1), 1, none⟩ = some (.bool p.d) ∧ W.cell? ⟨(w.heap.size + 1), 2, none⟩ = some (.bool p.i) ∧ W.cell? ⟨(w.heap.size + 1), 3, none⟩ = some (.bool p.g) ∧ W.cell? ⟨(w.heap.size + 1), 4, none⟩ = some (.bool p.s) ∧ W.cell? ⟨(w.heap.size + 1 + 1), 0, none⟩ = some (.int .i64 n.k) ∧ W.cell? ⟨(w.heap.size + 1 + 1), 1, none⟩ = some (.int .i64 n.op) ∧ W.cell? ⟨(w.heap.size + 1 + 1), 2, none⟩ = some (.string n.s) ∧ W.cell? ⟨(w.heap.size + 1 + 1), 3, none⟩ = some (.string n.t) ∧ W.cell? ⟨(w.heap.size + 1 + 1), 4, none⟩ = some (.slice ak n.kids.length ck) from fun W hb => by
    have hh0 := (hb.block w.heap.size (by omega)).trans hh0
    have hh1 := (hb.block (w.heap.size + 1) (by omega)).trans hh1
    have hh2 := (hb.block (w.heap.size + 1 + 1) (by omega)).trans hh2
    exact ⟨by rw [cell_of_row _ _ 0 _ _ _ (hh0)]; rfl, by rw [cell_of_row _ _ 1 _ _ _ (hh0)]; rfl, by rw [cell_of_row _ _ 0 _ _ _ (hh1)]; rfl, by rw [cell_of_row _ _ 1 _ _ _ (hh1)]; rfl, by rw [cell_of_row _ _ 2 _ _ _ (hh1)]; rfl, by rw [cell_of_row _ _ 3 _ _ _ (hh1)]; rfl, by rw [cell_of_row _ _ 4 _ _ _ (hh1)]; rfl, by rw [cell_of_row _ _ 0 _ _ _ (hh2)]; rfl, by rw [cell_of_row _ _ 1 _ _ _ (hh2)]; rfl, by rw [cell_of_row _ _ 2 _ _ _ (hh2)]; rfl, by rw [cell_of_row _ _ 3 _ _ _ (hh2)]; rfl, by rw [cell_of_row _ _ 4 _ _ _ (hh2)]; rfl⟩)
  have HW1 := Lib.hid hw0
  have HL1 := Lib.hid (hLL.on hw0 (Nat.le_refl _))
  have h5a := h5.keep (show Below w.heap.size w (w.alloc (.cells #[.slice (some ⟨bl, ol, none⟩) m cap, .bool fl] 48)) from (Below.refl _ _).alloc (Nat.le_refl _) _) hbl
  have h5b := h5a.keep (show Below w.heap.size (w.alloc (.cells #[.slice (some ⟨bl, ol, none⟩) m cap, .bool fl] 48)) ((w.alloc (.cells #[.slice (some ⟨bl, ol, none⟩) m cap, .bool fl] 48)).alloc (.cells #[.int .i64 p.l, .bool p.d, .bool p.i, .bool p.g, .bool p.s] 30)) from (Below.refl _ _).alloc (by simp) _) hbl
  obtain ⟨y0, y1, y2, y3, y4⟩ := h5b
  have HLK := Lib.hid (show leafK n = 0 by simp [leafK, hc])
  have hii1 : (0 : Int) ≤ (i : Int) := by omega
  have hii2 : (i : Int) < (m : Int) := by omega
  obtain ⟨x5, x5'⟩ := rt.ne_facts (show ¬ n.k = 5 by omega)
  obtain ⟨x7, x7'⟩ := rt.ne_facts (show ¬ n.k = 7 by omega)
  obtain ⟨x8, x8'⟩ := rt.eq_facts (show n.k = 8 by omega)
  obtain ⟨x9, x9'⟩ := rt.ne_facts (show ¬ n.k = 9 by omega)
  obtain ⟨x10, x10'⟩ := rt.ne_facts (show ¬ n.k = 10 by omega)
  obtain ⟨x15, x15'⟩ := rt.ne_facts (show ¬ n.k = 15 by omega)
  obtain ⟨x6, x6'⟩ := rt.ne_facts (show ¬ n.k = 6 by omega)
  obtain ⟨x11, x11'⟩ := rt.ne_facts (show ¬ n.k = 11 by omega)
  obtain ⟨x13, x13'⟩ := rt.ne_facts (show ¬ n.k = 13 by omega)
  have HLIST := Lib.hid (show ∀ W, Below (((w.alloc (.cells #[.slice (some ⟨bl, ol, none⟩) m cap, .bool fl] 48)).alloc (.cells #[.int .i64 p.l, .bool p.d, .bool p.i, .bool p.g, .bool p.s] 30)).alloc (.cells #[.int .i64 n.k, .int .i64 n.op, .string n.s, .string n.t, .slice ak n.kids.length ck] 45)).heap.size (((w.alloc (.cells #[.slice (some ⟨bl, ol, none⟩) m cap, .bool fl] 48)).alloc (.cells #[.int .i64 p.l, .bool p.d, .bool p.i, .bool p.g, .bool p.s] 30)).alloc (.cells #[.int .i64 n.k, .int .i64 n.op, .string n.s, .string n.t, .slice ak n.kids.length ck] 45)) W → Ints W.heap.size W ak n.kids from fun W hb => (((hi0.keep hw0 (Nat.le_refl _)).up hw0.size).keep hb (Nat.le_refl _)).up hb.size)
  have HGG := Lib.hid hG
  have HBODY : body E U n p = nam 8 n.s :: brack E n 32 (32 + 1) := by rw [body_8 hc]; rfl
  rw [HBODY]
  clear hm hL hLL hi hi0 hG hGG hh0 hh1 hh2 hw0 hs0 h5 h5a hnode hn hil    
  have HC := Lib.hid hc
  clear hc
  go_enter Tryz.func38, Tryz.ntmps38
  go_wp2_with fail
  refine (spec_leaf n ak ck _).mono ?_
  rw [HLK.out]
  rintro e w2 ⟨rfl, b2⟩
  clear y0 y1 y2 y3 y4
  have HW0 := Lib.hid (show Below w.heap.size w (w2.alloc (.cells #[.int .i64 0, .string (leafS n), .int .i64 0] 56)) from (HW1.out.trans (b2.mono HW1.out.size)).alloc (Nat.le_trans HW1.out.size b2.size) _)
  have HL := Lib.hid (HL1.out.on (show Below (((w.alloc (.cells #[.slice (some ⟨bl, ol, none⟩) m cap, .bool fl] 48)).alloc (.cells #[.int .i64 p.l, .bool p.d, .bool p.i, .bool p.g, .bool p.s] 30)).alloc (.cells #[.int .i64 n.k, .int .i64 n.op, .string n.s, .string n.t, .slice ak n.kids.length ck] 45)).heap.size (((w.alloc (.cells #[.slice (some ⟨bl, ol, none⟩) m cap, .bool fl] 48)).alloc (.cells #[.int .i64 p.l, .bool p.d, .bool p.i, .bool p.g, .bool p.s] 30)).alloc (.cells #[.int .i64 n.k, .int .i64 n.op, .string n.s, .string n.t, .slice ak n.kids.length ck] 45)) (w2.alloc (.cells #[.int .i64 0, .string (leafS n), .int .i64 0] 56)) from b2.alloc b2.size _) (Nat.le_refl _))
  have HY := Lib.hid (show ∀ W, Below (w2.alloc (.cells #[.int .i64 0, .string (leafS n), .int .i64 0] 56)).heap.size (w2.alloc (.cells #[.int .i64 0, .string (leafS n), .int .i64 0] 56)) W → W.cell? ⟨w.heap.size, 0, none⟩ = some (.slice (some ⟨bl, ol, none⟩) m cap) ∧ W.cell? ⟨w.heap.size, 1, none⟩ = some (.bool fl) ∧ W.cell? ⟨(w.heap.size + 1), 0, none⟩ = some (.int .i64 p.l) ∧ W.cell? ⟨(w.heap.size + 1), 1, none⟩ = some (.bool p.d) ∧ W.cell? ⟨(w.heap.size + 1), 2, none⟩ = some (.bool p.i) ∧ W.cell? ⟨(w.heap.size + 1), 3, none⟩ = some (.bool p.g) ∧ W.cell? ⟨(w.heap.size + 1), 4, none⟩ = some (.bool p.s) ∧ W.cell? ⟨(w.heap.size + 1 + 1), 0, none⟩ = some (.int .i64 n.k) ∧ W.cell? ⟨(w.heap.size + 1 + 1), 1, none⟩ = some (.int .i64 n.op) ∧ W.cell? ⟨(w.heap.size + 1 + 1), 2, none⟩ = some (.string n.s) ∧ W.cell? ⟨(w.heap.size + 1 + 1), 3, none⟩ = some (.string n.t) ∧ W.cell? ⟨(w.heap.size + 1 + 1), 4, none⟩ = some (.slice ak n.kids.length ck) from fun W hb => HY1.out W ((b2.alloc b2.size _).trans (hb.mono (b2.alloc b2.size _).size)))
  obtain ⟨f0, f1, f2, f3, f4, f5, f6, f7, f8, f9, f10, f11⟩ := HY.out _ (Below.refl _ _)
  have HI2 := Lib.hid (HLIST.out _ (show Below (((w.alloc (.cells #[.slice (some ⟨bl, ol, none⟩) m cap, .bool fl] 48)).alloc (.cells #[.int .i64 p.l, .bool p.d, .bool p.i, .bool p.g, .bool p.s] 30)).alloc (.cells #[.int .i64 n.k, .int .i64 n.op, .string n.s, .string n.t, .slice ak n.kids.length ck] 45)).heap.size (((w.alloc (.cells #[.slice (some ⟨bl, ol, none⟩) m cap, .bool fl] 48)).alloc (.cells #[.int .i64 p.l, .bool p.d, .bool p.i, .bool p.g, .bool p.s] 30)).alloc (.cells #[.int .i64 n.k, .int .i64 n.op, .string n.s, .string n.t, .slice ak n.kids.length ck] 45)) (w2.alloc (.cells #[.int .i64 0, .string (leafS n), .int .i64 0] 56)) from b2.alloc b2.size _))
  go_wp2_with fail
  refine (named_any (E := E) (nam 8 n.s) n ak ck 32 _ (by decide) HL.out HGG.out.len (fun K hK => HGG.out.kd hK) HI2.out HGG.out.e HGG.out.ls).mono ?_
  rintro e w3 ⟨v3, rfl, b3, o3⟩
  have B3 := Lib.hid (HW0.out.trans (b3.mono HW0.out.size))
  have O3 := Lib.hid (o3.up HW0.out.size)
  clear b3 o3
  go_wp2
  go_ret
  exact ⟨v3, rfl, B3.out, O3.out⟩

set_option maxHeartbeats 3200000 in
theorem node_bin {l : List Nd} {a : Option Addr} {m cap : Nat} {fl : Bool} {i : Nat} {E U : Nat → Ps → List Tk} (n : Nd) (hc : n.k = 12) (hm : m = l.length) (hmx : m ≤ 1048576) (hi : i < m) (hn : l.getD i default = n) (hGG : ∀ p : Ps, posOk p.l p.d = true → Gis l a m cap fl i n p E U) : CallS 38 l a m cap fl i (fun q => body E U n q) := by
  intro p hq w hL
  show Calls Tryz.prog 38 _ w (Out (body E U n p) w)
  have hG := hGG p hq
  have hil : i < l.length := hm ▸ hi
  rw [getD_at hil] at hn
  have hLL := hL
  obtain ⟨bl, ol, rfl, hbl, hnode⟩ := nd.lies_at hL hil
  obtain ⟨ak, ck, h5, hi0⟩ := hnode i hil
  rw [hn] at h5 hi0
  have hi := hi0
  obtain ⟨hh0, hh1, hh2, hw0, hs0⟩ := three w (.cells #[.slice (some ⟨bl, ol, none⟩) m cap, .bool fl] 48) (.cells #[.int .i64 p.l, .bool p.d, .bool p.i, .bool p.g, .bool p.s] 30) (.cells #[.int .i64 n.k, .int .i64 n.op, .string n.s, .string n.t, .slice ak n.kids.length ck] 45)
  have HY1 := Lib.hid (show ∀ W, Below (((w.alloc (.cells #[.slice (some ⟨bl, ol, none⟩) m cap, .bool fl] 48)).alloc (.cells #[.int .i64 p.l, .bool p.d, .bool p.i, .bool p.g, .bool p.s] 30)).alloc (.cells #[.int .i64 n.k, .int .i64 n.op, .string n.s, .string n.t, .slice ak n.kids.length ck] 45)).heap.size (((w.alloc (.cells #[.slice (some ⟨bl, ol, none⟩) m cap, .bool fl] 48)).alloc (.cells #[.int .i64 p.l, .bool p.d, .bool p.i, .bool p.g, .bool p.s] 30)).alloc (.cells #[.int .i64 n.k, .int .i64 n.op, .string n.s, .string n.t, .slice ak n.kids.length ck] 45)) W → W.cell? ⟨w.heap.size, 0, none⟩ = some (.slice (some ⟨bl, ol, none⟩) m cap) ∧ W.cell? ⟨w.heap.size, 1, none⟩ = some (.bool fl) ∧ W.cell? ⟨(w.heap.size + 1), 0, none⟩ = some (.int .i64 p.l) ∧ W.cell? ⟨(w.heap.size + 1), 1, none⟩ = some (.bool p.d) ∧ W.cell? ⟨(w.heap.size + 1), 2, none⟩ = some (.bool p.i) ∧ W.cell? ⟨(w.heap.size + 1), 3, none⟩ = some (.bool p.g) ∧ W.cell? ⟨(w.heap.size + 1), 4, none⟩ = some (.bool p.s) ∧ W.cell? ⟨(w.heap.size + 1 + 1), 0, none⟩ = some (.int .i64 n.k) ∧ W.cell? ⟨(w.heap.size + 1 + 1), 1, none⟩ = some (.int .i64 n.op) ∧ W.cell? ⟨(w.heap.size + 1 + 1), 2, none⟩ = some (.string n.s) ∧ W.cell? ⟨(w.heap.size + 1 + 1), 3, none⟩ = some (.string n.t) ∧ W.cell? ⟨(w.heap.size + 1 + 1), 4, none⟩ = some (.slice ak n.kids.length ck) from fun W hb => by
    have hh0 := (hb.block w.heap.size (by omega)).trans hh0
    have hh1 := (hb.block (w.heap.size + 1) (by omega)).trans hh1
    have hh2 := (hb.block (w.heap.size + 1 + 1) (by omega)).trans hh2
    exact ⟨by rw [cell_of_row _ _ 0 _ _ _ (hh0)]; rfl, by rw [cell_of_row _ _ 1 _ _ _ (hh0)]; rfl, by rw [cell_of_row _ _ 0 _ _ _ (hh1)]; rfl, by rw [cell_of_row _ _ 1 _ _ _ (hh1)]; rfl, by rw [cell_of_row _ _ 2 _ _ _ (hh1)]; rfl, by rw [cell_of_row _ _ 3 _ _ _ (hh1)]; rfl, by rw [cell_of_row _ _ 4 _ _ _ (hh1)]; rfl, by rw [cell_of_row _ _ 0 _ _ _ (hh2)]; rfl, by rw [cell_of_row _ _ 1 _ _ _ (hh2)]; rfl, by rw [cell_of_row _ _ 2 _ _ _ (hh2)]; rfl, by rw [cell_of_row _ _ 3 _ _ _ (hh2)]; rfl, by rw [cell_of_row _ _ 4 _ _ _ (hh2)]; rfl⟩)
  have HW1 := Lib.hid hw0
  have HL1 := Lib.hid (hLL.on hw0 (Nat.le_refl _))
  have h5a := h5.keep (show Below w.heap.size w (w.alloc (.cells #[.slice (some ⟨bl, ol, none⟩) m cap, .bool fl] 48)) from (Below.refl _ _).alloc (Nat.le_refl _) _) hbl
  have h5b := h5a.keep (show Below w.heap.size (w.alloc (.cells #[.slice (some ⟨bl, ol, none⟩) m cap, .bool fl] 48)) ((w.alloc (.cells #[.slice (some ⟨bl, ol, none⟩) m cap, .bool fl] 48)).alloc (.cells #[.int .i64 p.l, .bool p.d, .bool p.i, .bool p.g, .bool p.s] 30)) from (Below.refl _ _).alloc (by simp) _) hbl
  obtain ⟨y0, y1, y2, y3, y4⟩ := h5b
  have HLK := Lib.hid (show leafK n = 0 by simp [leafK, hc])
  have hii1 : (0 : Int) ≤ (i : Int) := by omega
  have hii2 : (i : Int) < (m : Int) := by omega
  obtain ⟨x5, x5'⟩ := rt.ne_facts (show ¬ n.k = 5 by omega)
  obtain ⟨x7, x7'⟩ := rt.ne_facts (show ¬ n.k = 7 by omega)
  obtain ⟨x8, x8'⟩ := rt.ne_facts (show ¬ n.k = 8 by omega)
  obtain ⟨x9, x9'⟩ := rt.ne_facts (show ¬ n.k = 9 by omega)
  obtain ⟨x10, x10'⟩ := rt.ne_facts (show ¬ n.k = 10 by omega)
  obtain ⟨x15, x15'⟩ := rt.ne_facts (show ¬ n.k = 15 by omega)
  obtain ⟨x6, x6'⟩ := rt.ne_facts (show ¬ n.k = 6 by omega)
  obtain ⟨x11, x11'⟩ := rt.ne_facts (show ¬ n.k = 11 by omega)
  obtain ⟨x13, x13'⟩ := rt.ne_facts (show ¬ n.k = 13 by omega)
  have HGG := Lib.hid hG
  have HLIST0 := Lib.hid (show ∀ W, Below (((w.alloc (.cells #[.slice (some ⟨bl, ol, none⟩) m cap, .bool fl] 48)).alloc (.cells #[.int .i64 p.l, .bool p.d, .bool p.i, .bool p.g, .bool p.s] 30)).alloc (.cells #[.int .i64 n.k, .int .i64 n.op, .string n.s, .string n.t, .slice ak n.kids.length ck] 45)).heap.size (((w.alloc (.cells #[.slice (some ⟨bl, ol, none⟩) m cap, .bool fl] 48)).alloc (.cells #[.int .i64 p.l, .bool p.d, .bool p.i, .bool p.g, .bool p.s] 30)).alloc (.cells #[.int .i64 n.k, .int .i64 n.op, .string n.s, .string n.t, .slice ak n.kids.length ck] 45)) W → Ints W.heap.size W ak n.kids from fun W hb => (((hi0.keep hw0 (Nat.le_refl _)).up hw0.size).keep hb (Nat.le_refl _)).up hb.size)
  clear hm hL hLL hi hi0 hG hGG hh0 hh1 hh2 hw0 hs0 h5 h5a hnode hn hil    
  have HC := Lib.hid hc
  clear hc
  go_enter Tryz.func38, Tryz.ntmps38
  go_wp2_with fail
  refine (spec_leaf n ak ck _).mono ?_
  rw [HLK.out]
  rintro e w2 ⟨rfl, b2⟩
  clear y0 y1 y2 y3 y4
  have HW0 := Lib.hid (show Below w.heap.size w (w2.alloc (.cells #[.int .i64 0, .string (leafS n), .int .i64 0] 56)) from (HW1.out.trans (b2.mono HW1.out.size)).alloc (Nat.le_trans HW1.out.size b2.size) _)
  have HL := Lib.hid (HL1.out.on (show Below (((w.alloc (.cells #[.slice (some ⟨bl, ol, none⟩) m cap, .bool fl] 48)).alloc (.cells #[.int .i64 p.l, .bool p.d, .bool p.i, .bool p.g, .bool p.s] 30)).alloc (.cells #[.int .i64 n.k, .int .i64 n.op, .string n.s, .string n.t, .slice ak n.kids.length ck] 45)).heap.size (((w.alloc (.cells #[.slice (some ⟨bl, ol, none⟩) m cap, .bool fl] 48)).alloc (.cells #[.int .i64 p.l, .bool p.d, .bool p.i, .bool p.g, .bool p.s] 30)).alloc (.cells #[.int .i64 n.k, .int .i64 n.op, .string n.s, .string n.t, .slice ak n.kids.length ck] 45)) (w2.alloc (.cells #[.int .i64 0, .string (leafS n), .int .i64 0] 56)) from b2.alloc b2.size _) (Nat.le_refl _))
  have HY := Lib.hid (show ∀ W, Below (w2.alloc (.cells #[.int .i64 0, .string (leafS n), .int .i64 0] 56)).heap.size (w2.alloc (.cells #[.int .i64 0, .string (leafS n), .int .i64 0] 56)) W → W.cell? ⟨w.heap.size, 0, none⟩ = some (.slice (some ⟨bl, ol, none⟩) m cap) ∧ W.cell? ⟨w.heap.size, 1, none⟩ = some (.bool fl) ∧ W.cell? ⟨(w.heap.size + 1), 0, none⟩ = some (.int .i64 p.l) ∧ W.cell? ⟨(w.heap.size + 1), 1, none⟩ = some (.bool p.d) ∧ W.cell? ⟨(w.heap.size + 1), 2, none⟩ = some (.bool p.i) ∧ W.cell? ⟨(w.heap.size + 1), 3, none⟩ = some (.bool p.g) ∧ W.cell? ⟨(w.heap.size + 1), 4, none⟩ = some (.bool p.s) ∧ W.cell? ⟨(w.heap.size + 1 + 1), 0, none⟩ = some (.int .i64 n.k) ∧ W.cell? ⟨(w.heap.size + 1 + 1), 1, none⟩ = some (.int .i64 n.op) ∧ W.cell? ⟨(w.heap.size + 1 + 1), 2, none⟩ = some (.string n.s) ∧ W.cell? ⟨(w.heap.size + 1 + 1), 3, none⟩ = some (.string n.t) ∧ W.cell? ⟨(w.heap.size + 1 + 1), 4, none⟩ = some (.slice ak n.kids.length ck) from fun W hb => HY1.out W ((b2.alloc b2.size _).trans (hb.mono (b2.alloc b2.size _).size)))
  obtain ⟨f0, f1, f2, f3, f4, f5, f6, f7, f8, f9, f10, f11⟩ := HY.out _ (Below.refl _ _)
  have HI2 := Lib.hid (HLIST0.out _ (show Below (((w.alloc (.cells #[.slice (some ⟨bl, ol, none⟩) m cap, .bool fl] 48)).alloc (.cells #[.int .i64 p.l, .bool p.d, .bool p.i, .bool p.g, .bool p.s] 30)).alloc (.cells #[.int .i64 n.k, .int .i64 n.op, .string n.s, .string n.t, .slice ak n.kids.length ck] 45)).heap.size (((w.alloc (.cells #[.slice (some ⟨bl, ol, none⟩) m cap, .bool fl] 48)).alloc (.cells #[.int .i64 p.l, .bool p.d, .bool p.i, .bool p.g, .bool p.s] 30)).alloc (.cells #[.int .i64 n.k, .int .i64 n.op, .string n.s, .string n.t, .slice ak n.kids.length ck] 45)) (w2.alloc (.cells #[.int .i64 0, .string (leafS n), .int .i64 0] 56)) from b2.alloc b2.size _))
  go_wp2_with fail
  refine (sides_bin n ak ck p _ HC.out HL.out HI2.out HGG.out).mono ?_
  rintro e w3 ⟨v3, rfl, b3, o3⟩
  have B3 := Lib.hid (HW0.out.trans (b3.mono HW0.out.size))
  have O3 := Lib.hid (o3.up HW0.out.size)
  clear b3 o3
  go_wp2
  go_ret
  exact ⟨v3, rfl, B3.out, O3.out⟩

set_option maxHeartbeats 3200000 in
theorem node_cond {l : List Nd} {a : Option Addr} {m cap : Nat} {fl : Bool} {i : Nat} {E U : Nat → Ps → List Tk} (n : Nd) (hc : n.k = 14) (hm : m = l.length) (hmx : m ≤ 1048576) (hi : i < m) (hn : l.getD i default = n) (hGG : ∀ p : Ps, posOk p.l p.d = true → Gis l a m cap fl i n p E U) : CallS 38 l a m cap fl i (fun q => body E U n q) := by
  intro p hq w hL
  show Calls Tryz.prog 38 _ w (Out (body E U n p) w)
  have hG := hGG p hq
  have hil : i < l.length := hm ▸ hi
  rw [getD_at hil] at hn
  have hLL := hL
  obtain ⟨bl, ol, rfl, hbl, hnode⟩ := nd.lies_at hL hil
  obtain ⟨ak, ck, h5, hi0⟩ := hnode i hil
  rw [hn] at h5 hi0
  have hi := hi0
  obtain ⟨hh0, hh1, hh2, hw0, hs0⟩ := three w (.cells #[.slice (some ⟨bl, ol, none⟩) m cap, .bool fl] 48) (.cells #[.int .i64 p.l, .bool p.d, .bool p.i, .bool p.g, .bool p.s] 30) (.cells #[.int .i64 n.k, .int .i64 n.op, .string n.s, .string n.t, .slice ak n.kids.length ck] 45)
  have HY1 := Lib.hid (show ∀ W, Below (((w.alloc (.cells #[.slice (some ⟨bl, ol, none⟩) m cap, .bool fl] 48)).alloc (.cells #[.int .i64 p.l, .bool p.d, .bool p.i, .bool p.g, .bool p.s] 30)).alloc (.cells #[.int .i64 n.k, .int .i64 n.op, .string n.s, .string n.t, .slice ak n.kids.length ck] 45)).heap.size (((w.alloc (.cells #[.slice (some ⟨bl, ol, none⟩) m cap, .bool fl] 48)).alloc (.cells #[.int .i64 p.l, .bool p.d, .bool p.i, .bool p.g, .bool p.s] 30)).alloc (.cells #[.int .i64 n.k, .int .i64 n.op, .string n.s, .string n.t, .slice ak n.kids.length ck] 45)) W → W.cell? ⟨w.heap.size, 0, none⟩ = some (.slice (some ⟨bl, ol, none⟩) m cap) ∧ W.cell? ⟨w.heap.size, 1, none⟩ = some (.bool fl) ∧ W.cell? ⟨(w.heap.size + 1), 0, none⟩ = some (.int .i64 p.l) ∧ W.cell? ⟨(w.heap.size + 1), 1, none⟩ = some (.bool p.d) ∧ W.cell? ⟨(w.heap.size + 1), 2, none⟩ = some (.bool p.i) ∧ W.cell? ⟨(w.heap.size + 1), 3, none⟩ = some (.bool p.g) ∧ W.cell? ⟨(w.heap.size + 1), 4, none⟩ = some (.bool p.s) ∧ W.cell? ⟨(w.heap.size + 1 + 1), 0, none⟩ = some (.int .i64 n.k) ∧ W.cell? ⟨(w.heap.size + 1 + 1), 1, none⟩ = some (.int .i64 n.op) ∧ W.cell? ⟨(w.heap.size + 1 + 1), 2, none⟩ = some (.string n.s) ∧ W.cell? ⟨(w.heap.size + 1 + 1), 3, none⟩ = some (.string n.t) ∧ W.cell? ⟨(w.heap.size + 1 + 1), 4, none⟩ = some (.slice ak n.kids.length ck) from fun W hb => by
    have hh0 := (hb.block w.heap.size (by omega)).trans hh0
    have hh1 := (hb.block (w.heap.size + 1) (by omega)).trans hh1
    have hh2 := (hb.block (w.heap.size + 1 + 1) (by omega)).trans hh2
    exact ⟨by rw [cell_of_row _ _ 0 _ _ _ (hh0)]; rfl, by rw [cell_of_row _ _ 1 _ _ _ (hh0)]; rfl, by rw [cell_of_row _ _ 0 _ _ _ (hh1)]; rfl, by rw [cell_of_row _ _ 1 _ _ _ (hh1)]; rfl, by rw [cell_of_row _ _ 2 _ _ _ (hh1)]; rfl, by rw [cell_of_row _ _ 3 _ _ _ (hh1)]; rfl, by rw [cell_of_row _ _ 4 _ _ _ (hh1)]; rfl, by rw [cell_of_row _ _ 0 _ _ _ (hh2)]; rfl, by rw [cell_of_row _ _ 1 _ _ _ (hh2)]; rfl, by rw [cell_of_row _ _ 2 _ _ _ (hh2)]; rfl, by rw [cell_of_row _ _ 3 _ _ _ (hh2)]; rfl, by rw [cell_of_row _ _ 4 _ _ _ (hh2)]; rfl⟩)
  have HW1 := Lib.hid hw0
  have HL1 := Lib.hid (hLL.on hw0 (Nat.le_refl _))
  have h5a := h5.keep (show Below w.heap.size w (w.alloc (.cells #[.slice (some ⟨bl, ol, none⟩) m cap, .bool fl] 48)) from (Below.refl _ _).alloc (Nat.le_refl _) _) hbl
  have h5b := h5a.keep (show Below w.heap.size (w.alloc (.cells #[.slice (some ⟨bl, ol, none⟩) m cap, .bool fl] 48)) ((w.alloc (.cells #[.slice (some ⟨bl, ol, none⟩) m cap, .bool fl] 48)).alloc (.cells #[.int .i64 p.l, .bool p.d, .bool p.i, .bool p.g, .bool p.s] 30)) from (Below.refl _ _).alloc (by simp) _) hbl
  obtain ⟨y0, y1, y2, y3, y4⟩ := h5b
  have HLK := Lib.hid (show leafK n = 0 by simp [leafK, hc])
  have hii1 : (0 : Int) ≤ (i : Int) := by omega
  have hii2 : (i : Int) < (m : Int) := by omega
  obtain ⟨x5, x5'⟩ := rt.ne_facts (show ¬ n.k = 5 by omega)
  obtain ⟨x7, x7'⟩ := rt.ne_facts (show ¬ n.k = 7 by omega)
  obtain ⟨x8, x8'⟩ := rt.ne_facts (show ¬ n.k = 8 by omega)
  obtain ⟨x9, x9'⟩ := rt.ne_facts (show ¬ n.k = 9 by omega)
  obtain ⟨x10, x10'⟩ := rt.ne_facts (show ¬ n.k = 10 by omega)
  obtain ⟨x15, x15'⟩ := rt.ne_facts (show ¬ n.k = 15 by omega)
  obtain ⟨x6, x6'⟩ := rt.ne_facts (show ¬ n.k = 6 by omega)
  obtain ⟨x11, x11'⟩ := rt.ne_facts (show ¬ n.k = 11 by omega)
  obtain ⟨x13, x13'⟩ := rt.ne_facts (show ¬ n.k = 13 by omega)
  have HGG := Lib.hid hG
  have HLIST0 := Lib.hid (show ∀ W, Below (((w.alloc (.cells #[.slice (some ⟨bl, ol, none⟩) m cap, .bool fl] 48)).alloc (.cells #[.int .i64 p.l, .bool p.d, .bool p.i, .bool p.g, .bool p.s] 30)).alloc (.cells #[.int .i64 n.k, .int .i64 n.op, .string n.s, .string n.t, .slice ak n.kids.length ck] 45)).heap.size (((w.alloc (.cells #[.slice (some ⟨bl, ol, none⟩) m cap, .bool fl] 48)).alloc (.cells #[.int .i64 p.l, .bool p.d, .bool p.i, .bool p.g, .bool p.s] 30)).alloc (.cells #[.int .i64 n.k, .int .i64 n.op, .string n.s, .string n.t, .slice ak n.kids.length ck] 45)) W → Ints W.heap.size W ak n.kids from fun W hb => (((hi0.keep hw0 (Nat.le_refl _)).up hw0.size).keep hb (Nat.le_refl _)).up hb.size)
  clear hm hL hLL hi hi0 hG hGG hh0 hh1 hh2 hw0 hs0 h5 h5a hnode hn hil    
  have HC := Lib.hid hc
  clear hc
  go_enter Tryz.func38, Tryz.ntmps38
  go_wp2_with fail
  refine (spec_leaf n ak ck _).mono ?_
  rw [HLK.out]
  rintro e w2 ⟨rfl, b2⟩
  clear y0 y1 y2 y3 y4
  have HW0 := Lib.hid (show Below w.heap.size w (w2.alloc (.cells #[.int .i64 0, .string (leafS n), .int .i64 0] 56)) from (HW1.out.trans (b2.mono HW1.out.size)).alloc (Nat.le_trans HW1.out.size b2.size) _)
  have HL := Lib.hid (HL1.out.on (show Below (((w.alloc (.cells #[.slice (some ⟨bl, ol, none⟩) m cap, .bool fl] 48)).alloc (.cells #[.int .i64 p.l, .bool p.d, .bool p.i, .bool p.g, .bool p.s] 30)).alloc (.cells #[.int .i64 n.k, .int .i64 n.op, .string n.s, .string n.t, .slice ak n.kids.length ck] 45)).heap.size (((w.alloc (.cells #[.slice (some ⟨bl, ol, none⟩) m cap, .bool fl] 48)).alloc (.cells #[.int .i64 p.l, .bool p.d, .bool p.i, .bool p.g, .bool p.s] 30)).alloc (.cells #[.int .i64 n.k, .int .i64 n.op, .string n.s, .string n.t, .slice ak n.kids.length ck] 45)) (w2.alloc (.cells #[.int .i64 0, .string (leafS n), .int .i64 0] 56)) from b2.alloc b2.size _) (Nat.le_refl _))
  have HY := Lib.hid (show ∀ W, Below (w2.alloc (.cells #[.int .i64 0, .string (leafS n), .int .i64 0] 56)).heap.size (w2.alloc (.cells #[.int .i64 0, .string (leafS n), .int .i64 0] 56)) W → W.cell? ⟨w.heap.size, 0, none⟩ = some (.slice (some ⟨bl, ol, none⟩) m cap) ∧ W.cell? ⟨w.heap.size, 1, none⟩ = some (.bool fl) ∧ W.cell? ⟨(w.heap.size + 1), 0, none⟩ = some (.int .i64 p.l) ∧ W.cell? ⟨(w.heap.size + 1), 1, none⟩ = some (.bool p.d) ∧ W.cell? ⟨(w.heap.size + 1), 2, none⟩ = some (.bool p.i) ∧ W.cell? ⟨(w.heap.size + 1), 3, none⟩ = some (.bool p.g) ∧ W.cell? ⟨(w.heap.size + 1), 4, none⟩ = some (.bool p.s) ∧ W.cell? ⟨(w.heap.size + 1 + 1), 0, none⟩ = some (.int .i64 n.k) ∧ W.cell? ⟨(w.heap.size + 1 + 1), 1, none⟩ = some (.int .i64 n.op) ∧ W.cell? ⟨(w.heap.size + 1 + 1), 2, none⟩ = some (.string n.s) ∧ W.cell? ⟨(w.heap.size + 1 + 1), 3, none⟩ = some (.string n.t) ∧ W.cell? ⟨(w.heap.size + 1 + 1), 4, none⟩ = some (.slice ak n.kids.length ck) from fun W hb => HY1.out W ((b2.alloc b2.size _).trans (hb.mono (b2.alloc b2.size _).size)))
  obtain ⟨f0, f1, f2, f3, f4, f5, f6, f7, f8, f9, f10, f11⟩ := HY.out _ (Below.refl _ _)
  have HI2 := Lib.hid (HLIST0.out _ (show Below (((w.alloc (.cells #[.slice (some ⟨bl, ol, none⟩) m cap, .bool fl] 48)).alloc (.cells #[.int .i64 p.l, .bool p.d, .bool p.i, .bool p.g, .bool p.s] 30)).alloc (.cells #[.int .i64 n.k, .int .i64 n.op, .string n.s, .string n.t, .slice ak n.kids.length ck] 45)).heap.size (((w.alloc (.cells #[.slice (some ⟨bl, ol, none⟩) m cap, .bool fl] 48)).alloc (.cells #[.int .i64 p.l, .bool p.d, .bool p.i, .bool p.g, .bool p.s] 30)).alloc (.cells #[.int .i64 n.k, .int .i64 n.op, .string n.s, .string n.t, .slice ak n.kids.length ck] 45)) (w2.alloc (.cells #[.int .i64 0, .string (leafS n), .int .i64 0] 56)) from b2.alloc b2.size _))
  go_wp2_with fail
  refine (sides_cond n ak ck p _ HC.out HL.out HI2.out HGG.out).mono ?_
  rintro e w3 ⟨v3, rfl, b3, o3⟩
  have B3 := Lib.hid (HW0.out.trans (b3.mono HW0.out.size))
  have O3 := Lib.hid (o3.up HW0.out.size)
  clear b3 o3
  go_wp2
  go_ret
  exact ⟨v3, rfl, B3.out, O3.out⟩
end Go.Proofs.YtdikohegclooiaaGreatDoor.st

namespace Go.Proofs.YtdikohegclooiaaGreatDoor.st
open Go.ChangeShapes Go.WideShapes Go.ChangeAt Go.RowKit
open tk (Tk)
open nd (Nd Ints)
open ps (Ps posOk kidI top)
open spell (Held)
open et
set_option linter.unusedVariables false
set_option linter.unusedSimpArgs false
set_option maxRecDepth 20000

set_option maxHeartbeats 3200000 in
theorem node_field {l : List Nd} {a : Option Addr} {m cap : Nat} {fl : Bool} {i : Nat} {E U : Nat → Ps → List Tk} (n : Nd) (hc : n.k = 6) (hm : m = l.length) (hmx : m ≤ 1048576) (hi : i < m) (hn : l.getD i default = n) (hGG : ∀ p : Ps, posOk p.l p.d = true → Gis l a m cap fl i n p E U) : CallS 38 l a m cap fl i (fun q => body E U n q) := by
  intro p hq w hL
  show Calls Tryz.prog 38 _ w (Out (body E U n p) w)
  have hG := hGG p hq
  have hil : i < l.length := hm ▸ hi
  rw [getD_at hil] at hn
  have hLL := hL
  obtain ⟨bl, ol, rfl, hbl, hnode⟩ := nd.lies_at hL hil
  obtain ⟨ak, ck, h5, hi0⟩ := hnode i hil
  rw [hn] at h5 hi0
  have hi := hi0
  have hlen : n.kids.length = 1 := hG.good.one (by omega)
  have hk0 : 0 < n.kids.length := by have := hlen; omega
  obtain ⟨bk, ok, hak, hbk, hkc0⟩ := kidc hi (Below.refl _ _) hk0 (hG.kd hk0)
  subst hak
  rw [Nat.add_zero] at hkc0
  have HKP0 := Lib.hid (hG.kpos hk0 0 rfl (some ⟨bk, ok, none⟩) ck)
  have HE0 := Lib.hid (hG.e 0 hk0)
  have HQ0 := Lib.hid (show posOk (kp n 0 p).l (kp n 0 p).d = true from hG.q hk0)
  have hle0 := hG.le 0 hk0 (kp n 0 p)
  have hkz : (0 : Int) ≤ (n.kids.length : Int) := by omega
  have hkn : (0 : Int) < (n.kids.length : Int) := by omega
  have hkb : (n.kids.length : Int) ≤ 1048576 := by have := hG.len; omega
  obtain ⟨hh0, hh1, hh2, hw0, hs0⟩ := three w (.cells #[.slice (some ⟨bl, ol, none⟩) m cap, .bool fl] 48) (.cells #[.int .i64 p.l, .bool p.d, .bool p.i, .bool p.g, .bool p.s] 30) (.cells #[.int .i64 n.k, .int .i64 n.op, .string n.s, .string n.t, .slice (some ⟨bk, ok, none⟩) n.kids.length ck] 45)
  have HY1 := Lib.hid (show ∀ W, Below (((w.alloc (.cells #[.slice (some ⟨bl, ol, none⟩) m cap, .bool fl] 48)).alloc (.cells #[.int .i64 p.l, .bool p.d, .bool p.i, .bool p.g, .bool p.s] 30)).alloc (.cells #[.int .i64 n.k, .int .i64 n.op, .string n.s, .string n.t, .slice (some ⟨bk, ok, none⟩) n.kids.length ck] 45)).heap.size (((w.alloc (.cells #[.slice (some ⟨bl, ol, none⟩) m cap, .bool fl] 48)).alloc (.cells #[.int .i64 p.l, .bool p.d, .bool p.i, .bool p.g, .bool p.s] 30)).alloc (.cells #[.int .i64 n.k, .int .i64 n.op, .string n.s, .string n.t, .slice (some ⟨bk, ok, none⟩) n.kids.length ck] 45)) W → W.cell? ⟨w.heap.size, 0, none⟩ = some (.slice (some ⟨bl, ol, none⟩) m cap) ∧ W.cell? ⟨w.heap.size, 1, none⟩ = some (.bool fl) ∧ W.cell? ⟨(w.heap.size + 1), 0, none⟩ = some (.int .i64 p.l) ∧ W.cell? ⟨(w.heap.size + 1), 1, none⟩ = some (.bool p.d) ∧ W.cell? ⟨(w.heap.size + 1), 2, none⟩ = some (.bool p.i) ∧ W.cell? ⟨(w.heap.size + 1), 3, none⟩ = some (.bool p.g) ∧ W.cell? ⟨(w.heap.size + 1), 4, none⟩ = some (.bool p.s) ∧ W.cell? ⟨(w.heap.size + 1 + 1), 0, none⟩ = some (.int .i64 n.k) ∧ W.cell? ⟨(w.heap.size + 1 + 1), 1, none⟩ = some (.int .i64 n.op) ∧ W.cell? ⟨(w.heap.size + 1 + 1), 2, none⟩ = some (.string n.s) ∧ W.cell? ⟨(w.heap.size + 1 + 1), 3, none⟩ = some (.string n.t) ∧ W.cell? ⟨(w.heap.size + 1 + 1), 4, none⟩ = some (.slice (some ⟨bk, ok, none⟩) n.kids.length ck) ∧ W.cell? ⟨bk, ok, none⟩ = some (.int .i64 (kd n 0 : Int)) from fun W hb => by
    have hh0 := (hb.block w.heap.size (by omega)).trans hh0
    have hh1 := (hb.block (w.heap.size + 1) (by omega)).trans hh1
    have hh2 := (hb.block (w.heap.size + 1 + 1) (by omega)).trans hh2
    have hkc0 := (hb.cell (p := ⟨bk, ok, none⟩) (show bk < _ by omega)).trans ((hw0.cell (p := ⟨bk, ok, none⟩) hbk).trans hkc0)
    exact ⟨by rw [cell_of_row _ _ 0 _ _ _ (hh0)]; rfl, by rw [cell_of_row _ _ 1 _ _ _ (hh0)]; rfl, by rw [cell_of_row _ _ 0 _ _ _ (hh1)]; rfl, by rw [cell_of_row _ _ 1 _ _ _ (hh1)]; rfl, by rw [cell_of_row _ _ 2 _ _ _ (hh1)]; rfl, by rw [cell_of_row _ _ 3 _ _ _ (hh1)]; rfl, by rw [cell_of_row _ _ 4 _ _ _ (hh1)]; rfl, by rw [cell_of_row _ _ 0 _ _ _ (hh2)]; rfl, by rw [cell_of_row _ _ 1 _ _ _ (hh2)]; rfl, by rw [cell_of_row _ _ 2 _ _ _ (hh2)]; rfl, by rw [cell_of_row _ _ 3 _ _ _ (hh2)]; rfl, by rw [cell_of_row _ _ 4 _ _ _ (hh2)]; rfl, hkc0⟩)
  have HW1 := Lib.hid hw0
  have HL1 := Lib.hid (hLL.on hw0 (Nat.le_refl _))
  have h5a := h5.keep (show Below w.heap.size w (w.alloc (.cells #[.slice (some ⟨bl, ol, none⟩) m cap, .bool fl] 48)) from (Below.refl _ _).alloc (Nat.le_refl _) _) hbl
  have h5b := h5a.keep (show Below w.heap.size (w.alloc (.cells #[.slice (some ⟨bl, ol, none⟩) m cap, .bool fl] 48)) ((w.alloc (.cells #[.slice (some ⟨bl, ol, none⟩) m cap, .bool fl] 48)).alloc (.cells #[.int .i64 p.l, .bool p.d, .bool p.i, .bool p.g, .bool p.s] 30)) from (Below.refl _ _).alloc (by simp) _) hbl
  obtain ⟨y0, y1, y2, y3, y4⟩ := h5b
  have HLK := Lib.hid (show leafK n = 0 by simp [leafK, hc])
  have hii1 : (0 : Int) ≤ (i : Int) := by omega
  have hii2 : (i : Int) < (m : Int) := by omega
  obtain ⟨x5, x5'⟩ := rt.ne_facts (show ¬ n.k = 5 by omega)
  obtain ⟨x7, x7'⟩ := rt.ne_facts (show ¬ n.k = 7 by omega)
  obtain ⟨x8, x8'⟩ := rt.ne_facts (show ¬ n.k = 8 by omega)
  obtain ⟨x9, x9'⟩ := rt.ne_facts (show ¬ n.k = 9 by omega)
  obtain ⟨x10, x10'⟩ := rt.ne_facts (show ¬ n.k = 10 by omega)
  obtain ⟨x15, x15'⟩ := rt.ne_facts (show ¬ n.k = 15 by omega)
  obtain ⟨x6, x6'⟩ := rt.eq_facts (show n.k = 6 by omega)
  obtain ⟨x11, x11'⟩ := rt.ne_facts (show ¬ n.k = 11 by omega)
  obtain ⟨x13, x13'⟩ := rt.ne_facts (show ¬ n.k = 13 by omega)
  have HGG := Lib.hid hG
  have HBODY : body E U n p = [tok 68] ++ E (kd n 0) (kp n 0 p) := by rw [body_6 hc]; rfl
  rw [HBODY]
  have HLN1 := Lib.hid (show ([tok 68]).length + (E (kd n 0) (kp n 0 p)).length ≤ 1048576 by (try simp only [List.length_append, List.length_cons, List.length_nil]); omega)
  clear hm hL hLL hi hi0 hG hGG hh0 hh1 hh2 hw0 hs0 h5 h5a hnode hn hil hkc0 hle0 hlen 
  have HC := Lib.hid hc
  clear hc
  go_enter Tryz.func38, Tryz.ntmps38
  go_wp2_with fail
  refine (spec_leaf n (some ⟨bk, ok, none⟩) ck _).mono ?_
  rw [HLK.out]
  rintro e w2 ⟨rfl, b2⟩
  clear y0 y1 y2 y3 y4
  have HW0 := Lib.hid (show Below w.heap.size w (w2.alloc (.cells #[.int .i64 0, .string (leafS n), .int .i64 0] 56)) from (HW1.out.trans (b2.mono HW1.out.size)).alloc (Nat.le_trans HW1.out.size b2.size) _)
  have HL := Lib.hid (HL1.out.on (show Below (((w.alloc (.cells #[.slice (some ⟨bl, ol, none⟩) m cap, .bool fl] 48)).alloc (.cells #[.int .i64 p.l, .bool p.d, .bool p.i, .bool p.g, .bool p.s] 30)).alloc (.cells #[.int .i64 n.k, .int .i64 n.op, .string n.s, .string n.t, .slice (some ⟨bk, ok, none⟩) n.kids.length ck] 45)).heap.size (((w.alloc (.cells #[.slice (some ⟨bl, ol, none⟩) m cap, .bool fl] 48)).alloc (.cells #[.int .i64 p.l, .bool p.d, .bool p.i, .bool p.g, .bool p.s] 30)).alloc (.cells #[.int .i64 n.k, .int .i64 n.op, .string n.s, .string n.t, .slice (some ⟨bk, ok, none⟩) n.kids.length ck] 45)) (w2.alloc (.cells #[.int .i64 0, .string (leafS n), .int .i64 0] 56)) from b2.alloc b2.size _) (Nat.le_refl _))
  have HY := Lib.hid (show ∀ W, Below (w2.alloc (.cells #[.int .i64 0, .string (leafS n), .int .i64 0] 56)).heap.size (w2.alloc (.cells #[.int .i64 0, .string (leafS n), .int .i64 0] 56)) W → W.cell? ⟨w.heap.size, 0, none⟩ = some (.slice (some ⟨bl, ol, none⟩) m cap) ∧ W.cell? ⟨w.heap.size, 1, none⟩ = some (.bool fl) ∧ W.cell? ⟨(w.heap.size + 1), 0, none⟩ = some (.int .i64 p.l) ∧ W.cell? ⟨(w.heap.size + 1), 1, none⟩ = some (.bool p.d) ∧ W.cell? ⟨(w.heap.size + 1), 2, none⟩ = some (.bool p.i) ∧ W.cell? ⟨(w.heap.size + 1), 3, none⟩ = some (.bool p.g) ∧ W.cell? ⟨(w.heap.size + 1), 4, none⟩ = some (.bool p.s) ∧ W.cell? ⟨(w.heap.size + 1 + 1), 0, none⟩ = some (.int .i64 n.k) ∧ W.cell? ⟨(w.heap.size + 1 + 1), 1, none⟩ = some (.int .i64 n.op) ∧ W.cell? ⟨(w.heap.size + 1 + 1), 2, none⟩ = some (.string n.s) ∧ W.cell? ⟨(w.heap.size + 1 + 1), 3, none⟩ = some (.string n.t) ∧ W.cell? ⟨(w.heap.size + 1 + 1), 4, none⟩ = some (.slice (some ⟨bk, ok, none⟩) n.kids.length ck) ∧ W.cell? ⟨bk, ok, none⟩ = some (.int .i64 (kd n 0 : Int)) from fun W hb => HY1.out W ((b2.alloc b2.size _).trans (hb.mono (b2.alloc b2.size _).size)))
  obtain ⟨f0, f1, f2, f3, f4, f5, f6, f7, f8, f9, f10, f11, f12⟩ := HY.out _ (Below.refl _ _)
  obtain ⟨W0, hW⟩ : ∃ W, W = w2.alloc (.cells #[.int .i64 0, .string (leafS n), .int .i64 0] 56) := ⟨_, rfl⟩
  go_wp2_with fail
  rw [← hW] at HW0 HL HY ⊢
  clear hW
  have B0 := Lib.hid (Below.refl W0.heap.size W0)
  clear f0 f1 f2 f3 f4 f5 f6 f7 f8 f9 f10 f11 f12
  have YB1 := Lib.hid (HY.out _ (dr B0.out))
  go_region_held3 (fun W => W.cell? ⟨w.heap.size, 0, none⟩ = some (.slice (some ⟨bl, ol, none⟩) m cap) ∧ W.cell? ⟨w.heap.size, 1, none⟩ = some (.bool fl) ∧ W.cell? ⟨(w.heap.size + 1), 0, none⟩ = some (.int .i64 p.l) ∧ W.cell? ⟨(w.heap.size + 1), 1, none⟩ = some (.bool p.d) ∧ W.cell? ⟨(w.heap.size + 1), 2, none⟩ = some (.bool p.i) ∧ W.cell? ⟨(w.heap.size + 1), 3, none⟩ = some (.bool p.g) ∧ W.cell? ⟨(w.heap.size + 1), 4, none⟩ = some (.bool p.s) ∧ W.cell? ⟨(w.heap.size + 1 + 1), 0, none⟩ = some (.int .i64 n.k) ∧ W.cell? ⟨(w.heap.size + 1 + 1), 1, none⟩ = some (.int .i64 n.op) ∧ W.cell? ⟨(w.heap.size + 1 + 1), 2, none⟩ = some (.string n.s) ∧ W.cell? ⟨(w.heap.size + 1 + 1), 3, none⟩ = some (.string n.t) ∧ W.cell? ⟨(w.heap.size + 1 + 1), 4, none⟩ = some (.slice (some ⟨bk, ok, none⟩) n.kids.length ck) ∧ W.cell? ⟨bk, ok, none⟩ = some (.int .i64 (kd n 0 : Int)))
    (first | (with_reducible exact YB1.out) | (with_reducible exact HY.out _ BT1.out) | (with_reducible exact HY.out _ (al BT1.out _)) | (with_reducible exact HY.out _ BP1.out) | (with_reducible exact HY.out _ (al BP1.out _)) | (with_reducible exact HY.out _ BN1.out) | (with_reducible exact HY.out _ (al BN1.out _)) | (with_reducible exact HY.out _ BA1.out))
    (first | (go_at_call 40; refine (spec_tok 68 _).mono ?_; rintro e wT1 ⟨rfl, bT1⟩; have BT1 := Lib.hid (nx B0.out (undrew bT1))) | (go_at_call 56; refine (HKP0.out _).mono ?_; rintro e wP1 ⟨rfl, bP1⟩; have BP1 := Lib.hid (show Below W0.heap.size W0 wP1 from by first | with_reducible exact nx BT1.out bP1 | with_reducible exact nx (al BT1.out _) bP1)) | (go_at_call 20; refine (HE0.out (kp n 0 p) HQ0.out _ (by first | with_reducible exact HL.out.on BP1.out (Nat.le_refl _) | with_reducible exact HL.out.on (al BP1.out _) (Nat.le_refl _))).mono ?_; rintro e wN1 ⟨vN1, rfl, bN1, oN1⟩; have BN1 := Lib.hid (show Below W0.heap.size W0 wN1 from by first | with_reducible exact nx BP1.out bN1 | with_reducible exact nx (al BP1.out _) bN1); have ON1 := Lib.hid (show own.Own W0.heap.size vN1 (E (kd n 0) (kp n 0 p)) wN1 from by first | with_reducible exact oN1.up BP1.out.size | with_reducible exact oN1.up (al BP1.out _).size)) | (refine step_toks (by rfl) _ _ (by rfl) W0.heap.size _ ([tok 68]) (by rfl) (by first | exact lit1 wN1 (tok 68) BN1.out.size | exact (lit1 wP1 (tok 68) BP1.out.size).keep bN1 (Nat.le_refl _) | exact ((lit1 wT1 (tok 68) BT1.out.size).keep bP1 (Nat.le_refl _)).keep bN1 (Nat.le_refl _)) W0.heap.size vN1 (E (kd n 0) (kp n 0 p)) (by rfl) (by first | with_reducible exact ON1.out | with_reducible exact ON1.out.keep ((Below.refl _ _).alloc (Nat.le_refl _) _) (Nat.le_refl _)) HLN1.out (by first | with_reducible exact BN1.out.size | with_reducible exact (al BN1.out _).size) ?_; intro vA1 wA1 oA1 bA1 gA1; have BA1 := Lib.hid (show Below W0.heap.size W0 wA1 from by first | with_reducible exact BN1.out.trans bA1 | with_reducible exact (al BN1.out _).trans bA1); have OA1 := Lib.hid oA1; clear oA1 bA1 gA1))
  all_goals
    go_wp2
    go_ret
    exact ⟨vA1, rfl, HW0.out.trans (BA1.out.mono HW0.out.size), OA1.out.up HW0.out.size⟩

set_option maxHeartbeats 3200000 in
theorem node_pre {l : List Nd} {a : Option Addr} {m cap : Nat} {fl : Bool} {i : Nat} {E U : Nat → Ps → List Tk} (n : Nd) (hc : n.k = 9) (hm : m = l.length) (hmx : m ≤ 1048576) (hi : i < m) (hn : l.getD i default = n) (hGG : ∀ p : Ps, posOk p.l p.d = true → Gis l a m cap fl i n p E U) : CallS 38 l a m cap fl i (fun q => body E U n q) := by
  intro p hq w hL
  show Calls Tryz.prog 38 _ w (Out (body E U n p) w)
  have hG := hGG p hq
  have hil : i < l.length := hm ▸ hi
  rw [getD_at hil] at hn
  have hLL := hL
  obtain ⟨bl, ol, rfl, hbl, hnode⟩ := nd.lies_at hL hil
  obtain ⟨ak, ck, h5, hi0⟩ := hnode i hil
  rw [hn] at h5 hi0
  have hi := hi0
  have hlen : n.kids.length = 1 := hG.good.one (by omega)
  have hk0 : 0 < n.kids.length := by have := hlen; omega
  obtain ⟨bk, ok, hak, hbk, hkc0⟩ := kidc hi (Below.refl _ _) hk0 (hG.kd hk0)
  subst hak
  rw [Nat.add_zero] at hkc0
  have HKP0 := Lib.hid (hG.kpos hk0 0 rfl (some ⟨bk, ok, none⟩) ck)
  have HE0 := Lib.hid (hG.e 0 hk0)
  have HQ0 := Lib.hid (show posOk (kp n 0 p).l (kp n 0 p).d = true from hG.q hk0)
  have hle0 := hG.le 0 hk0 (kp n 0 p)
  have hkz : (0 : Int) ≤ (n.kids.length : Int) := by omega
  have hkn : (0 : Int) < (n.kids.length : Int) := by omega
  have hkb : (n.kids.length : Int) ≤ 1048576 := by have := hG.len; omega
  have hlu := hG.lu hk0 ⟨14, false, false, false, false⟩
  have HU := Lib.hid (hG.u hk0)
  have hlv := hG.lv (by omega) (kp n 0 p) HQ0.out
  obtain ⟨hh0, hh1, hh2, hw0, hs0⟩ := three w (.cells #[.slice (some ⟨bl, ol, none⟩) m cap, .bool fl] 48) (.cells #[.int .i64 p.l, .bool p.d, .bool p.i, .bool p.g, .bool p.s] 30) (.cells #[.int .i64 n.k, .int .i64 n.op, .string n.s, .string n.t, .slice (some ⟨bk, ok, none⟩) n.kids.length ck] 45)
  have HY1 := Lib.hid (show ∀ W, Below (((w.alloc (.cells #[.slice (some ⟨bl, ol, none⟩) m cap, .bool fl] 48)).alloc (.cells #[.int .i64 p.l, .bool p.d, .bool p.i, .bool p.g, .bool p.s] 30)).alloc (.cells #[.int .i64 n.k, .int .i64 n.op, .string n.s, .string n.t, .slice (some ⟨bk, ok, none⟩) n.kids.length ck] 45)).heap.size (((w.alloc (.cells #[.slice (some ⟨bl, ol, none⟩) m cap, .bool fl] 48)).alloc (.cells #[.int .i64 p.l, .bool p.d, .bool p.i, .bool p.g, .bool p.s] 30)).alloc (.cells #[.int .i64 n.k, .int .i64 n.op, .string n.s, .string n.t, .slice (some ⟨bk, ok, none⟩) n.kids.length ck] 45)) W → W.cell? ⟨w.heap.size, 0, none⟩ = some (.slice (some ⟨bl, ol, none⟩) m cap) ∧ W.cell? ⟨w.heap.size, 1, none⟩ = some (.bool fl) ∧ W.cell? ⟨(w.heap.size + 1), 0, none⟩ = some (.int .i64 p.l) ∧ W.cell? ⟨(w.heap.size + 1), 1, none⟩ = some (.bool p.d) ∧ W.cell? ⟨(w.heap.size + 1), 2, none⟩ = some (.bool p.i) ∧ W.cell? ⟨(w.heap.size + 1), 3, none⟩ = some (.bool p.g) ∧ W.cell? ⟨(w.heap.size + 1), 4, none⟩ = some (.bool p.s) ∧ W.cell? ⟨(w.heap.size + 1 + 1), 0, none⟩ = some (.int .i64 n.k) ∧ W.cell? ⟨(w.heap.size + 1 + 1), 1, none⟩ = some (.int .i64 n.op) ∧ W.cell? ⟨(w.heap.size + 1 + 1), 2, none⟩ = some (.string n.s) ∧ W.cell? ⟨(w.heap.size + 1 + 1), 3, none⟩ = some (.string n.t) ∧ W.cell? ⟨(w.heap.size + 1 + 1), 4, none⟩ = some (.slice (some ⟨bk, ok, none⟩) n.kids.length ck) ∧ W.cell? ⟨bk, ok, none⟩ = some (.int .i64 (kd n 0 : Int)) from fun W hb => by
    have hh0 := (hb.block w.heap.size (by omega)).trans hh0
    have hh1 := (hb.block (w.heap.size + 1) (by omega)).trans hh1
    have hh2 := (hb.block (w.heap.size + 1 + 1) (by omega)).trans hh2
    have hkc0 := (hb.cell (p := ⟨bk, ok, none⟩) (show bk < _ by omega)).trans ((hw0.cell (p := ⟨bk, ok, none⟩) hbk).trans hkc0)
    exact ⟨by rw [cell_of_row _ _ 0 _ _ _ (hh0)]; rfl, by rw [cell_of_row _ _ 1 _ _ _ (hh0)]; rfl, by rw [cell_of_row _ _ 0 _ _ _ (hh1)]; rfl, by rw [cell_of_row _ _ 1 _ _ _ (hh1)]; rfl, by rw [cell_of_row _ _ 2 _ _ _ (hh1)]; rfl, by rw [cell_of_row _ _ 3 _ _ _ (hh1)]; rfl, by rw [cell_of_row _ _ 4 _ _ _ (hh1)]; rfl, by rw [cell_of_row _ _ 0 _ _ _ (hh2)]; rfl, by rw [cell_of_row _ _ 1 _ _ _ (hh2)]; rfl, by rw [cell_of_row _ _ 2 _ _ _ (hh2)]; rfl, by rw [cell_of_row _ _ 3 _ _ _ (hh2)]; rfl, by rw [cell_of_row _ _ 4 _ _ _ (hh2)]; rfl, hkc0⟩)
  have HW1 := Lib.hid hw0
  have HL1 := Lib.hid (hLL.on hw0 (Nat.le_refl _))
  have h5a := h5.keep (show Below w.heap.size w (w.alloc (.cells #[.slice (some ⟨bl, ol, none⟩) m cap, .bool fl] 48)) from (Below.refl _ _).alloc (Nat.le_refl _) _) hbl
  have h5b := h5a.keep (show Below w.heap.size (w.alloc (.cells #[.slice (some ⟨bl, ol, none⟩) m cap, .bool fl] 48)) ((w.alloc (.cells #[.slice (some ⟨bl, ol, none⟩) m cap, .bool fl] 48)).alloc (.cells #[.int .i64 p.l, .bool p.d, .bool p.i, .bool p.g, .bool p.s] 30)) from (Below.refl _ _).alloc (by simp) _) hbl
  obtain ⟨y0, y1, y2, y3, y4⟩ := h5b
  have HLK := Lib.hid (show leafK n = 0 by simp [leafK, hc])
  have hii1 : (0 : Int) ≤ (i : Int) := by omega
  have hii2 : (i : Int) < (m : Int) := by omega
  obtain ⟨x5, x5'⟩ := rt.ne_facts (show ¬ n.k = 5 by omega)
  obtain ⟨x7, x7'⟩ := rt.ne_facts (show ¬ n.k = 7 by omega)
  obtain ⟨x8, x8'⟩ := rt.ne_facts (show ¬ n.k = 8 by omega)
  obtain ⟨x9, x9'⟩ := rt.eq_facts (show n.k = 9 by omega)
  obtain ⟨x10, x10'⟩ := rt.ne_facts (show ¬ n.k = 10 by omega)
  obtain ⟨x15, x15'⟩ := rt.ne_facts (show ¬ n.k = 15 by omega)
  obtain ⟨x6, x6'⟩ := rt.ne_facts (show ¬ n.k = 6 by omega)
  obtain ⟨x11, x11'⟩ := rt.ne_facts (show ¬ n.k = 11 by omega)
  obtain ⟨x13, x13'⟩ := rt.ne_facts (show ¬ n.k = 13 by omega)
  have HGG := Lib.hid hG
  have HBODY : body E U n p = [tok n.op] ++ U (kd n 0) ⟨14, false, false, false, false⟩ := by rw [body_9 hc, hlv]; rfl
  rw [HBODY]
  have HLN1 := Lib.hid (show ([tok n.op]).length + (U (kd n 0) ⟨14, false, false, false, false⟩).length ≤ 1048576 by (try simp only [List.length_append, List.length_cons, List.length_nil]); omega)
  clear hm hL hLL hi hi0 hG hGG hh0 hh1 hh2 hw0 hs0 h5 h5a hnode hn hil hkc0 hle0 hlen hlu hlv
  have HC := Lib.hid hc
  clear hc
  go_enter Tryz.func38, Tryz.ntmps38
  go_wp2_with fail
  refine (spec_leaf n (some ⟨bk, ok, none⟩) ck _).mono ?_
  rw [HLK.out]
  rintro e w2 ⟨rfl, b2⟩
  clear y0 y1 y2 y3 y4
  have HW0 := Lib.hid (show Below w.heap.size w (w2.alloc (.cells #[.int .i64 0, .string (leafS n), .int .i64 0] 56)) from (HW1.out.trans (b2.mono HW1.out.size)).alloc (Nat.le_trans HW1.out.size b2.size) _)
  have HL := Lib.hid (HL1.out.on (show Below (((w.alloc (.cells #[.slice (some ⟨bl, ol, none⟩) m cap, .bool fl] 48)).alloc (.cells #[.int .i64 p.l, .bool p.d, .bool p.i, .bool p.g, .bool p.s] 30)).alloc (.cells #[.int .i64 n.k, .int .i64 n.op, .string n.s, .string n.t, .slice (some ⟨bk, ok, none⟩) n.kids.length ck] 45)).heap.size (((w.alloc (.cells #[.slice (some ⟨bl, ol, none⟩) m cap, .bool fl] 48)).alloc (.cells #[.int .i64 p.l, .bool p.d, .bool p.i, .bool p.g, .bool p.s] 30)).alloc (.cells #[.int .i64 n.k, .int .i64 n.op, .string n.s, .string n.t, .slice (some ⟨bk, ok, none⟩) n.kids.length ck] 45)) (w2.alloc (.cells #[.int .i64 0, .string (leafS n), .int .i64 0] 56)) from b2.alloc b2.size _) (Nat.le_refl _))
  have HY := Lib.hid (show ∀ W, Below (w2.alloc (.cells #[.int .i64 0, .string (leafS n), .int .i64 0] 56)).heap.size (w2.alloc (.cells #[.int .i64 0, .string (leafS n), .int .i64 0] 56)) W → W.cell? ⟨w.heap.size, 0, none⟩ = some (.slice (some ⟨bl, ol, none⟩) m cap) ∧ W.cell? ⟨w.heap.size, 1, none⟩ = some (.bool fl) ∧ W.cell? ⟨(w.heap.size + 1), 0, none⟩ = some (.int .i64 p.l) ∧ W.cell? ⟨(w.heap.size + 1), 1, none⟩ = some (.bool p.d) ∧ W.cell? ⟨(w.heap.size + 1), 2, none⟩ = some (.bool p.i) ∧ W.cell? ⟨(w.heap.size + 1), 3, none⟩ = some (.bool p.g) ∧ W.cell? ⟨(w.heap.size + 1), 4, none⟩ = some (.bool p.s) ∧ W.cell? ⟨(w.heap.size + 1 + 1), 0, none⟩ = some (.int .i64 n.k) ∧ W.cell? ⟨(w.heap.size + 1 + 1), 1, none⟩ = some (.int .i64 n.op) ∧ W.cell? ⟨(w.heap.size + 1 + 1), 2, none⟩ = some (.string n.s) ∧ W.cell? ⟨(w.heap.size + 1 + 1), 3, none⟩ = some (.string n.t) ∧ W.cell? ⟨(w.heap.size + 1 + 1), 4, none⟩ = some (.slice (some ⟨bk, ok, none⟩) n.kids.length ck) ∧ W.cell? ⟨bk, ok, none⟩ = some (.int .i64 (kd n 0 : Int)) from fun W hb => HY1.out W ((b2.alloc b2.size _).trans (hb.mono (b2.alloc b2.size _).size)))
  obtain ⟨f0, f1, f2, f3, f4, f5, f6, f7, f8, f9, f10, f11, f12⟩ := HY.out _ (Below.refl _ _)
  obtain ⟨W0, hW⟩ : ∃ W, W = w2.alloc (.cells #[.int .i64 0, .string (leafS n), .int .i64 0] 56) := ⟨_, rfl⟩
  go_wp2_with fail
  rw [← hW] at HW0 HL HY ⊢
  clear hW
  have B0 := Lib.hid (Below.refl W0.heap.size W0)
  clear f0 f1 f2 f3 f4 f5 f6 f7 f8 f9 f10 f11 f12
  have YB1 := Lib.hid (HY.out _ (dr B0.out))
  go_region_held3 (fun W => W.cell? ⟨w.heap.size, 0, none⟩ = some (.slice (some ⟨bl, ol, none⟩) m cap) ∧ W.cell? ⟨w.heap.size, 1, none⟩ = some (.bool fl) ∧ W.cell? ⟨(w.heap.size + 1), 0, none⟩ = some (.int .i64 p.l) ∧ W.cell? ⟨(w.heap.size + 1), 1, none⟩ = some (.bool p.d) ∧ W.cell? ⟨(w.heap.size + 1), 2, none⟩ = some (.bool p.i) ∧ W.cell? ⟨(w.heap.size + 1), 3, none⟩ = some (.bool p.g) ∧ W.cell? ⟨(w.heap.size + 1), 4, none⟩ = some (.bool p.s) ∧ W.cell? ⟨(w.heap.size + 1 + 1), 0, none⟩ = some (.int .i64 n.k) ∧ W.cell? ⟨(w.heap.size + 1 + 1), 1, none⟩ = some (.int .i64 n.op) ∧ W.cell? ⟨(w.heap.size + 1 + 1), 2, none⟩ = some (.string n.s) ∧ W.cell? ⟨(w.heap.size + 1 + 1), 3, none⟩ = some (.string n.t) ∧ W.cell? ⟨(w.heap.size + 1 + 1), 4, none⟩ = some (.slice (some ⟨bk, ok, none⟩) n.kids.length ck) ∧ W.cell? ⟨bk, ok, none⟩ = some (.int .i64 (kd n 0 : Int)))
    (first | (with_reducible exact YB1.out) | (with_reducible exact HY.out _ BT1.out) | (with_reducible exact HY.out _ (al BT1.out _)) | (with_reducible exact HY.out _ BN1.out) | (with_reducible exact HY.out _ (al BN1.out _)) | (with_reducible exact HY.out _ BA1.out))
    (first | (go_at_call 40; refine (spec_tok n.op _).mono ?_; rintro e wT1 ⟨rfl, bT1⟩; have BT1 := Lib.hid (nx B0.out (undrew bT1))) | (go_at_call 55; refine (lvalue_any (R := U (kd n 0)) (kd n 0) _ (by first | with_reducible exact HL.out.on BT1.out (Nat.le_refl _) | with_reducible exact HL.out.on (al BT1.out _) (Nat.le_refl _)) HU.out).mono ?_; rintro e wN1 ⟨vN1, rfl, bN1, oN1⟩; have BN1 := Lib.hid (show Below W0.heap.size W0 wN1 from by first | with_reducible exact nx BT1.out bN1 | with_reducible exact nx (al BT1.out _) bN1); have ON1 := Lib.hid (show own.Own W0.heap.size vN1 (U (kd n 0) ⟨14, false, false, false, false⟩) wN1 from by first | with_reducible exact oN1.up BT1.out.size | with_reducible exact oN1.up (al BT1.out _).size)) | (refine step_toks (by rfl) _ _ (by rfl) W0.heap.size _ ([tok n.op]) (by rfl) (by first | exact lit1 wN1 (tok n.op) BN1.out.size | exact (lit1 wT1 (tok n.op) BT1.out.size).keep bN1 (Nat.le_refl _)) W0.heap.size vN1 (U (kd n 0) ⟨14, false, false, false, false⟩) (by rfl) (by first | with_reducible exact ON1.out | with_reducible exact ON1.out.keep ((Below.refl _ _).alloc (Nat.le_refl _) _) (Nat.le_refl _)) HLN1.out (by first | with_reducible exact BN1.out.size | with_reducible exact (al BN1.out _).size) ?_; intro vA1 wA1 oA1 bA1 gA1; have BA1 := Lib.hid (show Below W0.heap.size W0 wA1 from by first | with_reducible exact BN1.out.trans bA1 | with_reducible exact (al BN1.out _).trans bA1); have OA1 := Lib.hid oA1; clear oA1 bA1 gA1))
  all_goals
    go_wp2
    go_ret
    exact ⟨vA1, rfl, HW0.out.trans (BA1.out.mono HW0.out.size), OA1.out.up HW0.out.size⟩

set_option maxHeartbeats 3200000 in
theorem node_post {l : List Nd} {a : Option Addr} {m cap : Nat} {fl : Bool} {i : Nat} {E U : Nat → Ps → List Tk} (n : Nd) (hc : n.k = 10) (hm : m = l.length) (hmx : m ≤ 1048576) (hi : i < m) (hn : l.getD i default = n) (hGG : ∀ p : Ps, posOk p.l p.d = true → Gis l a m cap fl i n p E U) : CallS 38 l a m cap fl i (fun q => body E U n q) := by
  intro p hq w hL
  show Calls Tryz.prog 38 _ w (Out (body E U n p) w)
  have hG := hGG p hq
  have hil : i < l.length := hm ▸ hi
  rw [getD_at hil] at hn
  have hLL := hL
  obtain ⟨bl, ol, rfl, hbl, hnode⟩ := nd.lies_at hL hil
  obtain ⟨ak, ck, h5, hi0⟩ := hnode i hil
  rw [hn] at h5 hi0
  have hi := hi0
  have hlen : n.kids.length = 1 := hG.good.one (by omega)
  have hk0 : 0 < n.kids.length := by have := hlen; omega
  obtain ⟨bk, ok, hak, hbk, hkc0⟩ := kidc hi (Below.refl _ _) hk0 (hG.kd hk0)
  subst hak
  rw [Nat.add_zero] at hkc0
  have HKP0 := Lib.hid (hG.kpos hk0 0 rfl (some ⟨bk, ok, none⟩) ck)
  have HE0 := Lib.hid (hG.e 0 hk0)
  have HQ0 := Lib.hid (show posOk (kp n 0 p).l (kp n 0 p).d = true from hG.q hk0)
  have hle0 := hG.le 0 hk0 (kp n 0 p)
  have hkz : (0 : Int) ≤ (n.kids.length : Int) := by omega
  have hkn : (0 : Int) < (n.kids.length : Int) := by omega
  have hkb : (n.kids.length : Int) ≤ 1048576 := by have := hG.len; omega
  have hlu := hG.lu hk0 ⟨14, false, false, false, false⟩
  have HU := Lib.hid (hG.u hk0)
  have hlv := hG.lv (by omega) (kp n 0 p) HQ0.out
  obtain ⟨hh0, hh1, hh2, hw0, hs0⟩ := three w (.cells #[.slice (some ⟨bl, ol, none⟩) m cap, .bool fl] 48) (.cells #[.int .i64 p.l, .bool p.d, .bool p.i, .bool p.g, .bool p.s] 30) (.cells #[.int .i64 n.k, .int .i64 n.op, .string n.s, .string n.t, .slice (some ⟨bk, ok, none⟩) n.kids.length ck] 45)
  have HY1 := Lib.hid (show ∀ W, Below (((w.alloc (.cells #[.slice (some ⟨bl, ol, none⟩) m cap, .bool fl] 48)).alloc (.cells #[.int .i64 p.l, .bool p.d, .bool p.i, .bool p.g, .bool p.s] 30)).alloc (.cells #[.int .i64 n.k, .int .i64 n.op, .string n.s, .string n.t, .slice (some ⟨bk, ok, none⟩) n.kids.length ck] 45)).heap.size (((w.alloc (.cells #[.slice (some ⟨bl, ol, none⟩) m cap, .bool fl] 48)).alloc (.cells #[.int .i64 p.l, .bool p.d, .bool p.i, .bool p.g, .bool p.s] 30)).alloc (.cells #[.int .i64 n.k, .int .i64 n.op, .string n.s, .string n.t, .slice (some ⟨bk, ok, none⟩) n.kids.length ck] 45)) W → W.cell? ⟨w.heap.size, 0, none⟩ = some (.slice (some ⟨bl, ol, none⟩) m cap) ∧ W.cell? ⟨w.heap.size, 1, none⟩ = some (.bool fl) ∧ W.cell? ⟨(w.heap.size + 1), 0, none⟩ = some (.int .i64 p.l) ∧ W.cell? ⟨(w.heap.size + 1), 1, none⟩ = some (.bool p.d) ∧ W.cell? ⟨(w.heap.size + 1), 2, none⟩ = some (.bool p.i) ∧ W.cell? ⟨(w.heap.size + 1), 3, none⟩ = some (.bool p.g) ∧ W.cell? ⟨(w.heap.size + 1), 4, none⟩ = some (.bool p.s) ∧ W.cell? ⟨(w.heap.size + 1 + 1), 0, none⟩ = some (.int .i64 n.k) ∧ W.cell? ⟨(w.heap.size + 1 + 1), 1, none⟩ = some (.int .i64 n.op) ∧ W.cell? ⟨(w.heap.size + 1 + 1), 2, none⟩ = some (.string n.s) ∧ W.cell? ⟨(w.heap.size + 1 + 1), 3, none⟩ = some (.string n.t) ∧ W.cell? ⟨(w.heap.size + 1 + 1), 4, none⟩ = some (.slice (some ⟨bk, ok, none⟩) n.kids.length ck) ∧ W.cell? ⟨bk, ok, none⟩ = some (.int .i64 (kd n 0 : Int)) from fun W hb => by
    have hh0 := (hb.block w.heap.size (by omega)).trans hh0
    have hh1 := (hb.block (w.heap.size + 1) (by omega)).trans hh1
    have hh2 := (hb.block (w.heap.size + 1 + 1) (by omega)).trans hh2
    have hkc0 := (hb.cell (p := ⟨bk, ok, none⟩) (show bk < _ by omega)).trans ((hw0.cell (p := ⟨bk, ok, none⟩) hbk).trans hkc0)
    exact ⟨by rw [cell_of_row _ _ 0 _ _ _ (hh0)]; rfl, by rw [cell_of_row _ _ 1 _ _ _ (hh0)]; rfl, by rw [cell_of_row _ _ 0 _ _ _ (hh1)]; rfl, by rw [cell_of_row _ _ 1 _ _ _ (hh1)]; rfl, by rw [cell_of_row _ _ 2 _ _ _ (hh1)]; rfl, by rw [cell_of_row _ _ 3 _ _ _ (hh1)]; rfl, by rw [cell_of_row _ _ 4 _ _ _ (hh1)]; rfl, by rw [cell_of_row _ _ 0 _ _ _ (hh2)]; rfl, by rw [cell_of_row _ _ 1 _ _ _ (hh2)]; rfl, by rw [cell_of_row _ _ 2 _ _ _ (hh2)]; rfl, by rw [cell_of_row _ _ 3 _ _ _ (hh2)]; rfl, by rw [cell_of_row _ _ 4 _ _ _ (hh2)]; rfl, hkc0⟩)
  have HW1 := Lib.hid hw0
  have HL1 := Lib.hid (hLL.on hw0 (Nat.le_refl _))
  have h5a := h5.keep (show Below w.heap.size w (w.alloc (.cells #[.slice (some ⟨bl, ol, none⟩) m cap, .bool fl] 48)) from (Below.refl _ _).alloc (Nat.le_refl _) _) hbl
  have h5b := h5a.keep (show Below w.heap.size (w.alloc (.cells #[.slice (some ⟨bl, ol, none⟩) m cap, .bool fl] 48)) ((w.alloc (.cells #[.slice (some ⟨bl, ol, none⟩) m cap, .bool fl] 48)).alloc (.cells #[.int .i64 p.l, .bool p.d, .bool p.i, .bool p.g, .bool p.s] 30)) from (Below.refl _ _).alloc (by simp) _) hbl
  obtain ⟨y0, y1, y2, y3, y4⟩ := h5b
  have HLK := Lib.hid (show leafK n = 0 by simp [leafK, hc])
  have hii1 : (0 : Int) ≤ (i : Int) := by omega
  have hii2 : (i : Int) < (m : Int) := by omega
  obtain ⟨x5, x5'⟩ := rt.ne_facts (show ¬ n.k = 5 by omega)
  obtain ⟨x7, x7'⟩ := rt.ne_facts (show ¬ n.k = 7 by omega)
  obtain ⟨x8, x8'⟩ := rt.ne_facts (show ¬ n.k = 8 by omega)
  obtain ⟨x9, x9'⟩ := rt.ne_facts (show ¬ n.k = 9 by omega)
  obtain ⟨x10, x10'⟩ := rt.eq_facts (show n.k = 10 by omega)
  obtain ⟨x15, x15'⟩ := rt.ne_facts (show ¬ n.k = 15 by omega)
  obtain ⟨x6, x6'⟩ := rt.ne_facts (show ¬ n.k = 6 by omega)
  obtain ⟨x11, x11'⟩ := rt.ne_facts (show ¬ n.k = 11 by omega)
  obtain ⟨x13, x13'⟩ := rt.ne_facts (show ¬ n.k = 13 by omega)
  have HGG := Lib.hid hG
  have HBODY : body E U n p = U (kd n 0) ⟨14, false, false, false, false⟩ ++ [tok n.op] := by rw [body_10 hc, hlv]
  rw [HBODY]
  have HLN1 := Lib.hid (show (U (kd n 0) ⟨14, false, false, false, false⟩).length + ([tok n.op]).length ≤ 1048576 by (try simp only [List.length_append, List.length_cons, List.length_nil]); omega)
  clear hm hL hLL hi hi0 hG hGG hh0 hh1 hh2 hw0 hs0 h5 h5a hnode hn hil hkc0 hle0 hlen hlu hlv
  have HC := Lib.hid hc
  clear hc
  go_enter Tryz.func38, Tryz.ntmps38
  go_wp2_with fail
  refine (spec_leaf n (some ⟨bk, ok, none⟩) ck _).mono ?_
  rw [HLK.out]
  rintro e w2 ⟨rfl, b2⟩
  clear y0 y1 y2 y3 y4
  have HW0 := Lib.hid (show Below w.heap.size w (w2.alloc (.cells #[.int .i64 0, .string (leafS n), .int .i64 0] 56)) from (HW1.out.trans (b2.mono HW1.out.size)).alloc (Nat.le_trans HW1.out.size b2.size) _)
  have HL := Lib.hid (HL1.out.on (show Below (((w.alloc (.cells #[.slice (some ⟨bl, ol, none⟩) m cap, .bool fl] 48)).alloc (.cells #[.int .i64 p.l, .bool p.d, .bool p.i, .bool p.g, .bool p.s] 30)).alloc (.cells #[.int .i64 n.k, .int .i64 n.op, .string n.s, .string n.t, .slice (some ⟨bk, ok, none⟩) n.kids.length ck] 45)).heap.size (((w.alloc (.cells #[.slice (some ⟨bl, ol, none⟩) m cap, .bool fl] 48)).alloc (.cells #[.int .i64 p.l, .bool p.d, .bool p.i, .bool p.g, .bool p.s] 30)).alloc (.cells #[.int .i64 n.k, .int .i64 n.op, .string n.s, .string n.t, .slice (some ⟨bk, ok, none⟩) n.kids.length ck] 45)) (w2.alloc (.cells #[.int .i64 0, .string (leafS n), .int .i64 0] 56)) from b2.alloc b2.size _) (Nat.le_refl _))
  have HY := Lib.hid (show ∀ W, Below (w2.alloc (.cells #[.int .i64 0, .string (leafS n), .int .i64 0] 56)).heap.size (w2.alloc (.cells #[.int .i64 0, .string (leafS n), .int .i64 0] 56)) W → W.cell? ⟨w.heap.size, 0, none⟩ = some (.slice (some ⟨bl, ol, none⟩) m cap) ∧ W.cell? ⟨w.heap.size, 1, none⟩ = some (.bool fl) ∧ W.cell? ⟨(w.heap.size + 1), 0, none⟩ = some (.int .i64 p.l) ∧ W.cell? ⟨(w.heap.size + 1), 1, none⟩ = some (.bool p.d) ∧ W.cell? ⟨(w.heap.size + 1), 2, none⟩ = some (.bool p.i) ∧ W.cell? ⟨(w.heap.size + 1), 3, none⟩ = some (.bool p.g) ∧ W.cell? ⟨(w.heap.size + 1), 4, none⟩ = some (.bool p.s) ∧ W.cell? ⟨(w.heap.size + 1 + 1), 0, none⟩ = some (.int .i64 n.k) ∧ W.cell? ⟨(w.heap.size + 1 + 1), 1, none⟩ = some (.int .i64 n.op) ∧ W.cell? ⟨(w.heap.size + 1 + 1), 2, none⟩ = some (.string n.s) ∧ W.cell? ⟨(w.heap.size + 1 + 1), 3, none⟩ = some (.string n.t) ∧ W.cell? ⟨(w.heap.size + 1 + 1), 4, none⟩ = some (.slice (some ⟨bk, ok, none⟩) n.kids.length ck) ∧ W.cell? ⟨bk, ok, none⟩ = some (.int .i64 (kd n 0 : Int)) from fun W hb => HY1.out W ((b2.alloc b2.size _).trans (hb.mono (b2.alloc b2.size _).size)))
  obtain ⟨f0, f1, f2, f3, f4, f5, f6, f7, f8, f9, f10, f11, f12⟩ := HY.out _ (Below.refl _ _)
  obtain ⟨W0, hW⟩ : ∃ W, W = w2.alloc (.cells #[.int .i64 0, .string (leafS n), .int .i64 0] 56) := ⟨_, rfl⟩
  go_wp2_with fail
  rw [← hW] at HW0 HL HY ⊢
  clear hW
  have B0 := Lib.hid (Below.refl W0.heap.size W0)
  clear f0 f1 f2 f3 f4 f5 f6 f7 f8 f9 f10 f11 f12
  have YB1 := Lib.hid (HY.out _ (dr B0.out))
  go_region_held3 (fun W => W.cell? ⟨w.heap.size, 0, none⟩ = some (.slice (some ⟨bl, ol, none⟩) m cap) ∧ W.cell? ⟨w.heap.size, 1, none⟩ = some (.bool fl) ∧ W.cell? ⟨(w.heap.size + 1), 0, none⟩ = some (.int .i64 p.l) ∧ W.cell? ⟨(w.heap.size + 1), 1, none⟩ = some (.bool p.d) ∧ W.cell? ⟨(w.heap.size + 1), 2, none⟩ = some (.bool p.i) ∧ W.cell? ⟨(w.heap.size + 1), 3, none⟩ = some (.bool p.g) ∧ W.cell? ⟨(w.heap.size + 1), 4, none⟩ = some (.bool p.s) ∧ W.cell? ⟨(w.heap.size + 1 + 1), 0, none⟩ = some (.int .i64 n.k) ∧ W.cell? ⟨(w.heap.size + 1 + 1), 1, none⟩ = some (.int .i64 n.op) ∧ W.cell? ⟨(w.heap.size + 1 + 1), 2, none⟩ = some (.string n.s) ∧ W.cell? ⟨(w.heap.size + 1 + 1), 3, none⟩ = some (.string n.t) ∧ W.cell? ⟨(w.heap.size + 1 + 1), 4, none⟩ = some (.slice (some ⟨bk, ok, none⟩) n.kids.length ck) ∧ W.cell? ⟨bk, ok, none⟩ = some (.int .i64 (kd n 0 : Int)))
    (first | (with_reducible exact YB1.out) | (with_reducible exact HY.out _ BN1.out) | (with_reducible exact HY.out _ (al BN1.out _)) | (with_reducible exact HY.out _ BT1.out) | (with_reducible exact HY.out _ (al BT1.out _)) | (with_reducible exact HY.out _ BA1.out))
    (first | (go_at_call 55; refine (lvalue_any (R := U (kd n 0)) (kd n 0) _ (HL.out.on (dr B0.out) (Nat.le_refl _)) HU.out).mono ?_; rintro e wN1 ⟨vN1, rfl, bN1, oN1⟩; have BN1 := Lib.hid (nx B0.out (undrew bN1)); have ON1 := Lib.hid (show own.Own W0.heap.size vN1 (U (kd n 0) ⟨14, false, false, false, false⟩) wN1 from oN1.up B0.out.size)) | (go_at_call 40; refine (spec_tok n.op _).mono ?_; rintro e wT1 ⟨rfl, bT1⟩; have BT1 := Lib.hid (show Below W0.heap.size W0 wT1 from by first | with_reducible exact nx BN1.out bT1 | with_reducible exact nx (al BN1.out _) bT1)) | (refine step_toks (by rfl) _ _ (by rfl) W0.heap.size _ (U (kd n 0) ⟨14, false, false, false, false⟩) (by rfl) ((ON1.out.keep bT1 (Nat.le_refl _)).keep ((Below.refl _ _).alloc (Nat.le_refl _) _) (Nat.le_refl _)) W0.heap.size _ ([tok n.op]) (by rfl) (lit1 wT1 (tok n.op) BT1.out.size) HLN1.out (by first | with_reducible exact BT1.out.size | with_reducible exact (al BT1.out _).size) ?_; intro vA1 wA1 oA1 bA1 gA1; have BA1 := Lib.hid (show Below W0.heap.size W0 wA1 from by first | with_reducible exact BT1.out.trans bA1 | with_reducible exact (al BT1.out _).trans bA1); have OA1 := Lib.hid oA1; clear oA1 bA1 gA1))
  go_wp2
  go_ret
  exact ⟨vA1, rfl, HW0.out.trans (BA1.out.mono HW0.out.size), OA1.out.up HW0.out.size⟩

set_option maxHeartbeats 3200000 in
theorem node_unary {l : List Nd} {a : Option Addr} {m cap : Nat} {fl : Bool} {i : Nat} {E U : Nat → Ps → List Tk} (n : Nd) (hc : n.k = 11) (hm : m = l.length) (hmx : m ≤ 1048576) (hi : i < m) (hn : l.getD i default = n) (hGG : ∀ p : Ps, posOk p.l p.d = true → Gis l a m cap fl i n p E U) : CallS 38 l a m cap fl i (fun q => body E U n q) := by
  intro p hq w hL
  show Calls Tryz.prog 38 _ w (Out (body E U n p) w)
  have hG := hGG p hq
  have hil : i < l.length := hm ▸ hi
  rw [getD_at hil] at hn
  have hLL := hL
  obtain ⟨bl, ol, rfl, hbl, hnode⟩ := nd.lies_at hL hil
  obtain ⟨ak, ck, h5, hi0⟩ := hnode i hil
  rw [hn] at h5 hi0
  have hi := hi0
  have hlen : n.kids.length = 1 := hG.good.one (by omega)
  have hk0 : 0 < n.kids.length := by have := hlen; omega
  obtain ⟨bk, ok, hak, hbk, hkc0⟩ := kidc hi (Below.refl _ _) hk0 (hG.kd hk0)
  subst hak
  rw [Nat.add_zero] at hkc0
  have HKP0 := Lib.hid (hG.kpos hk0 0 rfl (some ⟨bk, ok, none⟩) ck)
  have HE0 := Lib.hid (hG.e 0 hk0)
  have HQ0 := Lib.hid (show posOk (kp n 0 p).l (kp n 0 p).d = true from hG.q hk0)
  have hle0 := hG.le 0 hk0 (kp n 0 p)
  have hkz : (0 : Int) ≤ (n.kids.length : Int) := by omega
  have hkn : (0 : Int) < (n.kids.length : Int) := by omega
  have hkb : (n.kids.length : Int) ≤ 1048576 := by have := hG.len; omega
  obtain ⟨hh0, hh1, hh2, hw0, hs0⟩ := three w (.cells #[.slice (some ⟨bl, ol, none⟩) m cap, .bool fl] 48) (.cells #[.int .i64 p.l, .bool p.d, .bool p.i, .bool p.g, .bool p.s] 30) (.cells #[.int .i64 n.k, .int .i64 n.op, .string n.s, .string n.t, .slice (some ⟨bk, ok, none⟩) n.kids.length ck] 45)
  have HY1 := Lib.hid (show ∀ W, Below (((w.alloc (.cells #[.slice (some ⟨bl, ol, none⟩) m cap, .bool fl] 48)).alloc (.cells #[.int .i64 p.l, .bool p.d, .bool p.i, .bool p.g, .bool p.s] 30)).alloc (.cells #[.int .i64 n.k, .int .i64 n.op, .string n.s, .string n.t, .slice (some ⟨bk, ok, none⟩) n.kids.length ck] 45)).heap.size (((w.alloc (.cells #[.slice (some ⟨bl, ol, none⟩) m cap, .bool fl] 48)).alloc (.cells #[.int .i64 p.l, .bool p.d, .bool p.i, .bool p.g, .bool p.s] 30)).alloc (.cells #[.int .i64 n.k, .int .i64 n.op, .string n.s, .string n.t, .slice (some ⟨bk, ok, none⟩) n.kids.length ck] 45)) W → W.cell? ⟨w.heap.size, 0, none⟩ = some (.slice (some ⟨bl, ol, none⟩) m cap) ∧ W.cell? ⟨w.heap.size, 1, none⟩ = some (.bool fl) ∧ W.cell? ⟨(w.heap.size + 1), 0, none⟩ = some (.int .i64 p.l) ∧ W.cell? ⟨(w.heap.size + 1), 1, none⟩ = some (.bool p.d) ∧ W.cell? ⟨(w.heap.size + 1), 2, none⟩ = some (.bool p.i) ∧ W.cell? ⟨(w.heap.size + 1), 3, none⟩ = some (.bool p.g) ∧ W.cell? ⟨(w.heap.size + 1), 4, none⟩ = some (.bool p.s) ∧ W.cell? ⟨(w.heap.size + 1 + 1), 0, none⟩ = some (.int .i64 n.k) ∧ W.cell? ⟨(w.heap.size + 1 + 1), 1, none⟩ = some (.int .i64 n.op) ∧ W.cell? ⟨(w.heap.size + 1 + 1), 2, none⟩ = some (.string n.s) ∧ W.cell? ⟨(w.heap.size + 1 + 1), 3, none⟩ = some (.string n.t) ∧ W.cell? ⟨(w.heap.size + 1 + 1), 4, none⟩ = some (.slice (some ⟨bk, ok, none⟩) n.kids.length ck) ∧ W.cell? ⟨bk, ok, none⟩ = some (.int .i64 (kd n 0 : Int)) from fun W hb => by
    have hh0 := (hb.block w.heap.size (by omega)).trans hh0
    have hh1 := (hb.block (w.heap.size + 1) (by omega)).trans hh1
    have hh2 := (hb.block (w.heap.size + 1 + 1) (by omega)).trans hh2
    have hkc0 := (hb.cell (p := ⟨bk, ok, none⟩) (show bk < _ by omega)).trans ((hw0.cell (p := ⟨bk, ok, none⟩) hbk).trans hkc0)
    exact ⟨by rw [cell_of_row _ _ 0 _ _ _ (hh0)]; rfl, by rw [cell_of_row _ _ 1 _ _ _ (hh0)]; rfl, by rw [cell_of_row _ _ 0 _ _ _ (hh1)]; rfl, by rw [cell_of_row _ _ 1 _ _ _ (hh1)]; rfl, by rw [cell_of_row _ _ 2 _ _ _ (hh1)]; rfl, by rw [cell_of_row _ _ 3 _ _ _ (hh1)]; rfl, by rw [cell_of_row _ _ 4 _ _ _ (hh1)]; rfl, by rw [cell_of_row _ _ 0 _ _ _ (hh2)]; rfl, by rw [cell_of_row _ _ 1 _ _ _ (hh2)]; rfl, by rw [cell_of_row _ _ 2 _ _ _ (hh2)]; rfl, by rw [cell_of_row _ _ 3 _ _ _ (hh2)]; rfl, by rw [cell_of_row _ _ 4 _ _ _ (hh2)]; rfl, hkc0⟩)
  have HW1 := Lib.hid hw0
  have HL1 := Lib.hid (hLL.on hw0 (Nat.le_refl _))
  have h5a := h5.keep (show Below w.heap.size w (w.alloc (.cells #[.slice (some ⟨bl, ol, none⟩) m cap, .bool fl] 48)) from (Below.refl _ _).alloc (Nat.le_refl _) _) hbl
  have h5b := h5a.keep (show Below w.heap.size (w.alloc (.cells #[.slice (some ⟨bl, ol, none⟩) m cap, .bool fl] 48)) ((w.alloc (.cells #[.slice (some ⟨bl, ol, none⟩) m cap, .bool fl] 48)).alloc (.cells #[.int .i64 p.l, .bool p.d, .bool p.i, .bool p.g, .bool p.s] 30)) from (Below.refl _ _).alloc (by simp) _) hbl
  obtain ⟨y0, y1, y2, y3, y4⟩ := h5b
  have HLK := Lib.hid (show leafK n = 0 by simp [leafK, hc])
  have hii1 : (0 : Int) ≤ (i : Int) := by omega
  have hii2 : (i : Int) < (m : Int) := by omega
  obtain ⟨x5, x5'⟩ := rt.ne_facts (show ¬ n.k = 5 by omega)
  obtain ⟨x7, x7'⟩ := rt.ne_facts (show ¬ n.k = 7 by omega)
  obtain ⟨x8, x8'⟩ := rt.ne_facts (show ¬ n.k = 8 by omega)
  obtain ⟨x9, x9'⟩ := rt.ne_facts (show ¬ n.k = 9 by omega)
  obtain ⟨x10, x10'⟩ := rt.ne_facts (show ¬ n.k = 10 by omega)
  obtain ⟨x15, x15'⟩ := rt.ne_facts (show ¬ n.k = 15 by omega)
  obtain ⟨x6, x6'⟩ := rt.ne_facts (show ¬ n.k = 6 by omega)
  obtain ⟨x11, x11'⟩ := rt.eq_facts (show n.k = 11 by omega)
  obtain ⟨x13, x13'⟩ := rt.ne_facts (show ¬ n.k = 13 by omega)
  have HGG := Lib.hid hG
  have HBODY : body E U n p = [tok n.op] ++ E (kd n 0) (kp n 0 p) := by rw [body_11 hc]; rfl
  rw [HBODY]
  have HLN1 := Lib.hid (show ([tok n.op]).length + (E (kd n 0) (kp n 0 p)).length ≤ 1048576 by (try simp only [List.length_append, List.length_cons, List.length_nil]); omega)
  clear hm hL hLL hi hi0 hG hGG hh0 hh1 hh2 hw0 hs0 h5 h5a hnode hn hil hkc0 hle0 hlen 
  have HC := Lib.hid hc
  clear hc
  go_enter Tryz.func38, Tryz.ntmps38
  go_wp2_with fail
  refine (spec_leaf n (some ⟨bk, ok, none⟩) ck _).mono ?_
  rw [HLK.out]
  rintro e w2 ⟨rfl, b2⟩
  clear y0 y1 y2 y3 y4
  have HW0 := Lib.hid (show Below w.heap.size w (w2.alloc (.cells #[.int .i64 0, .string (leafS n), .int .i64 0] 56)) from (HW1.out.trans (b2.mono HW1.out.size)).alloc (Nat.le_trans HW1.out.size b2.size) _)
  have HL := Lib.hid (HL1.out.on (show Below (((w.alloc (.cells #[.slice (some ⟨bl, ol, none⟩) m cap, .bool fl] 48)).alloc (.cells #[.int .i64 p.l, .bool p.d, .bool p.i, .bool p.g, .bool p.s] 30)).alloc (.cells #[.int .i64 n.k, .int .i64 n.op, .string n.s, .string n.t, .slice (some ⟨bk, ok, none⟩) n.kids.length ck] 45)).heap.size (((w.alloc (.cells #[.slice (some ⟨bl, ol, none⟩) m cap, .bool fl] 48)).alloc (.cells #[.int .i64 p.l, .bool p.d, .bool p.i, .bool p.g, .bool p.s] 30)).alloc (.cells #[.int .i64 n.k, .int .i64 n.op, .string n.s, .string n.t, .slice (some ⟨bk, ok, none⟩) n.kids.length ck] 45)) (w2.alloc (.cells #[.int .i64 0, .string (leafS n), .int .i64 0] 56)) from b2.alloc b2.size _) (Nat.le_refl _))
  have HY := Lib.hid (show ∀ W, Below (w2.alloc (.cells #[.int .i64 0, .string (leafS n), .int .i64 0] 56)).heap.size (w2.alloc (.cells #[.int .i64 0, .string (leafS n), .int .i64 0] 56)) W → W.cell? ⟨w.heap.size, 0, none⟩ = some (.slice (some ⟨bl, ol, none⟩) m cap) ∧ W.cell? ⟨w.heap.size, 1, none⟩ = some (.bool fl) ∧ W.cell? ⟨(w.heap.size + 1), 0, none⟩ = some (.int .i64 p.l) ∧ W.cell? ⟨(w.heap.size + 1), 1, none⟩ = some (.bool p.d) ∧ W.cell? ⟨(w.heap.size + 1), 2, none⟩ = some (.bool p.i) ∧ W.cell? ⟨(w.heap.size + 1), 3, none⟩ = some (.bool p.g) ∧ W.cell? ⟨(w.heap.size + 1), 4, none⟩ = some (.bool p.s) ∧ W.cell? ⟨(w.heap.size + 1 + 1), 0, none⟩ = some (.int .i64 n.k) ∧ W.cell? ⟨(w.heap.size + 1 + 1), 1, none⟩ = some (.int .i64 n.op) ∧ W.cell? ⟨(w.heap.size + 1 + 1), 2, none⟩ = some (.string n.s) ∧ W.cell? ⟨(w.heap.size + 1 + 1), 3, none⟩ = some (.string n.t) ∧ W.cell? ⟨(w.heap.size + 1 + 1), 4, none⟩ = some (.slice (some ⟨bk, ok, none⟩) n.kids.length ck) ∧ W.cell? ⟨bk, ok, none⟩ = some (.int .i64 (kd n 0 : Int)) from fun W hb => HY1.out W ((b2.alloc b2.size _).trans (hb.mono (b2.alloc b2.size _).size)))
  obtain ⟨f0, f1, f2, f3, f4, f5, f6, f7, f8, f9, f10, f11, f12⟩ := HY.out _ (Below.refl _ _)
  obtain ⟨W0, hW⟩ : ∃ W, W = w2.alloc (.cells #[.int .i64 0, .string (leafS n), .int .i64 0] 56) := ⟨_, rfl⟩
  go_wp2_with fail
  rw [← hW] at HW0 HL HY ⊢
  clear hW
  have B0 := Lib.hid (Below.refl W0.heap.size W0)
  clear f0 f1 f2 f3 f4 f5 f6 f7 f8 f9 f10 f11 f12
  have YB1 := Lib.hid (HY.out _ (dr B0.out))
  go_region_held3 (fun W => W.cell? ⟨w.heap.size, 0, none⟩ = some (.slice (some ⟨bl, ol, none⟩) m cap) ∧ W.cell? ⟨w.heap.size, 1, none⟩ = some (.bool fl) ∧ W.cell? ⟨(w.heap.size + 1), 0, none⟩ = some (.int .i64 p.l) ∧ W.cell? ⟨(w.heap.size + 1), 1, none⟩ = some (.bool p.d) ∧ W.cell? ⟨(w.heap.size + 1), 2, none⟩ = some (.bool p.i) ∧ W.cell? ⟨(w.heap.size + 1), 3, none⟩ = some (.bool p.g) ∧ W.cell? ⟨(w.heap.size + 1), 4, none⟩ = some (.bool p.s) ∧ W.cell? ⟨(w.heap.size + 1 + 1), 0, none⟩ = some (.int .i64 n.k) ∧ W.cell? ⟨(w.heap.size + 1 + 1), 1, none⟩ = some (.int .i64 n.op) ∧ W.cell? ⟨(w.heap.size + 1 + 1), 2, none⟩ = some (.string n.s) ∧ W.cell? ⟨(w.heap.size + 1 + 1), 3, none⟩ = some (.string n.t) ∧ W.cell? ⟨(w.heap.size + 1 + 1), 4, none⟩ = some (.slice (some ⟨bk, ok, none⟩) n.kids.length ck) ∧ W.cell? ⟨bk, ok, none⟩ = some (.int .i64 (kd n 0 : Int)))
    (first | (with_reducible exact YB1.out) | (with_reducible exact HY.out _ BT1.out) | (with_reducible exact HY.out _ (al BT1.out _)) | (with_reducible exact HY.out _ BP1.out) | (with_reducible exact HY.out _ (al BP1.out _)) | (with_reducible exact HY.out _ BN1.out) | (with_reducible exact HY.out _ (al BN1.out _)) | (with_reducible exact HY.out _ BA1.out))
    (first | (go_at_call 40; refine (spec_tok n.op _).mono ?_; rintro e wT1 ⟨rfl, bT1⟩; have BT1 := Lib.hid (nx B0.out (undrew bT1))) | (go_at_call 56; refine (HKP0.out _).mono ?_; rintro e wP1 ⟨rfl, bP1⟩; have BP1 := Lib.hid (show Below W0.heap.size W0 wP1 from by first | with_reducible exact nx BT1.out bP1 | with_reducible exact nx (al BT1.out _) bP1)) | (go_at_call 20; refine (HE0.out (kp n 0 p) HQ0.out _ (by first | with_reducible exact HL.out.on BP1.out (Nat.le_refl _) | with_reducible exact HL.out.on (al BP1.out _) (Nat.le_refl _))).mono ?_; rintro e wN1 ⟨vN1, rfl, bN1, oN1⟩; have BN1 := Lib.hid (show Below W0.heap.size W0 wN1 from by first | with_reducible exact nx BP1.out bN1 | with_reducible exact nx (al BP1.out _) bN1); have ON1 := Lib.hid (show own.Own W0.heap.size vN1 (E (kd n 0) (kp n 0 p)) wN1 from by first | with_reducible exact oN1.up BP1.out.size | with_reducible exact oN1.up (al BP1.out _).size)) | (refine step_toks (by rfl) _ _ (by rfl) W0.heap.size _ ([tok n.op]) (by rfl) (by first | exact lit1 wN1 (tok n.op) BN1.out.size | exact (lit1 wP1 (tok n.op) BP1.out.size).keep bN1 (Nat.le_refl _) | exact ((lit1 wT1 (tok n.op) BT1.out.size).keep bP1 (Nat.le_refl _)).keep bN1 (Nat.le_refl _)) W0.heap.size vN1 (E (kd n 0) (kp n 0 p)) (by rfl) (by first | with_reducible exact ON1.out | with_reducible exact ON1.out.keep ((Below.refl _ _).alloc (Nat.le_refl _) _) (Nat.le_refl _)) HLN1.out (by first | with_reducible exact BN1.out.size | with_reducible exact (al BN1.out _).size) ?_; intro vA1 wA1 oA1 bA1 gA1; have BA1 := Lib.hid (show Below W0.heap.size W0 wA1 from by first | with_reducible exact BN1.out.trans bA1 | with_reducible exact (al BN1.out _).trans bA1); have OA1 := Lib.hid oA1; clear oA1 bA1 gA1))
  all_goals
    go_wp2
    go_ret
    exact ⟨vA1, rfl, HW0.out.trans (BA1.out.mono HW0.out.size), OA1.out.up HW0.out.size⟩

set_option maxHeartbeats 3200000 in
theorem node_assign {l : List Nd} {a : Option Addr} {m cap : Nat} {fl : Bool} {i : Nat} {E U : Nat → Ps → List Tk} (n : Nd) (hc : n.k = 15) (hm : m = l.length) (hmx : m ≤ 1048576) (hi : i < m) (hn : l.getD i default = n) (hGG : ∀ p : Ps, posOk p.l p.d = true → Gis l a m cap fl i n p E U) : CallS 38 l a m cap fl i (fun q => body E U n q) := by
  intro p hq w hL
  show Calls Tryz.prog 38 _ w (Out (body E U n p) w)
  have hG := hGG p hq
  have hil : i < l.length := hm ▸ hi
  rw [getD_at hil] at hn
  have hLL := hL
  obtain ⟨bl, ol, rfl, hbl, hnode⟩ := nd.lies_at hL hil
  obtain ⟨ak, ck, h5, hi0⟩ := hnode i hil
  rw [hn] at h5 hi0
  have hi := hi0
  have hlen : n.kids.length = 2 := hG.good.two (.inr hc)
  have hk0 : 0 < n.kids.length := by have := hlen; omega
  obtain ⟨bk, ok, hak, hbk, hkc0⟩ := kidc hi (Below.refl _ _) hk0 (hG.kd hk0)
  have hk1 : 1 < n.kids.length := by have := hlen; omega
  obtain ⟨bk', ok', hak', hbk', hkc1⟩ := kidc hi (Below.refl _ _) hk1 (hG.kd hk1)
  obtain ⟨rfl, rfl⟩ : bk = bk' ∧ ok = ok' := by rw [hak] at hak'; injection hak' with h1; injection h1 with h1 h2 h3; exact ⟨h1, h2⟩
  clear hak' hbk'
  subst hak
  rw [Nat.add_zero] at hkc0
  have HKP0 := Lib.hid (hG.kpos hk0 0 rfl (some ⟨bk, ok, none⟩) ck)
  have HE0 := Lib.hid (hG.e 0 hk0)
  have HQ0 := Lib.hid (show posOk (kp n 0 p).l (kp n 0 p).d = true from hG.q hk0)
  have hle0 := hG.le 0 hk0 (kp n 0 p)
  have HKP1 := Lib.hid (hG.kpos hk1 1 rfl (some ⟨bk, ok, none⟩) ck)
  have HE1 := Lib.hid (hG.e 1 hk1)
  have HQ1 := Lib.hid (show posOk (kp n 1 p).l (kp n 1 p).d = true from hG.q hk1)
  have hle1 := hG.le 1 hk1 (kp n 1 p)
  have hkz : (0 : Int) ≤ (n.kids.length : Int) := by omega
  have hkn : (0 : Int) < (n.kids.length : Int) := by omega
  have hkb : (n.kids.length : Int) ≤ 1048576 := by have := hG.len; omega
  have hkn1 : (1 : Int) < (n.kids.length : Int) := by omega
  have hlu := hG.lu hk0 ⟨14, false, false, false, false⟩
  have HU := Lib.hid (hG.u hk0)
  have hlv := hG.lv (by omega) (kp n 0 p) HQ0.out
  obtain ⟨hh0, hh1, hh2, hw0, hs0⟩ := three w (.cells #[.slice (some ⟨bl, ol, none⟩) m cap, .bool fl] 48) (.cells #[.int .i64 p.l, .bool p.d, .bool p.i, .bool p.g, .bool p.s] 30) (.cells #[.int .i64 n.k, .int .i64 n.op, .string n.s, .string n.t, .slice (some ⟨bk, ok, none⟩) n.kids.length ck] 45)
  have HY1 := Lib.hid (show ∀ W, Below (((w.alloc (.cells #[.slice (some ⟨bl, ol, none⟩) m cap, .bool fl] 48)).alloc (.cells #[.int .i64 p.l, .bool p.d, .bool p.i, .bool p.g, .bool p.s] 30)).alloc (.cells #[.int .i64 n.k, .int .i64 n.op, .string n.s, .string n.t, .slice (some ⟨bk, ok, none⟩) n.kids.length ck] 45)).heap.size (((w.alloc (.cells #[.slice (some ⟨bl, ol, none⟩) m cap, .bool fl] 48)).alloc (.cells #[.int .i64 p.l, .bool p.d, .bool p.i, .bool p.g, .bool p.s] 30)).alloc (.cells #[.int .i64 n.k, .int .i64 n.op, .string n.s, .string n.t, .slice (some ⟨bk, ok, none⟩) n.kids.length ck] 45)) W → W.cell? ⟨w.heap.size, 0, none⟩ = some (.slice (some ⟨bl, ol, none⟩) m cap) ∧ W.cell? ⟨w.heap.size, 1, none⟩ = some (.bool fl) ∧ W.cell? ⟨(w.heap.size + 1), 0, none⟩ = some (.int .i64 p.l) ∧ W.cell? ⟨(w.heap.size + 1), 1, none⟩ = some (.bool p.d) ∧ W.cell? ⟨(w.heap.size + 1), 2, none⟩ = some (.bool p.i) ∧ W.cell? ⟨(w.heap.size + 1), 3, none⟩ = some (.bool p.g) ∧ W.cell? ⟨(w.heap.size + 1), 4, none⟩ = some (.bool p.s) ∧ W.cell? ⟨(w.heap.size + 1 + 1), 0, none⟩ = some (.int .i64 n.k) ∧ W.cell? ⟨(w.heap.size + 1 + 1), 1, none⟩ = some (.int .i64 n.op) ∧ W.cell? ⟨(w.heap.size + 1 + 1), 2, none⟩ = some (.string n.s) ∧ W.cell? ⟨(w.heap.size + 1 + 1), 3, none⟩ = some (.string n.t) ∧ W.cell? ⟨(w.heap.size + 1 + 1), 4, none⟩ = some (.slice (some ⟨bk, ok, none⟩) n.kids.length ck) ∧ W.cell? ⟨bk, ok, none⟩ = some (.int .i64 (kd n 0 : Int)) ∧ W.cell? ⟨bk, ok + 1, none⟩ = some (.int .i64 (kd n 1 : Int)) from fun W hb => by
    have hh0 := (hb.block w.heap.size (by omega)).trans hh0
    have hh1 := (hb.block (w.heap.size + 1) (by omega)).trans hh1
    have hh2 := (hb.block (w.heap.size + 1 + 1) (by omega)).trans hh2
    have hkc0 := (hb.cell (p := ⟨bk, ok, none⟩) (show bk < _ by omega)).trans ((hw0.cell (p := ⟨bk, ok, none⟩) hbk).trans hkc0)
    have hkc1 := (hb.cell (p := ⟨bk, ok + 1, none⟩) (show bk < _ by omega)).trans ((hw0.cell (p := ⟨bk, ok + 1, none⟩) hbk).trans hkc1)
    exact ⟨by rw [cell_of_row _ _ 0 _ _ _ (hh0)]; rfl, by rw [cell_of_row _ _ 1 _ _ _ (hh0)]; rfl, by rw [cell_of_row _ _ 0 _ _ _ (hh1)]; rfl, by rw [cell_of_row _ _ 1 _ _ _ (hh1)]; rfl, by rw [cell_of_row _ _ 2 _ _ _ (hh1)]; rfl, by rw [cell_of_row _ _ 3 _ _ _ (hh1)]; rfl, by rw [cell_of_row _ _ 4 _ _ _ (hh1)]; rfl, by rw [cell_of_row _ _ 0 _ _ _ (hh2)]; rfl, by rw [cell_of_row _ _ 1 _ _ _ (hh2)]; rfl, by rw [cell_of_row _ _ 2 _ _ _ (hh2)]; rfl, by rw [cell_of_row _ _ 3 _ _ _ (hh2)]; rfl, by rw [cell_of_row _ _ 4 _ _ _ (hh2)]; rfl, hkc0, hkc1⟩)
  have HW1 := Lib.hid hw0
  have HL1 := Lib.hid (hLL.on hw0 (Nat.le_refl _))
  have h5a := h5.keep (show Below w.heap.size w (w.alloc (.cells #[.slice (some ⟨bl, ol, none⟩) m cap, .bool fl] 48)) from (Below.refl _ _).alloc (Nat.le_refl _) _) hbl
  have h5b := h5a.keep (show Below w.heap.size (w.alloc (.cells #[.slice (some ⟨bl, ol, none⟩) m cap, .bool fl] 48)) ((w.alloc (.cells #[.slice (some ⟨bl, ol, none⟩) m cap, .bool fl] 48)).alloc (.cells #[.int .i64 p.l, .bool p.d, .bool p.i, .bool p.g, .bool p.s] 30)) from (Below.refl _ _).alloc (by simp) _) hbl
  obtain ⟨y0, y1, y2, y3, y4⟩ := h5b
  have HLK := Lib.hid (show leafK n = 0 by simp [leafK, hc])
  have hii1 : (0 : Int) ≤ (i : Int) := by omega
  have hii2 : (i : Int) < (m : Int) := by omega
  obtain ⟨x5, x5'⟩ := rt.ne_facts (show ¬ n.k = 5 by omega)
  obtain ⟨x7, x7'⟩ := rt.ne_facts (show ¬ n.k = 7 by omega)
  obtain ⟨x8, x8'⟩ := rt.ne_facts (show ¬ n.k = 8 by omega)
  obtain ⟨x9, x9'⟩ := rt.ne_facts (show ¬ n.k = 9 by omega)
  obtain ⟨x10, x10'⟩ := rt.ne_facts (show ¬ n.k = 10 by omega)
  obtain ⟨x15, x15'⟩ := rt.eq_facts (show n.k = 15 by omega)
  obtain ⟨x6, x6'⟩ := rt.ne_facts (show ¬ n.k = 6 by omega)
  obtain ⟨x11, x11'⟩ := rt.ne_facts (show ¬ n.k = 11 by omega)
  obtain ⟨x13, x13'⟩ := rt.ne_facts (show ¬ n.k = 13 by omega)
  have HGG := Lib.hid hG
  have HBODY : body E U n p = (U (kd n 0) ⟨14, false, false, false, false⟩ ++ [tok n.op]) ++ E (kd n 1) (kp n 1 p) := by rw [body_15 hc, hlv]; simp only [List.append_assoc, List.cons_append, List.nil_append]
  rw [HBODY]
  have HLN1 := Lib.hid (show (U (kd n 0) ⟨14, false, false, false, false⟩).length + ([tok n.op]).length ≤ 1048576 by (try simp only [List.length_append, List.length_cons, List.length_nil]); omega)
  have HLN2 := Lib.hid (show ((U (kd n 0) ⟨14, false, false, false, false⟩) ++ [tok n.op]).length + (E (kd n 1) (kp n 1 p)).length ≤ 1048576 by (try simp only [List.length_append, List.length_cons, List.length_nil]); omega)
  clear hm hL hLL hi hi0 hG hGG hh0 hh1 hh2 hw0 hs0 h5 h5a hnode hn hil hkc0 hkc1 hle0 hle1 hlen hlu hlv
  have HC := Lib.hid hc
  clear hc
  go_enter Tryz.func38, Tryz.ntmps38
  go_wp2_with fail
  refine (spec_leaf n (some ⟨bk, ok, none⟩) ck _).mono ?_
  rw [HLK.out]
  rintro e w2 ⟨rfl, b2⟩
  clear y0 y1 y2 y3 y4
  have HW0 := Lib.hid (show Below w.heap.size w (w2.alloc (.cells #[.int .i64 0, .string (leafS n), .int .i64 0] 56)) from (HW1.out.trans (b2.mono HW1.out.size)).alloc (Nat.le_trans HW1.out.size b2.size) _)
  have HL := Lib.hid (HL1.out.on (show Below (((w.alloc (.cells #[.slice (some ⟨bl, ol, none⟩) m cap, .bool fl] 48)).alloc (.cells #[.int .i64 p.l, .bool p.d, .bool p.i, .bool p.g, .bool p.s] 30)).alloc (.cells #[.int .i64 n.k, .int .i64 n.op, .string n.s, .string n.t, .slice (some ⟨bk, ok, none⟩) n.kids.length ck] 45)).heap.size (((w.alloc (.cells #[.slice (some ⟨bl, ol, none⟩) m cap, .bool fl] 48)).alloc (.cells #[.int .i64 p.l, .bool p.d, .bool p.i, .bool p.g, .bool p.s] 30)).alloc (.cells #[.int .i64 n.k, .int .i64 n.op, .string n.s, .string n.t, .slice (some ⟨bk, ok, none⟩) n.kids.length ck] 45)) (w2.alloc (.cells #[.int .i64 0, .string (leafS n), .int .i64 0] 56)) from b2.alloc b2.size _) (Nat.le_refl _))
  have HY := Lib.hid (show ∀ W, Below (w2.alloc (.cells #[.int .i64 0, .string (leafS n), .int .i64 0] 56)).heap.size (w2.alloc (.cells #[.int .i64 0, .string (leafS n), .int .i64 0] 56)) W → W.cell? ⟨w.heap.size, 0, none⟩ = some (.slice (some ⟨bl, ol, none⟩) m cap) ∧ W.cell? ⟨w.heap.size, 1, none⟩ = some (.bool fl) ∧ W.cell? ⟨(w.heap.size + 1), 0, none⟩ = some (.int .i64 p.l) ∧ W.cell? ⟨(w.heap.size + 1), 1, none⟩ = some (.bool p.d) ∧ W.cell? ⟨(w.heap.size + 1), 2, none⟩ = some (.bool p.i) ∧ W.cell? ⟨(w.heap.size + 1), 3, none⟩ = some (.bool p.g) ∧ W.cell? ⟨(w.heap.size + 1), 4, none⟩ = some (.bool p.s) ∧ W.cell? ⟨(w.heap.size + 1 + 1), 0, none⟩ = some (.int .i64 n.k) ∧ W.cell? ⟨(w.heap.size + 1 + 1), 1, none⟩ = some (.int .i64 n.op) ∧ W.cell? ⟨(w.heap.size + 1 + 1), 2, none⟩ = some (.string n.s) ∧ W.cell? ⟨(w.heap.size + 1 + 1), 3, none⟩ = some (.string n.t) ∧ W.cell? ⟨(w.heap.size + 1 + 1), 4, none⟩ = some (.slice (some ⟨bk, ok, none⟩) n.kids.length ck) ∧ W.cell? ⟨bk, ok, none⟩ = some (.int .i64 (kd n 0 : Int)) ∧ W.cell? ⟨bk, ok + 1, none⟩ = some (.int .i64 (kd n 1 : Int)) from fun W hb => HY1.out W ((b2.alloc b2.size _).trans (hb.mono (b2.alloc b2.size _).size)))
  obtain ⟨f0, f1, f2, f3, f4, f5, f6, f7, f8, f9, f10, f11, f12, f13⟩ := HY.out _ (Below.refl _ _)
  obtain ⟨W0, hW⟩ : ∃ W, W = w2.alloc (.cells #[.int .i64 0, .string (leafS n), .int .i64 0] 56) := ⟨_, rfl⟩
  go_wp2_with fail
  rw [← hW] at HW0 HL HY ⊢
  clear hW
  have B0 := Lib.hid (Below.refl W0.heap.size W0)
  clear f0 f1 f2 f3 f4 f5 f6 f7 f8 f9 f10 f11 f12 f13
  have YB1 := Lib.hid (HY.out _ (dr B0.out))
  go_region_held3 (fun W => W.cell? ⟨w.heap.size, 0, none⟩ = some (.slice (some ⟨bl, ol, none⟩) m cap) ∧ W.cell? ⟨w.heap.size, 1, none⟩ = some (.bool fl) ∧ W.cell? ⟨(w.heap.size + 1), 0, none⟩ = some (.int .i64 p.l) ∧ W.cell? ⟨(w.heap.size + 1), 1, none⟩ = some (.bool p.d) ∧ W.cell? ⟨(w.heap.size + 1), 2, none⟩ = some (.bool p.i) ∧ W.cell? ⟨(w.heap.size + 1), 3, none⟩ = some (.bool p.g) ∧ W.cell? ⟨(w.heap.size + 1), 4, none⟩ = some (.bool p.s) ∧ W.cell? ⟨(w.heap.size + 1 + 1), 0, none⟩ = some (.int .i64 n.k) ∧ W.cell? ⟨(w.heap.size + 1 + 1), 1, none⟩ = some (.int .i64 n.op) ∧ W.cell? ⟨(w.heap.size + 1 + 1), 2, none⟩ = some (.string n.s) ∧ W.cell? ⟨(w.heap.size + 1 + 1), 3, none⟩ = some (.string n.t) ∧ W.cell? ⟨(w.heap.size + 1 + 1), 4, none⟩ = some (.slice (some ⟨bk, ok, none⟩) n.kids.length ck) ∧ W.cell? ⟨bk, ok, none⟩ = some (.int .i64 (kd n 0 : Int)) ∧ W.cell? ⟨bk, ok + 1, none⟩ = some (.int .i64 (kd n 1 : Int)))
    (first | (with_reducible exact YB1.out) | (with_reducible exact HY.out _ BN1.out) | (with_reducible exact HY.out _ (al BN1.out _)) | (with_reducible exact HY.out _ BT1.out) | (with_reducible exact HY.out _ (al BT1.out _)) | (with_reducible exact HY.out _ BA1.out))
    (first | (go_at_call 55; refine (lvalue_any (R := U (kd n 0)) (kd n 0) _ (HL.out.on (dr B0.out) (Nat.le_refl _)) HU.out).mono ?_; rintro e wN1 ⟨vN1, rfl, bN1, oN1⟩; have BN1 := Lib.hid (nx B0.out (undrew bN1)); have ON1 := Lib.hid (show own.Own W0.heap.size vN1 (U (kd n 0) ⟨14, false, false, false, false⟩) wN1 from oN1.up B0.out.size)) | (go_at_call 40; refine (spec_tok n.op _).mono ?_; rintro e wT1 ⟨rfl, bT1⟩; have BT1 := Lib.hid (show Below W0.heap.size W0 wT1 from by first | with_reducible exact nx BN1.out bT1 | with_reducible exact nx (al BN1.out _) bT1)) | (refine step_toks (by rfl) _ _ (by rfl) W0.heap.size _ (U (kd n 0) ⟨14, false, false, false, false⟩) (by rfl) ((ON1.out.keep bT1 (Nat.le_refl _)).keep ((Below.refl _ _).alloc (Nat.le_refl _) _) (Nat.le_refl _)) W0.heap.size _ ([tok n.op]) (by rfl) (lit1 wT1 (tok n.op) BT1.out.size) HLN1.out (by first | with_reducible exact BT1.out.size | with_reducible exact (al BT1.out _).size) ?_; intro vA1 wA1 oA1 bA1 gA1; have BA1 := Lib.hid (show Below W0.heap.size W0 wA1 from by first | with_reducible exact BT1.out.trans bA1 | with_reducible exact (al BT1.out _).trans bA1); have OA1 := Lib.hid oA1; clear oA1 bA1 gA1))
  obtain ⟨f0, f1, f2, f3, f4, f5, f6, f7, f8, f9, f10, f11, f12, f13⟩ := HY.out _ BA1.out
  go_wp2_with fail
  clear f0 f1 f2 f3 f4 f5 f6 f7 f8 f9 f10 f11 f12 f13
  have YB2 := Lib.hid (HY.out _ (dr BA1.out))
  go_region_held3 (fun W => W.cell? ⟨w.heap.size, 0, none⟩ = some (.slice (some ⟨bl, ol, none⟩) m cap) ∧ W.cell? ⟨w.heap.size, 1, none⟩ = some (.bool fl) ∧ W.cell? ⟨(w.heap.size + 1), 0, none⟩ = some (.int .i64 p.l) ∧ W.cell? ⟨(w.heap.size + 1), 1, none⟩ = some (.bool p.d) ∧ W.cell? ⟨(w.heap.size + 1), 2, none⟩ = some (.bool p.i) ∧ W.cell? ⟨(w.heap.size + 1), 3, none⟩ = some (.bool p.g) ∧ W.cell? ⟨(w.heap.size + 1), 4, none⟩ = some (.bool p.s) ∧ W.cell? ⟨(w.heap.size + 1 + 1), 0, none⟩ = some (.int .i64 n.k) ∧ W.cell? ⟨(w.heap.size + 1 + 1), 1, none⟩ = some (.int .i64 n.op) ∧ W.cell? ⟨(w.heap.size + 1 + 1), 2, none⟩ = some (.string n.s) ∧ W.cell? ⟨(w.heap.size + 1 + 1), 3, none⟩ = some (.string n.t) ∧ W.cell? ⟨(w.heap.size + 1 + 1), 4, none⟩ = some (.slice (some ⟨bk, ok, none⟩) n.kids.length ck) ∧ W.cell? ⟨bk, ok, none⟩ = some (.int .i64 (kd n 0 : Int)) ∧ W.cell? ⟨bk, ok + 1, none⟩ = some (.int .i64 (kd n 1 : Int)))
    (first | (with_reducible exact YB2.out) | (with_reducible exact HY.out _ BP2.out) | (with_reducible exact HY.out _ (al BP2.out _)) | (with_reducible exact HY.out _ BN2.out) | (with_reducible exact HY.out _ (al BN2.out _)) | (with_reducible exact HY.out _ BA2.out))
    (first | (go_at_call 56; refine (HKP1.out _).mono ?_; rintro e wP2 ⟨rfl, bP2⟩; have BP2 := Lib.hid (nx BA1.out (undrew bP2))) | (go_at_call 20; refine (HE1.out (kp n 1 p) HQ1.out _ (by first | with_reducible exact HL.out.on BP2.out (Nat.le_refl _) | with_reducible exact HL.out.on (al BP2.out _) (Nat.le_refl _))).mono ?_; rintro e wN2 ⟨vN2, rfl, bN2, oN2⟩; have BN2 := Lib.hid (show Below W0.heap.size W0 wN2 from by first | with_reducible exact nx BP2.out bN2 | with_reducible exact nx (al BP2.out _) bN2); have ON2 := Lib.hid (show own.Own W0.heap.size vN2 (E (kd n 1) (kp n 1 p)) wN2 from by first | with_reducible exact oN2.up BP2.out.size | with_reducible exact oN2.up (al BP2.out _).size)) | (refine step_toks (by rfl) _ _ (by rfl) W0.heap.size _ ((U (kd n 0) ⟨14, false, false, false, false⟩) ++ [tok n.op]) (by rfl) ((OA1.out.keep (undrew bP2) (Nat.le_refl _)).keep bN2 (Nat.le_refl _)) W0.heap.size vN2 (E (kd n 1) (kp n 1 p)) (by rfl) ON2.out HLN2.out (by first | with_reducible exact BN2.out.size | with_reducible exact (al BN2.out _).size) ?_; intro vA2 wA2 oA2 bA2 gA2; have BA2 := Lib.hid (show Below W0.heap.size W0 wA2 from by first | with_reducible exact BN2.out.trans bA2 | with_reducible exact (al BN2.out _).trans bA2); have OA2 := Lib.hid oA2; clear oA2 bA2 gA2))
  go_wp2
  go_ret
  exact ⟨vA2, rfl, HW0.out.trans (BA2.out.mono HW0.out.size), OA2.out.up HW0.out.size⟩
end Go.Proofs.YtdikohegclooiaaGreatDoor.st

namespace Go.Proofs.YtdikohegclooiaaGreatDoor.st
open Go.ChangeShapes Go.WideShapes Go.ChangeAt Go.RowKit
open tk (Tk)
open nd (Nd Ints)
open ps (Ps posOk kidI top)
open spell (Held)
open et
set_option linter.unusedVariables false
set_option linter.unusedSimpArgs false
set_option maxRecDepth 20000

set_option maxHeartbeats 3200000 in
theorem node_in {l : List Nd} {a : Option Addr} {m cap : Nat} {fl : Bool} {i : Nat} {E U : Nat → Ps → List Tk} (n : Nd) (hc : n.k = 13) (hm : m = l.length) (hmx : m ≤ 1048576) (hi : i < m) (hn : l.getD i default = n) (hGG : ∀ p : Ps, posOk p.l p.d = true → Gis l a m cap fl i n p E U) : CallS 38 l a m cap fl i (fun q => body E U n q) := by
  intro p hq w hL
  show Calls Tryz.prog 38 _ w (Out (body E U n p) w)
  have hG := hGG p hq
  have hil : i < l.length := hm ▸ hi
  rw [getD_at hil] at hn
  have hLL := hL
  obtain ⟨bl, ol, rfl, hbl, hnode⟩ := nd.lies_at hL hil
  obtain ⟨ak, ck, h5, hi0⟩ := hnode i hil
  rw [hn] at h5 hi0
  have hi := hi0
  have hlen : 1 ≤ n.kids.length := hG.good.least (.inr hc)
  have hk0 : 0 < n.kids.length := by have := hlen; omega
  obtain ⟨bk, ok, hak, hbk, hkc0⟩ := kidc hi (Below.refl _ _) hk0 (hG.kd hk0)
  subst hak
  rw [Nat.add_zero] at hkc0
  have HKP0 := Lib.hid (hG.kpos hk0 0 rfl (some ⟨bk, ok, none⟩) ck)
  have HE0 := Lib.hid (hG.e 0 hk0)
  have HQ0 := Lib.hid (show posOk (kp n 0 p).l (kp n 0 p).d = true from hG.q hk0)
  have hle0 := hG.le 0 hk0 (kp n 0 p)
  have hkz : (0 : Int) ≤ (n.kids.length : Int) := by omega
  have hkn : (0 : Int) < (n.kids.length : Int) := by omega
  have hkb : (n.kids.length : Int) ≤ 1048576 := by have := hG.len; omega
  obtain ⟨hh0, hh1, hh2, hw0, hs0⟩ := three w (.cells #[.slice (some ⟨bl, ol, none⟩) m cap, .bool fl] 48) (.cells #[.int .i64 p.l, .bool p.d, .bool p.i, .bool p.g, .bool p.s] 30) (.cells #[.int .i64 n.k, .int .i64 n.op, .string n.s, .string n.t, .slice (some ⟨bk, ok, none⟩) n.kids.length ck] 45)
  have HY1 := Lib.hid (show ∀ W, Below (((w.alloc (.cells #[.slice (some ⟨bl, ol, none⟩) m cap, .bool fl] 48)).alloc (.cells #[.int .i64 p.l, .bool p.d, .bool p.i, .bool p.g, .bool p.s] 30)).alloc (.cells #[.int .i64 n.k, .int .i64 n.op, .string n.s, .string n.t, .slice (some ⟨bk, ok, none⟩) n.kids.length ck] 45)).heap.size (((w.alloc (.cells #[.slice (some ⟨bl, ol, none⟩) m cap, .bool fl] 48)).alloc (.cells #[.int .i64 p.l, .bool p.d, .bool p.i, .bool p.g, .bool p.s] 30)).alloc (.cells #[.int .i64 n.k, .int .i64 n.op, .string n.s, .string n.t, .slice (some ⟨bk, ok, none⟩) n.kids.length ck] 45)) W → W.cell? ⟨w.heap.size, 0, none⟩ = some (.slice (some ⟨bl, ol, none⟩) m cap) ∧ W.cell? ⟨w.heap.size, 1, none⟩ = some (.bool fl) ∧ W.cell? ⟨(w.heap.size + 1), 0, none⟩ = some (.int .i64 p.l) ∧ W.cell? ⟨(w.heap.size + 1), 1, none⟩ = some (.bool p.d) ∧ W.cell? ⟨(w.heap.size + 1), 2, none⟩ = some (.bool p.i) ∧ W.cell? ⟨(w.heap.size + 1), 3, none⟩ = some (.bool p.g) ∧ W.cell? ⟨(w.heap.size + 1), 4, none⟩ = some (.bool p.s) ∧ W.cell? ⟨(w.heap.size + 1 + 1), 0, none⟩ = some (.int .i64 n.k) ∧ W.cell? ⟨(w.heap.size + 1 + 1), 1, none⟩ = some (.int .i64 n.op) ∧ W.cell? ⟨(w.heap.size + 1 + 1), 2, none⟩ = some (.string n.s) ∧ W.cell? ⟨(w.heap.size + 1 + 1), 3, none⟩ = some (.string n.t) ∧ W.cell? ⟨(w.heap.size + 1 + 1), 4, none⟩ = some (.slice (some ⟨bk, ok, none⟩) n.kids.length ck) ∧ W.cell? ⟨bk, ok, none⟩ = some (.int .i64 (kd n 0 : Int)) from fun W hb => by
    have hh0 := (hb.block w.heap.size (by omega)).trans hh0
    have hh1 := (hb.block (w.heap.size + 1) (by omega)).trans hh1
    have hh2 := (hb.block (w.heap.size + 1 + 1) (by omega)).trans hh2
    have hkc0 := (hb.cell (p := ⟨bk, ok, none⟩) (show bk < _ by omega)).trans ((hw0.cell (p := ⟨bk, ok, none⟩) hbk).trans hkc0)
    exact ⟨by rw [cell_of_row _ _ 0 _ _ _ (hh0)]; rfl, by rw [cell_of_row _ _ 1 _ _ _ (hh0)]; rfl, by rw [cell_of_row _ _ 0 _ _ _ (hh1)]; rfl, by rw [cell_of_row _ _ 1 _ _ _ (hh1)]; rfl, by rw [cell_of_row _ _ 2 _ _ _ (hh1)]; rfl, by rw [cell_of_row _ _ 3 _ _ _ (hh1)]; rfl, by rw [cell_of_row _ _ 4 _ _ _ (hh1)]; rfl, by rw [cell_of_row _ _ 0 _ _ _ (hh2)]; rfl, by rw [cell_of_row _ _ 1 _ _ _ (hh2)]; rfl, by rw [cell_of_row _ _ 2 _ _ _ (hh2)]; rfl, by rw [cell_of_row _ _ 3 _ _ _ (hh2)]; rfl, by rw [cell_of_row _ _ 4 _ _ _ (hh2)]; rfl, hkc0⟩)
  have HW1 := Lib.hid hw0
  have HL1 := Lib.hid (hLL.on hw0 (Nat.le_refl _))
  have h5a := h5.keep (show Below w.heap.size w (w.alloc (.cells #[.slice (some ⟨bl, ol, none⟩) m cap, .bool fl] 48)) from (Below.refl _ _).alloc (Nat.le_refl _) _) hbl
  have h5b := h5a.keep (show Below w.heap.size (w.alloc (.cells #[.slice (some ⟨bl, ol, none⟩) m cap, .bool fl] 48)) ((w.alloc (.cells #[.slice (some ⟨bl, ol, none⟩) m cap, .bool fl] 48)).alloc (.cells #[.int .i64 p.l, .bool p.d, .bool p.i, .bool p.g, .bool p.s] 30)) from (Below.refl _ _).alloc (by simp) _) hbl
  obtain ⟨y0, y1, y2, y3, y4⟩ := h5b
  have HLK := Lib.hid (show leafK n = 0 by simp [leafK, hc])
  have hii1 : (0 : Int) ≤ (i : Int) := by omega
  have hii2 : (i : Int) < (m : Int) := by omega
  obtain ⟨x5, x5'⟩ := rt.ne_facts (show ¬ n.k = 5 by omega)
  obtain ⟨x7, x7'⟩ := rt.ne_facts (show ¬ n.k = 7 by omega)
  obtain ⟨x8, x8'⟩ := rt.ne_facts (show ¬ n.k = 8 by omega)
  obtain ⟨x9, x9'⟩ := rt.ne_facts (show ¬ n.k = 9 by omega)
  obtain ⟨x10, x10'⟩ := rt.ne_facts (show ¬ n.k = 10 by omega)
  obtain ⟨x15, x15'⟩ := rt.ne_facts (show ¬ n.k = 15 by omega)
  obtain ⟨x6, x6'⟩ := rt.ne_facts (show ¬ n.k = 6 by omega)
  obtain ⟨x11, x11'⟩ := rt.ne_facts (show ¬ n.k = 11 by omega)
  obtain ⟨x13, x13'⟩ := rt.eq_facts (show n.k = 13 by omega)
  have HLIST := Lib.hid (show ∀ W, Below (((w.alloc (.cells #[.slice (some ⟨bl, ol, none⟩) m cap, .bool fl] 48)).alloc (.cells #[.int .i64 p.l, .bool p.d, .bool p.i, .bool p.g, .bool p.s] 30)).alloc (.cells #[.int .i64 n.k, .int .i64 n.op, .string n.s, .string n.t, .slice (some ⟨bk, ok, none⟩) n.kids.length ck] 45)).heap.size (((w.alloc (.cells #[.slice (some ⟨bl, ol, none⟩) m cap, .bool fl] 48)).alloc (.cells #[.int .i64 p.l, .bool p.d, .bool p.i, .bool p.g, .bool p.s] 30)).alloc (.cells #[.int .i64 n.k, .int .i64 n.op, .string n.s, .string n.t, .slice (some ⟨bk, ok, none⟩) n.kids.length ck] 45)) W → Ints W.heap.size W (some ⟨bk, ok, none⟩) n.kids from fun W hb => (((hi0.keep hw0 (Nat.le_refl _)).up hw0.size).keep hb (Nat.le_refl _)).up hb.size)
  have HGG := Lib.hid hG
  have hle0s := hG.ls
  by_cases h1 : 1 < n.kids.length
  · have HBODY : body E U n p = (([tok 32] ++ lst E n n.kids.length) ++ [tok 33]) ++ [tok 24, nam 6 n.s] := by rw [body_13 hc, if_pos h1]; simp only [brack, List.append_assoc, List.cons_append, List.nil_append]
    rw [HBODY]
    have hki : (1 : Int) < (n.kids.length : Int) := by omega
    have HLN1 := Lib.hid (show ([tok 32]).length + (lst E n n.kids.length).length ≤ 1048576 by (try simp only [List.length_append, List.length_cons, List.length_nil]); omega)
    have HLN2 := Lib.hid (show (([tok 32]) ++ lst E n n.kids.length).length + ([tok 33]).length ≤ 1048576 by (try simp only [List.length_append, List.length_cons, List.length_nil]); omega)
    have HLN3 := Lib.hid (show ((([tok 32]) ++ lst E n n.kids.length) ++ [tok 33]).length + ([tok 24, nam 6 n.s]).length ≤ 1048576 by (try simp only [List.length_append, List.length_cons, List.length_nil]); omega)
    clear hm hL hLL hi hi0 hG hGG hh0 hh1 hh2 hw0 hs0 h5 h5a hnode hn hil hkc0 hle0 hle0s hlen 
    have HC := Lib.hid hc
    clear hc
    go_enter Tryz.func38, Tryz.ntmps38
    go_wp2_with fail
    refine (spec_leaf n (some ⟨bk, ok, none⟩) ck _).mono ?_
    rw [HLK.out]
    rintro e w2 ⟨rfl, b2⟩
    clear y0 y1 y2 y3 y4
    have HW0 := Lib.hid (show Below w.heap.size w (w2.alloc (.cells #[.int .i64 0, .string (leafS n), .int .i64 0] 56)) from (HW1.out.trans (b2.mono HW1.out.size)).alloc (Nat.le_trans HW1.out.size b2.size) _)
    have HL := Lib.hid (HL1.out.on (show Below (((w.alloc (.cells #[.slice (some ⟨bl, ol, none⟩) m cap, .bool fl] 48)).alloc (.cells #[.int .i64 p.l, .bool p.d, .bool p.i, .bool p.g, .bool p.s] 30)).alloc (.cells #[.int .i64 n.k, .int .i64 n.op, .string n.s, .string n.t, .slice (some ⟨bk, ok, none⟩) n.kids.length ck] 45)).heap.size (((w.alloc (.cells #[.slice (some ⟨bl, ol, none⟩) m cap, .bool fl] 48)).alloc (.cells #[.int .i64 p.l, .bool p.d, .bool p.i, .bool p.g, .bool p.s] 30)).alloc (.cells #[.int .i64 n.k, .int .i64 n.op, .string n.s, .string n.t, .slice (some ⟨bk, ok, none⟩) n.kids.length ck] 45)) (w2.alloc (.cells #[.int .i64 0, .string (leafS n), .int .i64 0] 56)) from b2.alloc b2.size _) (Nat.le_refl _))
    have HY := Lib.hid (show ∀ W, Below (w2.alloc (.cells #[.int .i64 0, .string (leafS n), .int .i64 0] 56)).heap.size (w2.alloc (.cells #[.int .i64 0, .string (leafS n), .int .i64 0] 56)) W → W.cell? ⟨w.heap.size, 0, none⟩ = some (.slice (some ⟨bl, ol, none⟩) m cap) ∧ W.cell? ⟨w.heap.size, 1, none⟩ = some (.bool fl) ∧ W.cell? ⟨(w.heap.size + 1), 0, none⟩ = some (.int .i64 p.l) ∧ W.cell? ⟨(w.heap.size + 1), 1, none⟩ = some (.bool p.d) ∧ W.cell? ⟨(w.heap.size + 1), 2, none⟩ = some (.bool p.i) ∧ W.cell? ⟨(w.heap.size + 1), 3, none⟩ = some (.bool p.g) ∧ W.cell? ⟨(w.heap.size + 1), 4, none⟩ = some (.bool p.s) ∧ W.cell? ⟨(w.heap.size + 1 + 1), 0, none⟩ = some (.int .i64 n.k) ∧ W.cell? ⟨(w.heap.size + 1 + 1), 1, none⟩ = some (.int .i64 n.op) ∧ W.cell? ⟨(w.heap.size + 1 + 1), 2, none⟩ = some (.string n.s) ∧ W.cell? ⟨(w.heap.size + 1 + 1), 3, none⟩ = some (.string n.t) ∧ W.cell? ⟨(w.heap.size + 1 + 1), 4, none⟩ = some (.slice (some ⟨bk, ok, none⟩) n.kids.length ck) ∧ W.cell? ⟨bk, ok, none⟩ = some (.int .i64 (kd n 0 : Int)) from fun W hb => HY1.out W ((b2.alloc b2.size _).trans (hb.mono (b2.alloc b2.size _).size)))
    obtain ⟨f0, f1, f2, f3, f4, f5, f6, f7, f8, f9, f10, f11, f12⟩ := HY.out _ (Below.refl _ _)
    have HLS := Lib.hid (show ∀ W, Below (w2.alloc (.cells #[.int .i64 0, .string (leafS n), .int .i64 0] 56)).heap.size (w2.alloc (.cells #[.int .i64 0, .string (leafS n), .int .i64 0] 56)) W → Calls Tryz.prog 57 #[.agg #[.slice (some ⟨bl, ol, none⟩) m cap, .bool fl], .slice (some ⟨bk, ok, none⟩) n.kids.length ck] W (Out (lst E n n.kids.length) W) from fun W hb => list_any n (some ⟨bk, ok, none⟩) ck W (HL.out.on hb (Nat.le_refl _)) HGG.out.len (fun K hK => HGG.out.kd hK) (HLIST.out W ((b2.alloc b2.size _).trans (hb.mono (b2.alloc b2.size _).size))) HGG.out.e HGG.out.ls)
    obtain ⟨W0, hW⟩ : ∃ W, W = w2.alloc (.cells #[.int .i64 0, .string (leafS n), .int .i64 0] 56) := ⟨_, rfl⟩
    go_wp2_with fail
    rw [← hW] at HW0 HL HY HLS ⊢
    clear hW
    have B0 := Lib.hid (Below.refl W0.heap.size W0)
    clear f0 f1 f2 f3 f4 f5 f6 f7 f8 f9 f10 f11 f12
    have YB1 := Lib.hid (HY.out _ (dr B0.out))
    go_region_held3 (fun W => W.cell? ⟨w.heap.size, 0, none⟩ = some (.slice (some ⟨bl, ol, none⟩) m cap) ∧ W.cell? ⟨w.heap.size, 1, none⟩ = some (.bool fl) ∧ W.cell? ⟨(w.heap.size + 1), 0, none⟩ = some (.int .i64 p.l) ∧ W.cell? ⟨(w.heap.size + 1), 1, none⟩ = some (.bool p.d) ∧ W.cell? ⟨(w.heap.size + 1), 2, none⟩ = some (.bool p.i) ∧ W.cell? ⟨(w.heap.size + 1), 3, none⟩ = some (.bool p.g) ∧ W.cell? ⟨(w.heap.size + 1), 4, none⟩ = some (.bool p.s) ∧ W.cell? ⟨(w.heap.size + 1 + 1), 0, none⟩ = some (.int .i64 n.k) ∧ W.cell? ⟨(w.heap.size + 1 + 1), 1, none⟩ = some (.int .i64 n.op) ∧ W.cell? ⟨(w.heap.size + 1 + 1), 2, none⟩ = some (.string n.s) ∧ W.cell? ⟨(w.heap.size + 1 + 1), 3, none⟩ = some (.string n.t) ∧ W.cell? ⟨(w.heap.size + 1 + 1), 4, none⟩ = some (.slice (some ⟨bk, ok, none⟩) n.kids.length ck) ∧ W.cell? ⟨bk, ok, none⟩ = some (.int .i64 (kd n 0 : Int)))
      (first | (with_reducible exact YB1.out) | (with_reducible exact HY.out _ BP1.out) | (with_reducible exact HY.out _ (al BP1.out _)) | (with_reducible exact HY.out _ BN1.out) | (with_reducible exact HY.out _ (al BN1.out _)) | (with_reducible exact HY.out _ BN1.out))
      (first | (go_at_call 56; refine (HKP0.out _).mono ?_; rintro e wP1 ⟨rfl, bP1⟩; have BP1 := Lib.hid (nx B0.out (undrew bP1))) | (go_at_call 20; refine (HE0.out (kp n 0 p) HQ0.out _ (by first | with_reducible exact HL.out.on BP1.out (Nat.le_refl _) | with_reducible exact HL.out.on (al BP1.out _) (Nat.le_refl _))).mono ?_; rintro e wN1 ⟨vN1, rfl, bN1, oN1⟩; have BN1 := Lib.hid (show Below W0.heap.size W0 wN1 from by first | with_reducible exact nx BP1.out bN1 | with_reducible exact nx (al BP1.out _) bN1); have ON1 := Lib.hid (show own.Own W0.heap.size vN1 (E (kd n 0) (kp n 0 p)) wN1 from by first | with_reducible exact oN1.up BP1.out.size | with_reducible exact oN1.up (al BP1.out _).size)))
    obtain ⟨f0, f1, f2, f3, f4, f5, f6, f7, f8, f9, f10, f11, f12⟩ := HY.out _ BN1.out
    go_wp2_with fail
    clear f0 f1 f2 f3 f4 f5 f6 f7 f8 f9 f10 f11 f12
    have YB3 := Lib.hid (HY.out _ (dr BN1.out))
    go_region_held3 (fun W => W.cell? ⟨w.heap.size, 0, none⟩ = some (.slice (some ⟨bl, ol, none⟩) m cap) ∧ W.cell? ⟨w.heap.size, 1, none⟩ = some (.bool fl) ∧ W.cell? ⟨(w.heap.size + 1), 0, none⟩ = some (.int .i64 p.l) ∧ W.cell? ⟨(w.heap.size + 1), 1, none⟩ = some (.bool p.d) ∧ W.cell? ⟨(w.heap.size + 1), 2, none⟩ = some (.bool p.i) ∧ W.cell? ⟨(w.heap.size + 1), 3, none⟩ = some (.bool p.g) ∧ W.cell? ⟨(w.heap.size + 1), 4, none⟩ = some (.bool p.s) ∧ W.cell? ⟨(w.heap.size + 1 + 1), 0, none⟩ = some (.int .i64 n.k) ∧ W.cell? ⟨(w.heap.size + 1 + 1), 1, none⟩ = some (.int .i64 n.op) ∧ W.cell? ⟨(w.heap.size + 1 + 1), 2, none⟩ = some (.string n.s) ∧ W.cell? ⟨(w.heap.size + 1 + 1), 3, none⟩ = some (.string n.t) ∧ W.cell? ⟨(w.heap.size + 1 + 1), 4, none⟩ = some (.slice (some ⟨bk, ok, none⟩) n.kids.length ck) ∧ W.cell? ⟨bk, ok, none⟩ = some (.int .i64 (kd n 0 : Int)))
      (first | (with_reducible exact YB3.out) | (with_reducible exact HY.out _ BT3.out) | (with_reducible exact HY.out _ (al BT3.out _)) | (with_reducible exact HY.out _ BN3.out) | (with_reducible exact HY.out _ (al BN3.out _)) | (with_reducible exact HY.out _ BA3.out))
      (first | (go_at_call 40; refine (spec_tok 32 _).mono ?_; rintro e wT3 ⟨rfl, bT3⟩; have BT3 := Lib.hid (nx BN1.out (undrew bT3))) | (go_at_call 57; refine (HLS.out _ (show Below W0.heap.size W0 _ from by first | with_reducible exact BT3.out | with_reducible exact al BT3.out _)).mono ?_; rintro e wN3 ⟨vN3, rfl, bN3, oN3⟩; have BN3 := Lib.hid (show Below W0.heap.size W0 wN3 from by first | with_reducible exact nx BT3.out bN3 | with_reducible exact nx (al BT3.out _) bN3); have ON3 := Lib.hid (show own.Own W0.heap.size vN3 (lst E n n.kids.length) wN3 from by first | with_reducible exact oN3.up BT3.out.size | with_reducible exact oN3.up (al BT3.out _).size)) | (refine step_toks (by rfl) _ _ (by rfl) W0.heap.size _ ([tok 32]) (by rfl) (by first | exact lit1 wN3 (tok 32) BN3.out.size | exact (lit1 wT3 (tok 32) BT3.out.size).keep bN3 (Nat.le_refl _)) W0.heap.size vN3 (lst E n n.kids.length) (by rfl) (by first | with_reducible exact ON3.out | with_reducible exact ON3.out.keep ((Below.refl _ _).alloc (Nat.le_refl _) _) (Nat.le_refl _)) HLN1.out (by first | with_reducible exact BN3.out.size | with_reducible exact (al BN3.out _).size) ?_; intro vA3 wA3 oA3 bA3 gA3; have BA3 := Lib.hid (show Below W0.heap.size W0 wA3 from by first | with_reducible exact BN3.out.trans bA3 | with_reducible exact (al BN3.out _).trans bA3); have OA3 := Lib.hid oA3; clear oA3 bA3 gA3))
    all_goals
      obtain ⟨f0, f1, f2, f3, f4, f5, f6, f7, f8, f9, f10, f11, f12⟩ := HY.out _ BA3.out
      go_wp2_with (first | (go_at_call 40; refine (spec_tok 33 _).mono ?_; rintro e wS4 ⟨rfl, bS4⟩; have BS4 := Lib.hid (nx BA3.out bS4); have OS4 := Lib.hid (OA3.out.keep bS4 (Nat.le_refl _)); clear bS4 f0 f1 f2 f3 f4 f5 f6 f7 f8 f9 f10 f11 f12) | (at_builtin; refine wpList_toks (by rfl) _ _ (by rfl) W0.heap.size _ ([tok 32] ++ lst E n n.kids.length) (by rfl) (OS4.out.keep ((Below.refl _ _).alloc (Nat.le_refl _) _) (Nat.le_refl _)) W0.heap.size _ [tok 33] (by rfl) (lit1 wS4 (tok 33) BS4.out.size) HLN2.out (al BS4.out _).size ?_; intro vR4 wR4 oR4 bR4 gR4; have BR4 := Lib.hid ((al BS4.out _).trans bR4); have OR4 := Lib.hid oR4; clear oR4 bR4 gR4))
      have YB5 := Lib.hid (HY.out _ (dr BR4.out))
      go_region_held3 (fun W => W.cell? ⟨w.heap.size, 0, none⟩ = some (.slice (some ⟨bl, ol, none⟩) m cap) ∧ W.cell? ⟨w.heap.size, 1, none⟩ = some (.bool fl) ∧ W.cell? ⟨(w.heap.size + 1), 0, none⟩ = some (.int .i64 p.l) ∧ W.cell? ⟨(w.heap.size + 1), 1, none⟩ = some (.bool p.d) ∧ W.cell? ⟨(w.heap.size + 1), 2, none⟩ = some (.bool p.i) ∧ W.cell? ⟨(w.heap.size + 1), 3, none⟩ = some (.bool p.g) ∧ W.cell? ⟨(w.heap.size + 1), 4, none⟩ = some (.bool p.s) ∧ W.cell? ⟨(w.heap.size + 1 + 1), 0, none⟩ = some (.int .i64 n.k) ∧ W.cell? ⟨(w.heap.size + 1 + 1), 1, none⟩ = some (.int .i64 n.op) ∧ W.cell? ⟨(w.heap.size + 1 + 1), 2, none⟩ = some (.string n.s) ∧ W.cell? ⟨(w.heap.size + 1 + 1), 3, none⟩ = some (.string n.t) ∧ W.cell? ⟨(w.heap.size + 1 + 1), 4, none⟩ = some (.slice (some ⟨bk, ok, none⟩) n.kids.length ck) ∧ W.cell? ⟨bk, ok, none⟩ = some (.int .i64 (kd n 0 : Int)))
        (first | (with_reducible exact YB5.out) | (with_reducible exact HY.out _ BT5.out) | (with_reducible exact HY.out _ (al BT5.out _)) | (with_reducible exact HY.out _ BA5.out))
        (first | (go_at_call 40; refine (spec_tok 24 _).mono ?_; rintro e wT5 ⟨rfl, bT5⟩; have BT5 := Lib.hid (nx BR4.out (undrew bT5))) | (refine step_toks (by rfl) _ _ (by rfl) W0.heap.size _ ((([tok 32] ++ lst E n n.kids.length) ++ [tok 33])) (by rfl) ((OR4.out.keep (undrew bT5) (Nat.le_refl _)).keep ((Below.refl _ _).alloc (Nat.le_refl _) _) (Nat.le_refl _)) W0.heap.size _ ([tok 24, nam 6 n.s]) (by rfl) (lit2 wT5 (tok 24) (nam 6 n.s) BT5.out.size) HLN3.out (by first | with_reducible exact BT5.out.size | with_reducible exact (al BT5.out _).size) ?_; intro vA5 wA5 oA5 bA5 gA5; have BA5 := Lib.hid (show Below W0.heap.size W0 wA5 from by first | with_reducible exact BT5.out.trans bA5 | with_reducible exact (al BT5.out _).trans bA5); have OA5 := Lib.hid oA5; clear oA5 bA5 gA5))
      go_wp2
      go_ret
      exact ⟨vA5, rfl, HW0.out.trans (BA5.out.mono HW0.out.size), OA5.out.up HW0.out.size⟩
  · have HBODY : body E U n p = E (kd n 0) (kp n 0 p) ++ [tok 24, nam 6 n.s] := by rw [body_13 hc, if_neg h1]
    rw [HBODY]
    have hki : ¬ (1 : Int) < (n.kids.length : Int) := by omega
    have HLN1 := Lib.hid (show (E (kd n 0) (kp n 0 p)).length + ([tok 24, nam 6 n.s] : List Tk).length ≤ 1048576 by simp only [List.length_cons, List.length_nil]; omega)
    clear hm hL hLL hi hi0 hG hGG hh0 hh1 hh2 hw0 hs0 h5 h5a hnode hn hil hkc0 hle0 hle0s hlen 
    have HC := Lib.hid hc
    clear hc
    go_enter Tryz.func38, Tryz.ntmps38
    go_wp2_with fail
    refine (spec_leaf n (some ⟨bk, ok, none⟩) ck _).mono ?_
    rw [HLK.out]
    rintro e w2 ⟨rfl, b2⟩
    clear y0 y1 y2 y3 y4
    have HW0 := Lib.hid (show Below w.heap.size w (w2.alloc (.cells #[.int .i64 0, .string (leafS n), .int .i64 0] 56)) from (HW1.out.trans (b2.mono HW1.out.size)).alloc (Nat.le_trans HW1.out.size b2.size) _)
    have HL := Lib.hid (HL1.out.on (show Below (((w.alloc (.cells #[.slice (some ⟨bl, ol, none⟩) m cap, .bool fl] 48)).alloc (.cells #[.int .i64 p.l, .bool p.d, .bool p.i, .bool p.g, .bool p.s] 30)).alloc (.cells #[.int .i64 n.k, .int .i64 n.op, .string n.s, .string n.t, .slice (some ⟨bk, ok, none⟩) n.kids.length ck] 45)).heap.size (((w.alloc (.cells #[.slice (some ⟨bl, ol, none⟩) m cap, .bool fl] 48)).alloc (.cells #[.int .i64 p.l, .bool p.d, .bool p.i, .bool p.g, .bool p.s] 30)).alloc (.cells #[.int .i64 n.k, .int .i64 n.op, .string n.s, .string n.t, .slice (some ⟨bk, ok, none⟩) n.kids.length ck] 45)) (w2.alloc (.cells #[.int .i64 0, .string (leafS n), .int .i64 0] 56)) from b2.alloc b2.size _) (Nat.le_refl _))
    have HY := Lib.hid (show ∀ W, Below (w2.alloc (.cells #[.int .i64 0, .string (leafS n), .int .i64 0] 56)).heap.size (w2.alloc (.cells #[.int .i64 0, .string (leafS n), .int .i64 0] 56)) W → W.cell? ⟨w.heap.size, 0, none⟩ = some (.slice (some ⟨bl, ol, none⟩) m cap) ∧ W.cell? ⟨w.heap.size, 1, none⟩ = some (.bool fl) ∧ W.cell? ⟨(w.heap.size + 1), 0, none⟩ = some (.int .i64 p.l) ∧ W.cell? ⟨(w.heap.size + 1), 1, none⟩ = some (.bool p.d) ∧ W.cell? ⟨(w.heap.size + 1), 2, none⟩ = some (.bool p.i) ∧ W.cell? ⟨(w.heap.size + 1), 3, none⟩ = some (.bool p.g) ∧ W.cell? ⟨(w.heap.size + 1), 4, none⟩ = some (.bool p.s) ∧ W.cell? ⟨(w.heap.size + 1 + 1), 0, none⟩ = some (.int .i64 n.k) ∧ W.cell? ⟨(w.heap.size + 1 + 1), 1, none⟩ = some (.int .i64 n.op) ∧ W.cell? ⟨(w.heap.size + 1 + 1), 2, none⟩ = some (.string n.s) ∧ W.cell? ⟨(w.heap.size + 1 + 1), 3, none⟩ = some (.string n.t) ∧ W.cell? ⟨(w.heap.size + 1 + 1), 4, none⟩ = some (.slice (some ⟨bk, ok, none⟩) n.kids.length ck) ∧ W.cell? ⟨bk, ok, none⟩ = some (.int .i64 (kd n 0 : Int)) from fun W hb => HY1.out W ((b2.alloc b2.size _).trans (hb.mono (b2.alloc b2.size _).size)))
    obtain ⟨f0, f1, f2, f3, f4, f5, f6, f7, f8, f9, f10, f11, f12⟩ := HY.out _ (Below.refl _ _)
    obtain ⟨W0, hW⟩ : ∃ W, W = w2.alloc (.cells #[.int .i64 0, .string (leafS n), .int .i64 0] 56) := ⟨_, rfl⟩
    go_wp2_with fail
    rw [← hW] at HW0 HL HY ⊢
    clear hW
    have B0 := Lib.hid (Below.refl W0.heap.size W0)
    clear f0 f1 f2 f3 f4 f5 f6 f7 f8 f9 f10 f11 f12
    have YB1 := Lib.hid (HY.out _ (dr B0.out))
    go_region_held3 (fun W => W.cell? ⟨w.heap.size, 0, none⟩ = some (.slice (some ⟨bl, ol, none⟩) m cap) ∧ W.cell? ⟨w.heap.size, 1, none⟩ = some (.bool fl) ∧ W.cell? ⟨(w.heap.size + 1), 0, none⟩ = some (.int .i64 p.l) ∧ W.cell? ⟨(w.heap.size + 1), 1, none⟩ = some (.bool p.d) ∧ W.cell? ⟨(w.heap.size + 1), 2, none⟩ = some (.bool p.i) ∧ W.cell? ⟨(w.heap.size + 1), 3, none⟩ = some (.bool p.g) ∧ W.cell? ⟨(w.heap.size + 1), 4, none⟩ = some (.bool p.s) ∧ W.cell? ⟨(w.heap.size + 1 + 1), 0, none⟩ = some (.int .i64 n.k) ∧ W.cell? ⟨(w.heap.size + 1 + 1), 1, none⟩ = some (.int .i64 n.op) ∧ W.cell? ⟨(w.heap.size + 1 + 1), 2, none⟩ = some (.string n.s) ∧ W.cell? ⟨(w.heap.size + 1 + 1), 3, none⟩ = some (.string n.t) ∧ W.cell? ⟨(w.heap.size + 1 + 1), 4, none⟩ = some (.slice (some ⟨bk, ok, none⟩) n.kids.length ck) ∧ W.cell? ⟨bk, ok, none⟩ = some (.int .i64 (kd n 0 : Int)))
      (first | (with_reducible exact YB1.out) | (with_reducible exact HY.out _ BP1.out) | (with_reducible exact HY.out _ (al BP1.out _)) | (with_reducible exact HY.out _ BN1.out) | (with_reducible exact HY.out _ (al BN1.out _)) | (with_reducible exact HY.out _ BN1.out))
      (first | (go_at_call 56; refine (HKP0.out _).mono ?_; rintro e wP1 ⟨rfl, bP1⟩; have BP1 := Lib.hid (nx B0.out (undrew bP1))) | (go_at_call 20; refine (HE0.out (kp n 0 p) HQ0.out _ (by first | with_reducible exact HL.out.on BP1.out (Nat.le_refl _) | with_reducible exact HL.out.on (al BP1.out _) (Nat.le_refl _))).mono ?_; rintro e wN1 ⟨vN1, rfl, bN1, oN1⟩; have BN1 := Lib.hid (show Below W0.heap.size W0 wN1 from by first | with_reducible exact nx BP1.out bN1 | with_reducible exact nx (al BP1.out _) bN1); have ON1 := Lib.hid (show own.Own W0.heap.size vN1 (E (kd n 0) (kp n 0 p)) wN1 from by first | with_reducible exact oN1.up BP1.out.size | with_reducible exact oN1.up (al BP1.out _).size)))
    obtain ⟨f0, f1, f2, f3, f4, f5, f6, f7, f8, f9, f10, f11, f12⟩ := HY.out _ BN1.out
    go_wp2_with fail
    clear f0 f1 f2 f3 f4 f5 f6 f7 f8 f9 f10 f11 f12
    have YB6 := Lib.hid (HY.out _ (dr BN1.out))
    go_region_held3 (fun W => W.cell? ⟨w.heap.size, 0, none⟩ = some (.slice (some ⟨bl, ol, none⟩) m cap) ∧ W.cell? ⟨w.heap.size, 1, none⟩ = some (.bool fl) ∧ W.cell? ⟨(w.heap.size + 1), 0, none⟩ = some (.int .i64 p.l) ∧ W.cell? ⟨(w.heap.size + 1), 1, none⟩ = some (.bool p.d) ∧ W.cell? ⟨(w.heap.size + 1), 2, none⟩ = some (.bool p.i) ∧ W.cell? ⟨(w.heap.size + 1), 3, none⟩ = some (.bool p.g) ∧ W.cell? ⟨(w.heap.size + 1), 4, none⟩ = some (.bool p.s) ∧ W.cell? ⟨(w.heap.size + 1 + 1), 0, none⟩ = some (.int .i64 n.k) ∧ W.cell? ⟨(w.heap.size + 1 + 1), 1, none⟩ = some (.int .i64 n.op) ∧ W.cell? ⟨(w.heap.size + 1 + 1), 2, none⟩ = some (.string n.s) ∧ W.cell? ⟨(w.heap.size + 1 + 1), 3, none⟩ = some (.string n.t) ∧ W.cell? ⟨(w.heap.size + 1 + 1), 4, none⟩ = some (.slice (some ⟨bk, ok, none⟩) n.kids.length ck) ∧ W.cell? ⟨bk, ok, none⟩ = some (.int .i64 (kd n 0 : Int)))
      (first | (with_reducible exact YB6.out) | (with_reducible exact HY.out _ BT6.out) | (with_reducible exact HY.out _ (al BT6.out _)) | (with_reducible exact HY.out _ BA6.out))
      (first | (go_at_call 40; refine (spec_tok 24 _).mono ?_; rintro e wT6 ⟨rfl, bT6⟩; have BT6 := Lib.hid (nx BN1.out (undrew bT6))) | (refine step_toks (by rfl) _ _ (by rfl) W0.heap.size _ (E (kd n 0) (kp n 0 p)) (by rfl) ((ON1.out.keep (undrew bT6) (Nat.le_refl _)).keep ((Below.refl _ _).alloc (Nat.le_refl _) _) (Nat.le_refl _)) W0.heap.size _ ([tok 24, nam 6 n.s]) (by rfl) (lit2 wT6 (tok 24) (nam 6 n.s) BT6.out.size) HLN1.out (by first | with_reducible exact BT6.out.size | with_reducible exact (al BT6.out _).size) ?_; intro vA6 wA6 oA6 bA6 gA6; have BA6 := Lib.hid (show Below W0.heap.size W0 wA6 from by first | with_reducible exact BT6.out.trans bA6 | with_reducible exact (al BT6.out _).trans bA6); have OA6 := Lib.hid oA6; clear oA6 bA6 gA6))
    go_wp2
    go_ret
    exact ⟨vA6, rfl, HW0.out.trans (BA6.out.mono HW0.out.size), OA6.out.up HW0.out.size⟩
end Go.Proofs.YtdikohegclooiaaGreatDoor.st
