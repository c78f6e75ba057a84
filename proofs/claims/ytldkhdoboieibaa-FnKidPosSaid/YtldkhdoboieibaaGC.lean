/-
  spec.l9Pos, spec.l9Node: some position, some node of a drawn tree.
  spec.l9Node: some node of a drawn tree.
  spec.DrawKidPos: some node, the place of a kid (or one beyond) and some position.
-/
import Derived.Test.YtldkhdoboieibaaBentCM
import Derived.Test.YtldkhdoboieibaaKidParts
import Derived.Test.YtldkhdoboieibaaIsRow
import Derived.Deep.CutRange
import Derived.Deep.CutBlock
import Derived.Deep.DeepCutAuto
import Derived.Deep.RegionHeld3
namespace Go.Proofs.Ytldkhdoboieibaa.draw
open Go.ChangeShapes Go.WideShapes Go.ChangeAt Go.RowKit
open nd lcg
open ps (B5 set5 below_set5)
open sz (Sh)
set_option linter.unusedVariables false
set_option maxRecDepth 20000

theorem b5_grown {q p : Nat} {L : Int} {d i g s : Bool} {w w' : World} (h : B5 q L d i g s w) (hg : w.grownBy w' (some p)) (hne : q ≠ p) : B5 q L d i g s w' :=
  (hg.block q h.lt (by simpa using hne)).trans h
theorem b5_below {q : Nat} {L : Int} {d i g s : Bool} {w w' : World} (h : B5 q L d i g s w) (hb : Below w.heap.size w w') : B5 q L d i g s w' := h.keep hb h.lt
theorem b5_other {q h : Nat} {L : Int} {d i g s : Bool} {w : World} (H : B5 q L d i g s w) (hne : q ≠ h) (j : Nat) (v : Value) : B5 q L d i g s (w.setCell ⟨h, j, none⟩ v) := (Below.heap_setCell w ⟨h, j, none⟩ v q hne).trans H
section
variable {B p len cap : Nat} {a : Option Addr} {zs : List Int}
theorem In.over1 {w : World} {s : St} (H : In B w p a len cap zs s) (o : Obj) : In B (w.alloc o) p a len cap zs s := H.keep ((Below.refl w.heap.size w).alloc (Nat.le_refl _) _) H.lt
theorem grown_over1 {w w1 : World} (h : w.grownBy w1 (some p)) (o : Obj) : w.grownBy (w1.alloc o) (some p) := grown_trans h (grown_below (grown_refl) ((Below.refl w1.heap.size w1).alloc (Nat.le_refl _) _) rfl)
def BlOut (B p : Nat) (a : Option Addr) (len cap : Nat) (zs : List Int) (n : Nat) (w : World) (e : Ending) (w' : World) : Prop :=
  ∃ (K : Nat) (s' : St), K < n ∧ e = .returned (.int .i64 K) ∧ In B w' p a len cap zs s' ∧ w.grownBy w' (some p)
theorem bl_some {w : World} {s : St} (n : Nat) (hn : 0 < n) (H : In B w p a len cap zs s) :
    Calls Try.prog 26 #[.pointer (some ⟨p, 0, none⟩), .int .i64 n] w (BlOut B p a len cap zs n w) := by
  refine (bl_ok n hn rfl H).mono ?_
  rintro e w' ⟨rfl, hI, hG⟩
  exact ⟨_, _, exact_lt zs n s hn, rfl, hI, hG⟩
def OnOut (B p : Nat) (a : Option Addr) (len cap : Nat) (zs : List Int) (w : World) (e : Ending) (w' : World) : Prop :=
  ∃ (b : Bool) (s' : St), e = .returned (.bool b) ∧ In B w' p a len cap zs s' ∧ w.grownBy w' (some p)
theorem once_some {w : World} {s : St} (n : Int) (H : In B w p a len cap zs s) :
    Calls Try.prog 40 #[.pointer (some ⟨p, 0, none⟩), .int .i64 n] w (OnOut B p a len cap zs w) := by
  refine (once_any n H).mono ?_
  rintro e w' ⟨rfl, hI, hG⟩
  exact ⟨_, _, rfl, hI, hG⟩
theorem pick3i {w : World} {s : St} (H : In B w p a len cap zs s) :
    Calls Try.prog 43 #[.pointer (some ⟨p, 0, none⟩), .slice (some ⟨w.heap.size, 0, none⟩) 3 3] (w.alloc (.cells #[.int .i64 0, .int .i64 16, .int .i64 (-1)] 3)) (fun e w' => ∃ x s', e = .returned (.int .i64 x) ∧ In B w' p a len cap zs s' ∧ w.grownBy w' (some p)) := by
  refine (pickInt_lit 3 [0, 16, -1] H rfl (by decide) (by decide)).mono ?_
  rintro e w' ⟨⟨rfl, hI, hG⟩, _⟩
  exact ⟨_, _, rfl, hI, hG⟩
/-- Some nodes that lie beside the cursor's block. -/
def QOut (B p : Nat) (a : Option Addr) (len cap : Nat) (zs : List Int) (w : World) (e : Ending) (w' : World) : Prop :=
  ∃ q a2 c2 s', e = .returned (.slice a2 q.length c2) ∧ LiesX p w'.heap.size w' a2 q ∧ Small 2300 q ∧ (∀ t ∈ q, Sh t) ∧ (∀ t ∈ q, ar.Ar t) ∧ In B w' p a len cap zs s' ∧ w.grownBy w' (some p)
theorem TAnyX.lies {w w' : World} {e : Ending} (h : TAnyX B p a len cap zs w e w') (hp : p < w.heap.size) : QOut B p a len cap zs w e w' := by
  obtain ⟨q, s1, ⟨v, rfl, T1, I1, G1⟩, hsm, hsh, har⟩ := h
  obtain ⟨g, c, z, r, rfl, hcq, hSg, hgw, hpS, hz, hzl, hpt, hr⟩ := T1.row hsm.1
  refine ⟨q, _, c, s1, rfl, ?_, hsm, hsh, har, I1, G1⟩
  rw [← hz]
  exact pt_lies hpt hgw (by omega) (fun i hi hne => (hr i hi hne).1)

/-- Some position. -/
def PosOut (B p : Nat) (a : Option Addr) (len cap : Nat) (zs : List Int) (w : World) (e : Ending) (w' : World) : Prop :=
  ∃ (L : Int) (d i g s : Bool) (s' : St), e = .returned (.agg #[.int .i64 L, .bool d, .bool i, .bool g, .bool s]) ∧ In B w' p a len cap zs s' ∧ w.grownBy w' (some p)

set_option maxHeartbeats 3200000 in
theorem pos_any {w : World} {s0 : St} (H : In B w p a len cap zs s0) :
    Calls Try.prog 27 #[.pointer (some ⟨p, 0, none⟩)] w (PosOut B p a len cap zs w) := by
  have hlt := H.lt
  have I0 := Lib.hid (In.over1 H (.cells #[.int .i64 0, .bool false, .bool false, .bool false, .bool false] 28))
  have G0 := Lib.hid (grown_over1 (p := p) (grown_refl (w := w)) (.cells #[.int .i64 0, .bool false, .bool false, .bool false, .bool false] 28))
  have R0 := Lib.hid (B5.new w 0 false false false false)
  have hrp : w.heap.size ≠ p := by omega
  have HRP := Lib.hid hrp
  have hlt' := Lib.hid hlt
  clear H
  go_enter Try.func27, Try.ntmps27
  go_wp2_with fail
  refine (bl_some 15 (by decide) I0.out).mono ?_
  rintro e w1 ⟨K, s1, hK, rfl, I1, g1⟩
  have J1 := Lib.hid I1
  have G1 := Lib.hid (grown_trans G0.out g1)
  have R1 := Lib.hid (b5_grown R0.out g1 HRP.out)
  clear I1 g1
  go_wp2_with fail
  refine (once_some 4 J1.out).mono ?_
  rintro e w2 ⟨i, s2, rfl, I2, g2⟩
  have J2 := Lib.hid I2
  have G2 := Lib.hid (grown_trans G1.out g2)
  have R2 := Lib.hid (b5_grown R1.out g2 HRP.out)
  clear I2 g2
  go_wp2_with fail
  refine (once_some 4 J2.out).mono ?_
  rintro e w3 ⟨g, s3, rfl, I3, g3⟩
  have J3 := Lib.hid I3
  have G3 := Lib.hid (grown_trans G2.out g3)
  have R3 := Lib.hid (b5_grown R2.out g3 HRP.out)
  clear I3 g3
  go_wp2_with fail
  refine (once_some 4 J3.out).mono ?_
  rintro e w4 ⟨s, s4, rfl, I4, g4⟩
  have J4 := Lib.hid I4
  have G4 := Lib.hid (grown_trans G3.out g4)
  have R4 := Lib.hid (b5_grown R3.out g4 HRP.out)
  clear I4 g4
  go_wp2_with fail
  obtain ⟨q, hq⟩ : ∃ q, q = w4.heap.size := ⟨_, rfl⟩
  obtain ⟨W, hWe⟩ : ∃ W, W = w4.alloc (.cells #[.int .i64 (1 + (K : Int)), .bool false, .bool i, .bool g, .bool s] 28) := ⟨_, rfl⟩
  have JW := Lib.hid (show In B W p a len cap zs s4 by rw [hWe]; exact In.over1 J4.out _)
  have GW := Lib.hid (show w.grownBy W (some p) by rw [hWe]; exact grown_over1 G4.out _)
  have RW := Lib.hid (show B5 w.heap.size 0 false false false false W by rw [hWe]; exact b5_below R4.out (lv.box_below _ _))
  have OW := Lib.hid (show B5 q (1 + (K : Int)) false i g s W by rw [hWe, hq]; exact B5.new _ _ _ _ _ _)
  have hrq : w.heap.size < q := by rw [hq]; exact R4.out.lt
  have hqp : q ≠ p := by omega
  have HQP := Lib.hid hqp
  have HQR := Lib.hid (Nat.le_of_lt hrq)
  have hne : w.heap.size ≠ q := by omega
  have hne2 : q ≠ w.heap.size := by omega
  rw [← hWe, ← hq]
  clear hWe hq hrq hqp hlt hrp
  refine (bl_some 12 (by decide) JW.out).mono ?_
  rintro e w5 ⟨K2, s5, hK2, rfl, I5, g5⟩
  have J5 := Lib.hid I5
  have G5 := Lib.hid (grown_trans GW.out g5)
  have R5 := Lib.hid (b5_grown RW.out g5 HRP.out)
  have O5 := Lib.hid (b5_grown OW.out g5 HQP.out)
  clear I5 g5
  have HK2 := Lib.hid hK2
  clear hK2 hK
  have hcase : K2 = 0 ∨ K2 = 1 ∨ K2 = 2 ∨ K2 = 3 ∨ K2 = 4 ∨ K2 = 5 ∨ ∃ M, K2 = M + 6 := by
    rcases Nat.lt_or_ge K2 6 with h | h
    · omega
    · exact .inr (.inr (.inr (.inr (.inr (.inr ⟨K2 - 6, by omega⟩)))))
  rcases hcase with rfl | rfl | rfl | rfl | rfl | rfl | ⟨M, rfl⟩
  · obtain ⟨r0, r1, r2, r3, r4⟩ := R5.out.c
    have fr := R5.out.f
    obtain ⟨o0, o1, o2, o3, o4⟩ := O5.out.c
    have fo := O5.out.f
    go_wp2_with fail
    refine (pick3i J5.out).mono ?_
    rintro e w6 ⟨x, s6, rfl, I6, g6⟩
    have J6 := Lib.hid I6
    have G6 := Lib.hid (grown_trans G5.out g6)
    have R6 := Lib.hid (b5_grown R5.out g6 HRP.out)
    have O6 := Lib.hid (b5_grown O5.out g6 HQP.out)
    clear I6 g6 r0 r1 r2 r3 r4 fr o0 o1 o2 o3 o4 fo
    obtain ⟨r0, r1, r2, r3, r4⟩ := R6.out.c
    have fr := R6.out.f
    obtain ⟨o0, o1, o2, o3, o4⟩ := O6.out.c
    have fo := O6.out.f
    go_wp2
    have hqr := HQR.out
    obtain ⟨z0, z1, z2, z3, z4⟩ := (b5_other R6.out hne 0 (.int .i64 (x))).cput (x) (false) (i) (g) (s)
    have hfin := Lib.hid (below_set5 ((Below.refl w.heap.size w6).setCell (p := ⟨q, 0, none⟩) hqr (.int .i64 (x))) (Nat.le_refl _) (x) (false) (i) (g) (s))
    exact bodyPost_ret (v := .agg #[.int .i64 (x), .bool (false), .bool (i), .bool (g), .bool (s)]) (by simp [results, Try.results27, go_sem, z0, z1, z2, z3, z4]) rfl ⟨_, _, _, _, _, _, rfl, J6.out.keep hfin.out (by have := hlt'.out; omega), grown_below G6.out hfin.out rfl⟩
  · obtain ⟨r0, r1, r2, r3, r4⟩ := R5.out.c
    have fr := R5.out.f
    obtain ⟨o0, o1, o2, o3, o4⟩ := O5.out.c
    have fo := O5.out.f
    go_wp2
    have hqr := HQR.out
    obtain ⟨z0, z1, z2, z3, z4⟩ := (b5_other R5.out hne 1 (.bool true)).cput (1 + (K : Int)) (true) (i) (g) (s)
    have hfin := Lib.hid (below_set5 ((Below.refl w.heap.size w5).setCell (p := ⟨q, 1, none⟩) hqr (.bool true)) (Nat.le_refl _) (1 + (K : Int)) (true) (i) (g) (s))
    exact bodyPost_ret (v := .agg #[.int .i64 (1 + (K : Int)), .bool (true), .bool (i), .bool (g), .bool (s)]) (by simp [results, Try.results27, go_sem, z0, z1, z2, z3, z4]) rfl ⟨_, _, _, _, _, _, rfl, J5.out.keep hfin.out (by have := hlt'.out; omega), grown_below G5.out hfin.out rfl⟩
  · obtain ⟨r0, r1, r2, r3, r4⟩ := R5.out.c
    have fr := R5.out.f
    obtain ⟨o0, o1, o2, o3, o4⟩ := O5.out.c
    have fo := O5.out.f
    go_wp2
    have hqr := HQR.out
    obtain ⟨z0, z1, z2, z3, z4⟩ := (b5_other (b5_other R5.out hne 0 (.int .i64 (14))) hne 1 (.bool true)).cput (14) (true) (i) (g) (s)
    have hfin := Lib.hid (below_set5 (((Below.refl w.heap.size w5).setCell (p := ⟨q, 0, none⟩) hqr (.int .i64 (14))).setCell (p := ⟨q, 1, none⟩) hqr (.bool true)) (Nat.le_refl _) (14) (true) (i) (g) (s))
    exact bodyPost_ret (v := .agg #[.int .i64 (14), .bool (true), .bool (i), .bool (g), .bool (s)]) (by simp [results, Try.results27, go_sem, z0, z1, z2, z3, z4]) rfl ⟨_, _, _, _, _, _, rfl, J5.out.keep hfin.out (by have := hlt'.out; omega), grown_below G5.out hfin.out rfl⟩
  · obtain ⟨r0, r1, r2, r3, r4⟩ := R5.out.c
    have fr := R5.out.f
    obtain ⟨o0, o1, o2, o3, o4⟩ := O5.out.c
    have fo := O5.out.f
    go_wp2
    have hqr := HQR.out
    obtain ⟨z0, z1, z2, z3, z4⟩ := (b5_other R5.out hne 0 (.int .i64 (1))).cput (1) (false) (i) (g) (s)
    have hfin := Lib.hid (below_set5 ((Below.refl w.heap.size w5).setCell (p := ⟨q, 0, none⟩) hqr (.int .i64 (1))) (Nat.le_refl _) (1) (false) (i) (g) (s))
    exact bodyPost_ret (v := .agg #[.int .i64 (1), .bool (false), .bool (i), .bool (g), .bool (s)]) (by simp [results, Try.results27, go_sem, z0, z1, z2, z3, z4]) rfl ⟨_, _, _, _, _, _, rfl, J5.out.keep hfin.out (by have := hlt'.out; omega), grown_below G5.out hfin.out rfl⟩
  · obtain ⟨r0, r1, r2, r3, r4⟩ := R5.out.c
    have fr := R5.out.f
    obtain ⟨o0, o1, o2, o3, o4⟩ := O5.out.c
    have fo := O5.out.f
    go_wp2
    have hqr := HQR.out
    obtain ⟨z0, z1, z2, z3, z4⟩ := (b5_other R5.out hne 0 (.int .i64 (1))).cput (1) (false) (i) (g) (s)
    have hfin := Lib.hid (below_set5 ((Below.refl w.heap.size w5).setCell (p := ⟨q, 0, none⟩) hqr (.int .i64 (1))) (Nat.le_refl _) (1) (false) (i) (g) (s))
    exact bodyPost_ret (v := .agg #[.int .i64 (1), .bool (false), .bool (i), .bool (g), .bool (s)]) (by simp [results, Try.results27, go_sem, z0, z1, z2, z3, z4]) rfl ⟨_, _, _, _, _, _, rfl, J5.out.keep hfin.out (by have := hlt'.out; omega), grown_below G5.out hfin.out rfl⟩
  · obtain ⟨r0, r1, r2, r3, r4⟩ := R5.out.c
    have fr := R5.out.f
    obtain ⟨o0, o1, o2, o3, o4⟩ := O5.out.c
    have fo := O5.out.f
    go_wp2
    have hqr := HQR.out
    obtain ⟨z0, z1, z2, z3, z4⟩ := (b5_other R5.out hne 0 (.int .i64 (1))).cput (1) (false) (i) (g) (s)
    have hfin := Lib.hid (below_set5 ((Below.refl w.heap.size w5).setCell (p := ⟨q, 0, none⟩) hqr (.int .i64 (1))) (Nat.le_refl _) (1) (false) (i) (g) (s))
    exact bodyPost_ret (v := .agg #[.int .i64 (1), .bool (false), .bool (i), .bool (g), .bool (s)]) (by simp [results, Try.results27, go_sem, z0, z1, z2, z3, z4]) rfl ⟨_, _, _, _, _, _, rfl, J5.out.keep hfin.out (by have := hlt'.out; omega), grown_below G5.out hfin.out rfl⟩
  · have m0 : ¬ (M : Int) + 6 = 0 := by omega
    have m1 : ¬ (M : Int) + 6 = 1 := by omega
    have m2 : ¬ (M : Int) + 6 = 2 := by omega
    have m3 : ¬ (M : Int) + 6 = 3 := by omega
    have m4 : ¬ (M : Int) + 6 = 4 := by omega
    have m5 : ¬ (M : Int) + 6 = 5 := by omega
    obtain ⟨r0, r1, r2, r3, r4⟩ := R5.out.c
    have fr := R5.out.f
    obtain ⟨o0, o1, o2, o3, o4⟩ := O5.out.c
    have fo := O5.out.f
    go_wp2
    have hqr := HQR.out
    obtain ⟨z0, z1, z2, z3, z4⟩ := R5.out.cput (1 + (K : Int)) (false) (i) (g) (s)
    have hfin := Lib.hid (below_set5 (Below.refl w.heap.size w5) (Nat.le_refl _) (1 + (K : Int)) (false) (i) (g) (s))
    exact bodyPost_ret (v := .agg #[.int .i64 (1 + (K : Int)), .bool (false), .bool (i), .bool (g), .bool (s)]) (by simp [results, Try.results27, go_sem, z0, z1, z2, z3, z4]) rfl ⟨_, _, _, _, _, _, rfl, J5.out.keep hfin.out (by have := hlt'.out; omega), grown_below G5.out hfin.out rfl⟩
end
end Go.Proofs.Ytldkhdoboieibaa.draw

namespace Go.Proofs.Ytldkhdoboieibaa.draw
open Go.ChangeShapes Go.WideShapes Go.ChangeAt Go.RowKit
open nd lcg
open sz (Sh)
set_option linter.unusedVariables false
set_option maxRecDepth 20000

/-! ### A node's box as a block -/
def N5 (q : Nat) (k op : Int) (x y : ByteArray) (v : Value) (w : World) : Prop := w.heap[q]? = some (.cells #[.int .i64 k, .int .i64 op, .string x, .string y, v] 26 (0, 0))
section
variable {q : Nat} {k op : Int} {x y : ByteArray} {v : Value} {w w' : World}
theorem N5.lt (h : N5 q k op x y v w) : q < w.heap.size := lt_of_heap h
theorem N5.keep {B : Nat} (h : N5 q k op x y v w) (hb : Below B w w') (hq : q < B) : N5 q k op x y v w' := (hb.block q hq).trans h
theorem N5.c (h : N5 q k op x y v w) : w.cell? ⟨q, 0, none⟩ = some (.int .i64 k) ∧ w.cell? ⟨q, 1, none⟩ = some (.int .i64 op) ∧ w.cell? ⟨q, 2, none⟩ = some (.string x) ∧ w.cell? ⟨q, 3, none⟩ = some (.string y) ∧ w.cell? ⟨q, 4, none⟩ = some v :=
  ⟨by rw [cell_of_row w q 0 _ _ _ h]; rfl, by rw [cell_of_row w q 1 _ _ _ h]; rfl, by rw [cell_of_row w q 2 _ _ _ h]; rfl, by rw [cell_of_row w q 3 _ _ _ h]; rfl, by rw [cell_of_row w q 4 _ _ _ h]; rfl⟩
theorem N5.f (h : N5 q k op x y v w) (j : Nat) : w.frozen? ⟨q, j, none⟩ = false := frozen_of_row w q j _ _ h
theorem N5.new (w : World) (k op : Int) (x y : ByteArray) (v : Value) : N5 w.heap.size k op x y v (w.alloc (.cells #[.int .i64 k, .int .i64 op, .string x, .string y, v] 26)) := heap_alloc_new w _
/-- Five stores. -/
def setN (w : World) (q : Nat) (k op : Int) (x y : ByteArray) (v : Value) : World := ((((w.setCell ⟨q, 0, none⟩ (.int .i64 k)).setCell ⟨q, 1, none⟩ (.int .i64 op)).setCell ⟨q, 2, none⟩ (.string x)).setCell ⟨q, 3, none⟩ (.string y)).setCell ⟨q, 4, none⟩ v
theorem N5.put (h : N5 q k op x y v w) (k' op' : Int) (x' y' : ByteArray) (v' : Value) : N5 q k' op' x' y' v' (setN w q k' op' x' y' v') :=
  heap_setCell_same _ q 4 _ _ _ (heap_setCell_same _ q 3 _ _ _ (heap_setCell_same _ q 2 _ _ _ (heap_setCell_same _ q 1 _ _ _ (heap_setCell_same _ q 0 _ _ _ h))))
theorem N5.cput (h : N5 q k op x y v w) (k' op' : Int) (x' y' : ByteArray) (v' : Value) : (((((w.setCell ⟨q, 0, none⟩ (.int .i64 k')).setCell ⟨q, 1, none⟩ (.int .i64 op')).setCell ⟨q, 2, none⟩ (.string x')).setCell ⟨q, 3, none⟩ (.string y')).setCell ⟨q, 4, none⟩ v').cell? ⟨q, 0, none⟩ = some (.int .i64 k') ∧ (((((w.setCell ⟨q, 0, none⟩ (.int .i64 k')).setCell ⟨q, 1, none⟩ (.int .i64 op')).setCell ⟨q, 2, none⟩ (.string x')).setCell ⟨q, 3, none⟩ (.string y')).setCell ⟨q, 4, none⟩ v').cell? ⟨q, 1, none⟩ = some (.int .i64 op') ∧ (((((w.setCell ⟨q, 0, none⟩ (.int .i64 k')).setCell ⟨q, 1, none⟩ (.int .i64 op')).setCell ⟨q, 2, none⟩ (.string x')).setCell ⟨q, 3, none⟩ (.string y')).setCell ⟨q, 4, none⟩ v').cell? ⟨q, 2, none⟩ = some (.string x') ∧ (((((w.setCell ⟨q, 0, none⟩ (.int .i64 k')).setCell ⟨q, 1, none⟩ (.int .i64 op')).setCell ⟨q, 2, none⟩ (.string x')).setCell ⟨q, 3, none⟩ (.string y')).setCell ⟨q, 4, none⟩ v').cell? ⟨q, 3, none⟩ = some (.string y') ∧ (((((w.setCell ⟨q, 0, none⟩ (.int .i64 k')).setCell ⟨q, 1, none⟩ (.int .i64 op')).setCell ⟨q, 2, none⟩ (.string x')).setCell ⟨q, 3, none⟩ (.string y')).setCell ⟨q, 4, none⟩ v').cell? ⟨q, 4, none⟩ = some v' :=
  (h.put k' op' x' y' v').c
theorem below_setN {B : Nat} {W : World} (h : Below B W w) (hq : B ≤ q) (k' op' : Int) (x' y' : ByteArray) (v' : Value) : Below B W (setN w q k' op' x' y' v') :=
  ((((h.setCell (p := ⟨q, 0, none⟩) hq _).setCell (p := ⟨q, 1, none⟩) hq _).setCell (p := ⟨q, 2, none⟩) hq _).setCell (p := ⟨q, 3, none⟩) hq _).setCell (p := ⟨q, 4, none⟩) hq _
theorem n5_grown {p : Nat} (h : N5 q k op x y v w) (hg : w.grownBy w' (some p)) (hne : q ≠ p) : N5 q k op x y v w' := (hg.block q h.lt (by simpa using hne)).trans h
theorem n5_other {h : Nat} (H : N5 q k op x y v w) (hne : q ≠ h) (j : Nat) (u : Value) : N5 q k op x y v (w.setCell ⟨h, j, none⟩ u) := (Below.heap_setCell w ⟨h, j, none⟩ u q hne).trans H
end
section
variable {B p len cap : Nat} {a : Option Addr} {zs : List Int}
/-- Some node. -/
def NOut (B p : Nat) (a : Option Addr) (len cap : Nat) (zs : List Int) (w : World) (e : Ending) (w' : World) : Prop :=
  ∃ (t : Nd) (ak : Option Addr) (ck : Nat) (s' : St), e = .returned (.agg #[.int .i64 t.k, .int .i64 t.op, .string t.s, .string t.t, .slice ak t.kids.length ck]) ∧ t.kids.length ≤ 1000 ∧ ar.Ar t ∧ In B w' p a len cap zs s' ∧ w.grownBy w' (some p)

set_option maxHeartbeats 3200000 in
theorem node_any {w : World} {s0 : St} (H : In B w p a len cap zs s0) :
    Calls Try.prog 25 #[.pointer (some ⟨p, 0, none⟩)] w (NOut B p a len cap zs w) := by
  have hlt := H.lt
  have HLT := Lib.hid hlt
  have I0 := Lib.hid (In.over1 H (.cells #[.int .i64 0, .int .i64 0, .string ⟨#[]⟩, .string ⟨#[]⟩, .slice none 0 0] 26))
  have G0 := Lib.hid (grown_over1 (p := p) (grown_refl (w := w)) (.cells #[.int .i64 0, .int .i64 0, .string ⟨#[]⟩, .string ⟨#[]⟩, .slice none 0 0] 26))
  have R0 := Lib.hid (N5.new w 0 0 ⟨#[]⟩ ⟨#[]⟩ (.slice none 0 0))
  have HRP := Lib.hid (show w.heap.size ≠ p by omega)
  clear H hlt
  go_enter Try.func25, Try.ntmps25
  go_wp2_with fail
  refine (some_okx I0.out).mono ?_
  rintro e w1 hT
  obtain ⟨q1, a1, c1, s1, rfl, L1, hsm1, hsh1, har1, I1, g1⟩ := hT.lies I0.out.lt
  have LX := Lib.hid L1
  have HSM := Lib.hid hsm1
  have HAR := Lib.hid har1
  have J1 := Lib.hid I1
  have G1 := Lib.hid (grown_trans G0.out g1)
  have R1 := Lib.hid (n5_grown R0.out g1 HRP.out)
  clear hT L1 hsm1 hsh1 har1 I1 g1
  go_wp2_with fail
  refine (once_some 8 J1.out).mono ?_
  rintro e w2 ⟨b, s2, rfl, I2, g2⟩
  have J2 := Lib.hid I2
  have G2 := Lib.hid (grown_trans G1.out g2)
  have R2 := Lib.hid (n5_grown R1.out g2 HRP.out)
  have L2 := Lib.hid (LX.out.grown g2)
  clear I2 g2 LX
  cases b
  · have JX := J2
    have GX := G2
    have RX := R2
    have LX := L2
    obtain ⟨n, hn⟩ : ∃ n, q1.length = n := ⟨_, rfl⟩
    have HN := Lib.hid hn
    have hn0 : 0 < n := by rw [← hn]; exact HSM.out.1
    have hn1 : n ≤ 2300 := by rw [← hn]; exact HSM.out.2.1
    rw [hn]
    clear hn
    go_wp2_with fail
    refine (bl_some n hn0 JX.out).mono ?_
    rintro e w8 ⟨K, s8, hK, rfl, I8, g8⟩
    have J8 := Lib.hid I8
    have G8 := Lib.hid (grown_trans GX.out g8)
    have R8 := Lib.hid (n5_grown RX.out g8 HRP.out)
    have L8 := Lib.hid (LX.out.grown g8).lies
    clear I8 g8
    have hKq : K < q1.length := by rw [HN.out]; exact hK
    obtain ⟨b, o, rfl, hb, hcell⟩ := lies_at L8.out hKq
    obtain ⟨ak, ck, ⟨c0, c1, c2', c3, c4⟩, hik⟩ := hcell K hKq
    have hkn := HSM.out.2.2 _ (List.getElem_mem hKq)
    have har := HAR.out _ (List.getElem_mem hKq)
    obtain ⟨t, ht⟩ : ∃ t, t = q1[K] := ⟨_, rfl⟩
    rw [← ht] at c0 c1 c2' c3 c4 hkn har
    have HKN := Lib.hid hkn
    have HAT := Lib.hid har
    have h0 : (0 : Int) ≤ (K : Int) := by omega
    have h1 : (K : Int) < (n : Int) := by omega
    clear hik hcell ht hkn har hb hK hKq
    obtain ⟨r0, r1, r2, r3, r4⟩ := R8.out.c
    have fr := R8.out.f
    go_wp2
    obtain ⟨z0, z1, z2, z3, z4⟩ := R8.out.cput t.k t.op t.s t.t (.slice ak t.kids.length ck)
    have hfin := Lib.hid (below_setN (Below.refl w.heap.size w8) (Nat.le_refl _) t.k t.op t.s t.t (.slice ak t.kids.length ck))
    exact bodyPost_ret (v := .agg #[.int .i64 t.k, .int .i64 t.op, .string t.s, .string t.t, .slice ak t.kids.length ck]) (by simp [results, Try.results25, go_sem, z0, z1, z2, z3, z4]) rfl ⟨t, ak, ck, s8, rfl, HKN.out, HAT.out, J8.out.keep hfin.out HLT.out, grown_below G8.out hfin.out rfl⟩
  · go_wp2_with fail
    refine (any_okx J2.out).mono ?_
    rintro e w3 hT
    obtain ⟨q3, a3, c3, s3, rfl, L3, hsm3, hsh3, har3, I3, g3⟩ := hT.lies J2.out.lt
    clear HSM HAR
    have LX := Lib.hid L3
    have HSM := Lib.hid hsm3
    have HAR := Lib.hid har3
    have JX := Lib.hid I3
    have GX := Lib.hid (grown_trans G2.out g3)
    have RX := Lib.hid (n5_grown R2.out g3 HRP.out)
    clear hT L3 hsm3 hsh3 har3 I3 g3 L2
    obtain ⟨n, hn⟩ : ∃ n, q3.length = n := ⟨_, rfl⟩
    have HN := Lib.hid hn
    have hn0 : 0 < n := by rw [← hn]; exact HSM.out.1
    have hn1 : n ≤ 2300 := by rw [← hn]; exact HSM.out.2.1
    rw [hn]
    clear hn
    go_wp2_with fail
    refine (bl_some n hn0 JX.out).mono ?_
    rintro e w8 ⟨K, s8, hK, rfl, I8, g8⟩
    have J8 := Lib.hid I8
    have G8 := Lib.hid (grown_trans GX.out g8)
    have R8 := Lib.hid (n5_grown RX.out g8 HRP.out)
    have L8 := Lib.hid (LX.out.grown g8).lies
    clear I8 g8
    have hKq : K < q3.length := by rw [HN.out]; exact hK
    obtain ⟨b, o, rfl, hb, hcell⟩ := lies_at L8.out hKq
    obtain ⟨ak, ck, ⟨c0, c1, c2', c3, c4⟩, hik⟩ := hcell K hKq
    have hkn := HSM.out.2.2 _ (List.getElem_mem hKq)
    have har := HAR.out _ (List.getElem_mem hKq)
    obtain ⟨t, ht⟩ : ∃ t, t = q3[K] := ⟨_, rfl⟩
    rw [← ht] at c0 c1 c2' c3 c4 hkn har
    have HKN := Lib.hid hkn
    have HAT := Lib.hid har
    have h0 : (0 : Int) ≤ (K : Int) := by omega
    have h1 : (K : Int) < (n : Int) := by omega
    clear hik hcell ht hkn har hb hK hKq
    obtain ⟨r0, r1, r2, r3, r4⟩ := R8.out.c
    have fr := R8.out.f
    go_wp2
    obtain ⟨z0, z1, z2, z3, z4⟩ := R8.out.cput t.k t.op t.s t.t (.slice ak t.kids.length ck)
    have hfin := Lib.hid (below_setN (Below.refl w.heap.size w8) (Nat.le_refl _) t.k t.op t.s t.t (.slice ak t.kids.length ck))
    exact bodyPost_ret (v := .agg #[.int .i64 t.k, .int .i64 t.op, .string t.s, .string t.t, .slice ak t.kids.length ck]) (by simp [results, Try.results25, go_sem, z0, z1, z2, z3, z4]) rfl ⟨t, ak, ck, s8, rfl, HKN.out, HAT.out, J8.out.keep hfin.out HLT.out, grown_below G8.out hfin.out rfl⟩
end
end Go.Proofs.Ytldkhdoboieibaa.draw

namespace Go.Proofs.Ytldkhdoboieibaa.draw
open Go.ChangeShapes Go.WideShapes Go.ChangeAt Go.RowKit
open nd lcg
open ps (B5 set5 below_set5)
open sz (Sh)
set_option linter.unusedVariables false
set_option maxRecDepth 20000

section
variable {q h qn qp : Nat} {k op L : Int} {x y : ByteArray} {v : Value} {w : World}
theorem oth_n (hn : N5 q k op x y v w) (hne : q ≠ qn) (k' op' : Int) (x' y' : ByteArray) (v' : Value) : (((((w.setCell ⟨qn, 0, none⟩ (.int .i64 k')).setCell ⟨qn, 1, none⟩ (.int .i64 op')).setCell ⟨qn, 2, none⟩ (.string x')).setCell ⟨qn, 3, none⟩ (.string y')).setCell ⟨qn, 4, none⟩ v').cell? ⟨q, 0, none⟩ = some (.int .i64 k) ∧ (((((w.setCell ⟨qn, 0, none⟩ (.int .i64 k')).setCell ⟨qn, 1, none⟩ (.int .i64 op')).setCell ⟨qn, 2, none⟩ (.string x')).setCell ⟨qn, 3, none⟩ (.string y')).setCell ⟨qn, 4, none⟩ v').cell? ⟨q, 1, none⟩ = some (.int .i64 op) ∧ (((((w.setCell ⟨qn, 0, none⟩ (.int .i64 k')).setCell ⟨qn, 1, none⟩ (.int .i64 op')).setCell ⟨qn, 2, none⟩ (.string x')).setCell ⟨qn, 3, none⟩ (.string y')).setCell ⟨qn, 4, none⟩ v').cell? ⟨q, 2, none⟩ = some (.string x) ∧ (((((w.setCell ⟨qn, 0, none⟩ (.int .i64 k')).setCell ⟨qn, 1, none⟩ (.int .i64 op')).setCell ⟨qn, 2, none⟩ (.string x')).setCell ⟨qn, 3, none⟩ (.string y')).setCell ⟨qn, 4, none⟩ v').cell? ⟨q, 3, none⟩ = some (.string y) ∧ (((((w.setCell ⟨qn, 0, none⟩ (.int .i64 k')).setCell ⟨qn, 1, none⟩ (.int .i64 op')).setCell ⟨qn, 2, none⟩ (.string x')).setCell ⟨qn, 3, none⟩ (.string y')).setCell ⟨qn, 4, none⟩ v').cell? ⟨q, 4, none⟩ = some v :=
  (n5_other (n5_other (n5_other (n5_other (n5_other hn hne 0 _) hne 1 _) hne 2 _) hne 3 _) hne 4 _).c
theorem oth_p (hn : N5 q k op x y v w) (hne : q ≠ qp) (L' : Int) (d' i' g' s' : Bool) : (((((w.setCell ⟨qp, 0, none⟩ (.int .i64 L')).setCell ⟨qp, 1, none⟩ (.bool d')).setCell ⟨qp, 2, none⟩ (.bool i')).setCell ⟨qp, 3, none⟩ (.bool g')).setCell ⟨qp, 4, none⟩ (.bool s')).cell? ⟨q, 0, none⟩ = some (.int .i64 k) ∧ (((((w.setCell ⟨qp, 0, none⟩ (.int .i64 L')).setCell ⟨qp, 1, none⟩ (.bool d')).setCell ⟨qp, 2, none⟩ (.bool i')).setCell ⟨qp, 3, none⟩ (.bool g')).setCell ⟨qp, 4, none⟩ (.bool s')).cell? ⟨q, 1, none⟩ = some (.int .i64 op) ∧ (((((w.setCell ⟨qp, 0, none⟩ (.int .i64 L')).setCell ⟨qp, 1, none⟩ (.bool d')).setCell ⟨qp, 2, none⟩ (.bool i')).setCell ⟨qp, 3, none⟩ (.bool g')).setCell ⟨qp, 4, none⟩ (.bool s')).cell? ⟨q, 2, none⟩ = some (.string x) ∧ (((((w.setCell ⟨qp, 0, none⟩ (.int .i64 L')).setCell ⟨qp, 1, none⟩ (.bool d')).setCell ⟨qp, 2, none⟩ (.bool i')).setCell ⟨qp, 3, none⟩ (.bool g')).setCell ⟨qp, 4, none⟩ (.bool s')).cell? ⟨q, 3, none⟩ = some (.string y) ∧ (((((w.setCell ⟨qp, 0, none⟩ (.int .i64 L')).setCell ⟨qp, 1, none⟩ (.bool d')).setCell ⟨qp, 2, none⟩ (.bool i')).setCell ⟨qp, 3, none⟩ (.bool g')).setCell ⟨qp, 4, none⟩ (.bool s')).cell? ⟨q, 4, none⟩ = some v :=
  (n5_other (n5_other (n5_other (n5_other (n5_other hn hne 0 _) hne 1 _) hne 2 _) hne 3 _) hne 4 _).c
theorem oth_np (hn : N5 q k op x y v w) (hne : q ≠ qn) (hne2 : q ≠ qp) (k' op' L' : Int) (x' y' : ByteArray) (v' : Value) (d' i' g' s' : Bool) : ((((((((((w.setCell ⟨qn, 0, none⟩ (.int .i64 k')).setCell ⟨qn, 1, none⟩ (.int .i64 op')).setCell ⟨qn, 2, none⟩ (.string x')).setCell ⟨qn, 3, none⟩ (.string y')).setCell ⟨qn, 4, none⟩ v').setCell ⟨qp, 0, none⟩ (.int .i64 L')).setCell ⟨qp, 1, none⟩ (.bool d')).setCell ⟨qp, 2, none⟩ (.bool i')).setCell ⟨qp, 3, none⟩ (.bool g')).setCell ⟨qp, 4, none⟩ (.bool s')).cell? ⟨q, 0, none⟩ = some (.int .i64 k) ∧ ((((((((((w.setCell ⟨qn, 0, none⟩ (.int .i64 k')).setCell ⟨qn, 1, none⟩ (.int .i64 op')).setCell ⟨qn, 2, none⟩ (.string x')).setCell ⟨qn, 3, none⟩ (.string y')).setCell ⟨qn, 4, none⟩ v').setCell ⟨qp, 0, none⟩ (.int .i64 L')).setCell ⟨qp, 1, none⟩ (.bool d')).setCell ⟨qp, 2, none⟩ (.bool i')).setCell ⟨qp, 3, none⟩ (.bool g')).setCell ⟨qp, 4, none⟩ (.bool s')).cell? ⟨q, 1, none⟩ = some (.int .i64 op) ∧ ((((((((((w.setCell ⟨qn, 0, none⟩ (.int .i64 k')).setCell ⟨qn, 1, none⟩ (.int .i64 op')).setCell ⟨qn, 2, none⟩ (.string x')).setCell ⟨qn, 3, none⟩ (.string y')).setCell ⟨qn, 4, none⟩ v').setCell ⟨qp, 0, none⟩ (.int .i64 L')).setCell ⟨qp, 1, none⟩ (.bool d')).setCell ⟨qp, 2, none⟩ (.bool i')).setCell ⟨qp, 3, none⟩ (.bool g')).setCell ⟨qp, 4, none⟩ (.bool s')).cell? ⟨q, 2, none⟩ = some (.string x) ∧ ((((((((((w.setCell ⟨qn, 0, none⟩ (.int .i64 k')).setCell ⟨qn, 1, none⟩ (.int .i64 op')).setCell ⟨qn, 2, none⟩ (.string x')).setCell ⟨qn, 3, none⟩ (.string y')).setCell ⟨qn, 4, none⟩ v').setCell ⟨qp, 0, none⟩ (.int .i64 L')).setCell ⟨qp, 1, none⟩ (.bool d')).setCell ⟨qp, 2, none⟩ (.bool i')).setCell ⟨qp, 3, none⟩ (.bool g')).setCell ⟨qp, 4, none⟩ (.bool s')).cell? ⟨q, 3, none⟩ = some (.string y) ∧ ((((((((((w.setCell ⟨qn, 0, none⟩ (.int .i64 k')).setCell ⟨qn, 1, none⟩ (.int .i64 op')).setCell ⟨qn, 2, none⟩ (.string x')).setCell ⟨qn, 3, none⟩ (.string y')).setCell ⟨qn, 4, none⟩ v').setCell ⟨qp, 0, none⟩ (.int .i64 L')).setCell ⟨qp, 1, none⟩ (.bool d')).setCell ⟨qp, 2, none⟩ (.bool i')).setCell ⟨qp, 3, none⟩ (.bool g')).setCell ⟨qp, 4, none⟩ (.bool s')).cell? ⟨q, 4, none⟩ = some v :=
  (n5_other (n5_other (n5_other (n5_other (n5_other (n5_other (n5_other (n5_other (n5_other (n5_other hn hne 0 _) hne 1 _) hne 2 _) hne 3 _) hne 4 _) hne2 0 _) hne2 1 _) hne2 2 _) hne2 3 _) hne2 4 _).c
theorem oth_pn (hn : N5 q k op x y v w) (hne : q ≠ qn) (hne2 : q ≠ qp) (k' op' L' : Int) (x' y' : ByteArray) (v' : Value) (d' i' g' s' : Bool) : ((((((((((w.setCell ⟨qp, 0, none⟩ (.int .i64 L')).setCell ⟨qp, 1, none⟩ (.bool d')).setCell ⟨qp, 2, none⟩ (.bool i')).setCell ⟨qp, 3, none⟩ (.bool g')).setCell ⟨qp, 4, none⟩ (.bool s')).setCell ⟨qn, 0, none⟩ (.int .i64 k')).setCell ⟨qn, 1, none⟩ (.int .i64 op')).setCell ⟨qn, 2, none⟩ (.string x')).setCell ⟨qn, 3, none⟩ (.string y')).setCell ⟨qn, 4, none⟩ v').cell? ⟨q, 0, none⟩ = some (.int .i64 k) ∧ ((((((((((w.setCell ⟨qp, 0, none⟩ (.int .i64 L')).setCell ⟨qp, 1, none⟩ (.bool d')).setCell ⟨qp, 2, none⟩ (.bool i')).setCell ⟨qp, 3, none⟩ (.bool g')).setCell ⟨qp, 4, none⟩ (.bool s')).setCell ⟨qn, 0, none⟩ (.int .i64 k')).setCell ⟨qn, 1, none⟩ (.int .i64 op')).setCell ⟨qn, 2, none⟩ (.string x')).setCell ⟨qn, 3, none⟩ (.string y')).setCell ⟨qn, 4, none⟩ v').cell? ⟨q, 1, none⟩ = some (.int .i64 op) ∧ ((((((((((w.setCell ⟨qp, 0, none⟩ (.int .i64 L')).setCell ⟨qp, 1, none⟩ (.bool d')).setCell ⟨qp, 2, none⟩ (.bool i')).setCell ⟨qp, 3, none⟩ (.bool g')).setCell ⟨qp, 4, none⟩ (.bool s')).setCell ⟨qn, 0, none⟩ (.int .i64 k')).setCell ⟨qn, 1, none⟩ (.int .i64 op')).setCell ⟨qn, 2, none⟩ (.string x')).setCell ⟨qn, 3, none⟩ (.string y')).setCell ⟨qn, 4, none⟩ v').cell? ⟨q, 2, none⟩ = some (.string x) ∧ ((((((((((w.setCell ⟨qp, 0, none⟩ (.int .i64 L')).setCell ⟨qp, 1, none⟩ (.bool d')).setCell ⟨qp, 2, none⟩ (.bool i')).setCell ⟨qp, 3, none⟩ (.bool g')).setCell ⟨qp, 4, none⟩ (.bool s')).setCell ⟨qn, 0, none⟩ (.int .i64 k')).setCell ⟨qn, 1, none⟩ (.int .i64 op')).setCell ⟨qn, 2, none⟩ (.string x')).setCell ⟨qn, 3, none⟩ (.string y')).setCell ⟨qn, 4, none⟩ v').cell? ⟨q, 3, none⟩ = some (.string y) ∧ ((((((((((w.setCell ⟨qp, 0, none⟩ (.int .i64 L')).setCell ⟨qp, 1, none⟩ (.bool d')).setCell ⟨qp, 2, none⟩ (.bool i')).setCell ⟨qp, 3, none⟩ (.bool g')).setCell ⟨qp, 4, none⟩ (.bool s')).setCell ⟨qn, 0, none⟩ (.int .i64 k')).setCell ⟨qn, 1, none⟩ (.int .i64 op')).setCell ⟨qn, 2, none⟩ (.string x')).setCell ⟨qn, 3, none⟩ (.string y')).setCell ⟨qn, 4, none⟩ v').cell? ⟨q, 4, none⟩ = some v :=
  (n5_other (n5_other (n5_other (n5_other (n5_other (n5_other (n5_other (n5_other (n5_other (n5_other hn hne2 0 _) hne2 1 _) hne2 2 _) hne2 3 _) hne2 4 _) hne 0 _) hne 1 _) hne 2 _) hne 3 _) hne 4 _).c
end

section
variable {qn qp : Nat} {k op L : Int} {x y : ByteArray} {v : Value} {d i g s : Bool} {w W : World}
/-- A node's box and a position's, both stored. -/
theorem two_n (hn : N5 qn k op x y v w) (hne : qn ≠ qp) (k' op' L' : Int) (x' y' : ByteArray) (v' : Value) (d' i' g' s' : Bool) : ((((((((((w.setCell ⟨qn, 0, none⟩ (.int .i64 k')).setCell ⟨qn, 1, none⟩ (.int .i64 op')).setCell ⟨qn, 2, none⟩ (.string x')).setCell ⟨qn, 3, none⟩ (.string y')).setCell ⟨qn, 4, none⟩ v').setCell ⟨qp, 0, none⟩ (.int .i64 L')).setCell ⟨qp, 1, none⟩ (.bool d')).setCell ⟨qp, 2, none⟩ (.bool i')).setCell ⟨qp, 3, none⟩ (.bool g')).setCell ⟨qp, 4, none⟩ (.bool s')).cell? ⟨qn, 0, none⟩ = some (.int .i64 k') ∧ ((((((((((w.setCell ⟨qn, 0, none⟩ (.int .i64 k')).setCell ⟨qn, 1, none⟩ (.int .i64 op')).setCell ⟨qn, 2, none⟩ (.string x')).setCell ⟨qn, 3, none⟩ (.string y')).setCell ⟨qn, 4, none⟩ v').setCell ⟨qp, 0, none⟩ (.int .i64 L')).setCell ⟨qp, 1, none⟩ (.bool d')).setCell ⟨qp, 2, none⟩ (.bool i')).setCell ⟨qp, 3, none⟩ (.bool g')).setCell ⟨qp, 4, none⟩ (.bool s')).cell? ⟨qn, 1, none⟩ = some (.int .i64 op') ∧ ((((((((((w.setCell ⟨qn, 0, none⟩ (.int .i64 k')).setCell ⟨qn, 1, none⟩ (.int .i64 op')).setCell ⟨qn, 2, none⟩ (.string x')).setCell ⟨qn, 3, none⟩ (.string y')).setCell ⟨qn, 4, none⟩ v').setCell ⟨qp, 0, none⟩ (.int .i64 L')).setCell ⟨qp, 1, none⟩ (.bool d')).setCell ⟨qp, 2, none⟩ (.bool i')).setCell ⟨qp, 3, none⟩ (.bool g')).setCell ⟨qp, 4, none⟩ (.bool s')).cell? ⟨qn, 2, none⟩ = some (.string x') ∧ ((((((((((w.setCell ⟨qn, 0, none⟩ (.int .i64 k')).setCell ⟨qn, 1, none⟩ (.int .i64 op')).setCell ⟨qn, 2, none⟩ (.string x')).setCell ⟨qn, 3, none⟩ (.string y')).setCell ⟨qn, 4, none⟩ v').setCell ⟨qp, 0, none⟩ (.int .i64 L')).setCell ⟨qp, 1, none⟩ (.bool d')).setCell ⟨qp, 2, none⟩ (.bool i')).setCell ⟨qp, 3, none⟩ (.bool g')).setCell ⟨qp, 4, none⟩ (.bool s')).cell? ⟨qn, 3, none⟩ = some (.string y') ∧ ((((((((((w.setCell ⟨qn, 0, none⟩ (.int .i64 k')).setCell ⟨qn, 1, none⟩ (.int .i64 op')).setCell ⟨qn, 2, none⟩ (.string x')).setCell ⟨qn, 3, none⟩ (.string y')).setCell ⟨qn, 4, none⟩ v').setCell ⟨qp, 0, none⟩ (.int .i64 L')).setCell ⟨qp, 1, none⟩ (.bool d')).setCell ⟨qp, 2, none⟩ (.bool i')).setCell ⟨qp, 3, none⟩ (.bool g')).setCell ⟨qp, 4, none⟩ (.bool s')).cell? ⟨qn, 4, none⟩ = some v' :=
  (n5_other (n5_other (n5_other (n5_other (n5_other (hn.put k' op' x' y' v') hne 0 _) hne 1 _) hne 2 _) hne 3 _) hne 4 _).c
theorem two_p (hp : B5 qp L d i g s w) (hne : qp ≠ qn) (k' op' L' : Int) (x' y' : ByteArray) (v' : Value) (d' i' g' s' : Bool) : ((((((((((w.setCell ⟨qn, 0, none⟩ (.int .i64 k')).setCell ⟨qn, 1, none⟩ (.int .i64 op')).setCell ⟨qn, 2, none⟩ (.string x')).setCell ⟨qn, 3, none⟩ (.string y')).setCell ⟨qn, 4, none⟩ v').setCell ⟨qp, 0, none⟩ (.int .i64 L')).setCell ⟨qp, 1, none⟩ (.bool d')).setCell ⟨qp, 2, none⟩ (.bool i')).setCell ⟨qp, 3, none⟩ (.bool g')).setCell ⟨qp, 4, none⟩ (.bool s')).cell? ⟨qp, 0, none⟩ = some (.int .i64 L') ∧ ((((((((((w.setCell ⟨qn, 0, none⟩ (.int .i64 k')).setCell ⟨qn, 1, none⟩ (.int .i64 op')).setCell ⟨qn, 2, none⟩ (.string x')).setCell ⟨qn, 3, none⟩ (.string y')).setCell ⟨qn, 4, none⟩ v').setCell ⟨qp, 0, none⟩ (.int .i64 L')).setCell ⟨qp, 1, none⟩ (.bool d')).setCell ⟨qp, 2, none⟩ (.bool i')).setCell ⟨qp, 3, none⟩ (.bool g')).setCell ⟨qp, 4, none⟩ (.bool s')).cell? ⟨qp, 1, none⟩ = some (.bool d') ∧ ((((((((((w.setCell ⟨qn, 0, none⟩ (.int .i64 k')).setCell ⟨qn, 1, none⟩ (.int .i64 op')).setCell ⟨qn, 2, none⟩ (.string x')).setCell ⟨qn, 3, none⟩ (.string y')).setCell ⟨qn, 4, none⟩ v').setCell ⟨qp, 0, none⟩ (.int .i64 L')).setCell ⟨qp, 1, none⟩ (.bool d')).setCell ⟨qp, 2, none⟩ (.bool i')).setCell ⟨qp, 3, none⟩ (.bool g')).setCell ⟨qp, 4, none⟩ (.bool s')).cell? ⟨qp, 2, none⟩ = some (.bool i') ∧ ((((((((((w.setCell ⟨qn, 0, none⟩ (.int .i64 k')).setCell ⟨qn, 1, none⟩ (.int .i64 op')).setCell ⟨qn, 2, none⟩ (.string x')).setCell ⟨qn, 3, none⟩ (.string y')).setCell ⟨qn, 4, none⟩ v').setCell ⟨qp, 0, none⟩ (.int .i64 L')).setCell ⟨qp, 1, none⟩ (.bool d')).setCell ⟨qp, 2, none⟩ (.bool i')).setCell ⟨qp, 3, none⟩ (.bool g')).setCell ⟨qp, 4, none⟩ (.bool s')).cell? ⟨qp, 3, none⟩ = some (.bool g') ∧ ((((((((((w.setCell ⟨qn, 0, none⟩ (.int .i64 k')).setCell ⟨qn, 1, none⟩ (.int .i64 op')).setCell ⟨qn, 2, none⟩ (.string x')).setCell ⟨qn, 3, none⟩ (.string y')).setCell ⟨qn, 4, none⟩ v').setCell ⟨qp, 0, none⟩ (.int .i64 L')).setCell ⟨qp, 1, none⟩ (.bool d')).setCell ⟨qp, 2, none⟩ (.bool i')).setCell ⟨qp, 3, none⟩ (.bool g')).setCell ⟨qp, 4, none⟩ (.bool s')).cell? ⟨qp, 4, none⟩ = some (.bool s') :=
  ((b5_other (b5_other (b5_other (b5_other (b5_other hp hne 0 _) hne 1 _) hne 2 _) hne 3 _) hne 4 _).put L' d' i' g' s').c
theorem two_below {B : Nat} (h : Below B W w) (h1 : B ≤ qn) (h2 : B ≤ qp) (k' op' L' : Int) (x' y' : ByteArray) (v' : Value) (d' i' g' s' : Bool) : Below B W (((((((((((w.setCell ⟨qn, 0, none⟩ (.int .i64 k')).setCell ⟨qn, 1, none⟩ (.int .i64 op')).setCell ⟨qn, 2, none⟩ (.string x')).setCell ⟨qn, 3, none⟩ (.string y')).setCell ⟨qn, 4, none⟩ v').setCell ⟨qp, 0, none⟩ (.int .i64 L')).setCell ⟨qp, 1, none⟩ (.bool d')).setCell ⟨qp, 2, none⟩ (.bool i')).setCell ⟨qp, 3, none⟩ (.bool g')).setCell ⟨qp, 4, none⟩ (.bool s'))) :=
  below_set5 (below_setN h h1 k' op' x' y' v') h2 L' d' i' g' s'
end

section
variable {len cap : Nat} {a : Option Addr} {zs : List Int}
/-- What the law is handed. -/
def KOut (w : World) (e : Ending) (w' : World) : Prop :=
  ∃ (t : Nd) (ak : Option Addr) (ck K : Nat) (L : Int) (d i g s : Bool), e = .returned (.tuple #[.agg #[.int .i64 t.k, .int .i64 t.op, .string t.s, .string t.t, .slice ak t.kids.length ck], .int .i64 K, .agg #[.int .i64 L, .bool d, .bool i, .bool g, .bool s]]) ∧ t.kids.length ≤ 1000 ∧ ar.Ar t ∧ K ≤ t.kids.length ∧ Below w.heap.size w w'
set_option maxHeartbeats 3200000 in
theorem drawKidPos_any {w : World} (hc : Code w.heap.size w a len zs) (hl : len ≤ 1048576) :
    Calls Try.prog 9 #[.slice a len cap] w (KOut w) := by
  obtain ⟨W2, hW2⟩ : ∃ W2, W2 = (w.alloc (.cells #[.int .i64 0, .int .i64 0, .string ⟨#[]⟩, .string ⟨#[]⟩, .slice none 0 0] 26)).alloc (.cells #[.int .i64 0, .bool false, .bool false, .bool false, .bool false] 28) := ⟨_, rfl⟩
  have HB2 := Lib.hid (show Below w.heap.size w W2 by rw [hW2]; exact (lv.box_below _ _).trans ((lv.box_below _ _).mono (by simp)))
  have HC := Lib.hid (show Code W2.heap.size W2 a len zs from (hc.keep HB2.out).up HB2.out.size)
  have RN0 := Lib.hid (show N5 w.heap.size 0 0 ⟨#[]⟩ ⟨#[]⟩ (.slice none 0 0) W2 by rw [hW2]; exact (N5.new w 0 0 ⟨#[]⟩ ⟨#[]⟩ (.slice none 0 0)).keep (lv.box_below _ _) (N5.lt (N5.new w 0 0 ⟨#[]⟩ ⟨#[]⟩ (.slice none 0 0))))
  have RP0 := Lib.hid (show B5 (w.heap.size + 1) 0 false false false false W2 by
    have h := B5.new (w.alloc (.cells #[.int .i64 0, .int .i64 0, .string ⟨#[]⟩, .string ⟨#[]⟩, .slice none 0 0] 26)) 0 false false false false
    have e : (w.alloc (.cells #[.int .i64 0, .int .i64 0, .string ⟨#[]⟩, .string ⟨#[]⟩, .slice none 0 0] 26)).heap.size = w.heap.size + 1 := by simp
    rw [e, ← hW2] at h
    exact h)
  have hs : W2.heap.size = w.heap.size + 1 + 1 := by rw [hW2]; simp
  obtain ⟨p, hp⟩ : ∃ p, p = W2.heap.size := ⟨_, rfl⟩
  have HNP := Lib.hid (show w.heap.size ≠ p by omega)
  have HPP := Lib.hid (show w.heap.size + 1 ≠ p by omega)
  have HLP := Lib.hid (show w.heap.size + 1 < p by omega)
  clear hc
  go_enter Try.func9, Try.ntmps9
  go_wp2_with fail
  rw [← hW2]
  clear hW2
  have hnew := new_any (cap := cap) HC.out (Nat.le_refl _) hl
  rw [← hp] at hnew
  refine hnew.mono ?_
  rintro e w1 ⟨rfl, I1, b1⟩
  have J1 := Lib.hid I1
  have RN1 := Lib.hid (RN0.out.keep b1 (by have := HLP.out; omega))
  have RP1 := Lib.hid (RP0.out.keep b1 (by have := HLP.out; omega))
  have B1 := Lib.hid (HB2.out.trans (b1.mono (by rw [hp]; exact HB2.out.size)))
  clear I1 b1 hnew hs hp
  go_wp2_with fail
  refine (node_any J1.out).mono ?_
  rintro e w3 ⟨t, ak, ck, s3, rfl, hkn, har, I3, g3⟩
  have HKN := Lib.hid hkn
  have HAT := Lib.hid har
  obtain ⟨W, hW⟩ : ∃ W, W = w3.alloc (.cells #[.int .i64 t.k, .int .i64 t.op, .string t.s, .string t.t, .slice ak t.kids.length ck] 26) := ⟨_, rfl⟩
  obtain ⟨q6, hq6⟩ : ∃ q6, q6 = w3.heap.size := ⟨_, rfl⟩
  have RNW := Lib.hid (show N5 w.heap.size 0 0 ⟨#[]⟩ ⟨#[]⟩ (.slice none 0 0) W by rw [hW]; exact (n5_grown RN1.out g3 HNP.out).keep (lv.box_below _ _) (n5_grown RN1.out g3 HNP.out).lt)
  have RPW := Lib.hid (show B5 (w.heap.size + 1) 0 false false false false W by rw [hW]; exact b5_below (b5_grown RP1.out g3 HPP.out) (lv.box_below _ _))
  have B3 := B1.out.trans (below_of g3 (by have := HLP.out; omega) B1.out.size)
  have BW := Lib.hid (show Below w.heap.size w W by rw [hW]; exact B3.trans ((lv.box_below _ _).mono B3.size))
  have QW := Lib.hid (show N5 q6 t.k t.op t.s t.t (.slice ak t.kids.length ck) W by rw [hW, hq6]; exact N5.new _ _ _ _ _ _)
  have JW := Lib.hid (show In _ W p a len cap zs s3 by rw [hW]; exact In.over1 I3 _)
  have hqp : q6 ≠ p := by have := I3.lt; omega
  have HQP := Lib.hid hqp
  have hqn : q6 ≠ w.heap.size := by have := (n5_grown RN1.out g3 HNP.out).lt; omega
  have hqq : q6 ≠ w.heap.size + 1 := by have := (b5_grown RP1.out g3 HPP.out).lt; omega
  have HQN := Lib.hid hqn
  have HQQ := Lib.hid hqq
  obtain ⟨m, hm⟩ : ∃ m : Nat, m = t.kids.length + 1 := ⟨_, rfl⟩
  have HM := Lib.hid hm
  have HM0 := Lib.hid (show 0 < m by omega)
  have hk1 : (t.kids.length : Int) + 1 = (m : Int) := by omega
  have hkw : IntKind.i64.wrap ((t.kids.length : Int) + 1) = (m : Int) := by rw [wraps_i64 _ (by omega) (by omega)]; exact hk1
  have hkz : IntKind.i64.wrap (m : Int) = (m : Int) := wraps_i64 _ (by omega) (by omega)
  clear I3 g3 hkn har B3 hqp hqn hqq hm
  go_upto_region 3 with (fail)
  rw [← hW, ← hq6]
  clear hW hq6
  have hcell := QW.out.c
  have hcd := Lib.hid (N5.c (w := W.drew) QW.out)
  go_region_held3 (fun w' => w'.cell? ⟨q6, 0, none⟩ = some (.int .i64 t.k) ∧ w'.cell? ⟨q6, 1, none⟩ = some (.int .i64 t.op) ∧ w'.cell? ⟨q6, 2, none⟩ = some (.string t.s) ∧ w'.cell? ⟨q6, 3, none⟩ = some (.string t.t) ∧ w'.cell? ⟨q6, 4, none⟩ = some (.slice ak t.kids.length ck))
    (first | with_reducible assumption | with_reducible exact hcd.out | with_reducible exact hcell | with_reducible exact q7 | with_reducible exact q8 | with_reducible exact oth_n Q8.out HQN.out _ _ _ _ _ | with_reducible exact oth_p Q8.out HQQ.out _ _ _ _ _ | with_reducible exact oth_np Q8.out HQN.out HQQ.out _ _ _ _ _ _ _ _ _ _ | with_reducible exact oth_pn Q8.out HQN.out HQQ.out _ _ _ _ _ _ _ _ _ _)
    (first
      | (go_at_call 26; refine (bl_some m HM0.out JW.out.drew1).mono ?_; rintro e w7 ⟨K, s7, hK, rfl, I7, g7⟩; have J7 := Lib.hid I7; have Q7 := Lib.hid (n5_grown (show N5 q6 t.k t.op t.s t.t (.slice ak t.kids.length ck) W.drew from QW.out) g7 HQP.out); have RN7 := Lib.hid (n5_grown (show N5 w.heap.size 0 0 ⟨#[]⟩ ⟨#[]⟩ (.slice none 0 0) W.drew from RNW.out) g7 HNP.out); have RP7 := Lib.hid (b5_grown (show B5 (w.heap.size + 1) 0 false false false false W.drew from RPW.out) g7 HPP.out); have B7 := Lib.hid (BW.out.drew.trans (below_of g7 (by have := HLP.out; omega) BW.out.size)); have q7 := Q7.out.c; have HK7 := Lib.hid hK; clear I7 g7 hK)
      | (go_at_call 27; refine (pos_any J7.out).mono ?_; rintro e w8 ⟨L, d, i, g, s, s8, rfl, I8, g8⟩; have Q8 := Lib.hid (n5_grown Q7.out g8 HQP.out); have RN8 := Lib.hid (n5_grown RN7.out g8 HNP.out); have RP8 := Lib.hid (b5_grown RP7.out g8 HPP.out); have B8 := Lib.hid (B7.out.trans (below_of g8 (by have := HLP.out; omega) B7.out.size)); have q8 := Q8.out.c; obtain ⟨n0, n1, n2, n3, n4⟩ := RN8.out.c; have fn := RN8.out.f; obtain ⟨r0, r1, r2, r3, r4⟩ := RP8.out.c; have fr := RP8.out.f; clear I8 g8))
  go_wp2
  obtain ⟨y0, y1, y2, y3, y4⟩ := two_n (qp := w.heap.size + 1) RN8.out (by omega) t.k t.op L t.s t.t (.slice ak t.kids.length ck) d i g s
  obtain ⟨z0, z1, z2, z3, z4⟩ := two_p (qn := w.heap.size) RP8.out (by omega) t.k t.op L t.s t.t (.slice ak t.kids.length ck) d i g s
  have hfin := Lib.hid (two_below (qn := w.heap.size) (qp := w.heap.size + 1) B8.out (Nat.le_refl _) (Nat.le_succ _) t.k t.op L t.s t.t (.slice ak t.kids.length ck) d i g s)
  exact bodyPost_ret (v := .tuple #[.agg #[.int .i64 t.k, .int .i64 t.op, .string t.s, .string t.t, .slice ak t.kids.length ck], .int .i64 K, .agg #[.int .i64 L, .bool d, .bool i, .bool g, .bool s]]) (by simp [results, Try.results9, go_sem, y0, y1, y2, y3, y4, z0, z1, z2, z3, z4]) rfl ⟨t, ak, ck, K, L, d, i, g, s, rfl, HKN.out, HAT.out, by have h1 := HK7.out; have h2 := HM.out; omega, hfin.out⟩
end
end Go.Proofs.Ytldkhdoboieibaa.draw
