/-
  impl.shifted and spec.l6Shift: nodes whose kids are so much further on, in memory of their own: contracts.
-/
import Derived.Test.YtkijebbggcbemaaShiftOwn
import Derived.Test.YtkijebbggcbemaaNdEq
namespace Go.Proofs.Ytkijebbggcbemaa.nd
open Go.ChangeShapes Go.WideShapes Go.ChangeAt Go.RowKit
set_option linter.unusedVariables false

def shK (by_ : Int) (l : List Int) : List Int := l.map (fun k => wrap64 (k + by_))
theorem shK_len (x : Int) (l : List Int) : (shK x l).length = l.length := by simp [shK]
theorem shK_step (x : Int) {l : List Int} {J : Nat} (h : J < l.length) : shK x (l.take (J + 1)) = shK x (l.take J) ++ [wrap64 (l[J] + x)] := by
  unfold shK
  rw [List.take_succ_eq_append_getElem h, List.map_append]
  rfl
def shN (x : Int) (n : Nd) : Nd := { n with kids := shK x n.kids }

def RelSi (B : Nat) (W : World) (x : Int) (l : List Int) (v i : Value) (wr : World) : Prop :=
  ∃ J : Nat, J ≤ l.length ∧ OwnI B v (shK x (l.take J)) wr ∧ i = .int .i64 (J : Int) ∧ Below B W wr
set_option maxHeartbeats 1600000 in
theorem impl_shifted (n : Nd) (x : Int) (a : Option Addr) (cap : Nat) (w : World) (hn : n.kids.length ≤ 1048576) (hc : Ints w.heap.size w a n.kids) :
    Calls Try.prog 27 #[.agg #[.int .i64 n.k, .int .i64 n.op, .string n.s, .string n.t, .slice a n.kids.length cap], .int .i64 x] w fun e w' => ∃ v, e = .returned (.agg #[.int .i64 n.k, .int .i64 n.op, .string n.s, .string n.t, v]) ∧ OwnI (w.heap.size + 1 + 1) v (shK x n.kids) w' ∧ Below w.heap.size w w' := by
  obtain ⟨k, op, s, t, kids⟩ := n
  simp only at hn hc ⊢
  have hB0 := below_two w (.cells #[.int .i64 k, .int .i64 op, .string s, .string t, .slice a kids.length cap] 35) (.cells #[.int .i64 0, .int .i64 0, .string ⟨#[]⟩, .string ⟨#[]⟩, .slice none 0 0] 35)
  have HC := Lib.hid (hc.keep hB0 (Nat.le_refl _))
  clear hc
  go_enter Try.func27, Try.ntmps27
  go_wp2
  obtain ⟨W, hW⟩ : ∃ W, W = (w.alloc (.cells #[.int .i64 k, .int .i64 op, .string s, .string t, .slice a kids.length cap] 35)).alloc (.cells #[.int .i64 0, .int .i64 0, .string ⟨#[]⟩, .string ⟨#[]⟩, .slice none 0 0] 35) := ⟨_, rfl⟩
  rw [← hW] at hB0 HC ⊢
  have hsz : W.heap.size = w.heap.size + 1 + 1 := by rw [hW]; simp
  have k0 : W.heap[w.heap.size]? = some (.cells #[.int .i64 k, .int .i64 op, .string s, .string t, .slice a kids.length cap] 35 (0, 0)) := by
    rw [hW, Below.heap_alloc _ _ _ (by simp)]
    exact heap_alloc_new w _
  have k1 : W.heap[w.heap.size + 1]? = some (.cells #[.int .i64 0, .int .i64 0, .string ⟨#[]⟩, .string ⟨#[]⟩, .slice none 0 0] 35 (0, 0)) := by
    rw [hW]
    have := heap_alloc_new (w.alloc (.cells #[.int .i64 k, .int .i64 op, .string s, .string t, .slice a kids.length cap] 35)) (.cells #[.int .i64 0, .int .i64 0, .string ⟨#[]⟩, .string ⟨#[]⟩, .slice none 0 0] 35)
    simp only [World.size_alloc] at this
    exact this
  clear hW
  have HB0 := Lib.hid hB0
  have K0 := Lib.hid k0
  have K1 := Lib.hid k1
  have HSZ := Lib.hid hsz
  clear hB0 k0 k1 hsz
  go_loopw [5, 11] (fun v i wr => RelSi (w.heap.size + 1 + 1) W x kids v i wr) (fun _ i _ => kids.length - (intOf i).toNat)
  case atStart => exact ⟨0, by omega, OwnI.nil _ _, rfl, Below.refl _ _⟩
  case round =>
    obtain ⟨J, hJ, hown, rfl, hbel⟩ := hrel
    have HOWN := Lib.hid hown
    have HB := Lib.hid hbel
    clear hown hbel
    by_cases hlt : J < kids.length
    · have HKL := Lib.hid (shK_step x hlt)
      have hil : (shK x (kids.take J)).length ≤ 1048576 := by rw [shK_len, List.length_take]; omega
      obtain ⟨b, o, rfl, hb, hcell⟩ := ints_at HC.out hlt
      have c0 := (HB.out.cell (p := ⟨b, o + J, none⟩) (show b < w.heap.size + 1 + 1 by omega)).trans (hcell J hlt)
      obtain ⟨y, hy⟩ : ∃ y, y = kids[J] := ⟨_, rfl⟩
      rw [← hy] at c0 HKL
      have hj1 : (J : Int) < (kids.length : Int) := by omega
      have hj0 : (0 : Int) ≤ (J : Int) := by omega
      have HSS := Lib.hid (show w.heap.size + 1 + 1 ≤ wr.heap.size by have := HB.out.size; rw [HSZ.out] at this; exact this)
      clear hy hcell
      go_wp2_with (refine wpList_append_int _ (wrap64 (y + x)) rfl _ _ rfl (w.heap.size + 1 + 1) _ _ rfl HOWN.out rfl hil HSS.out ?_; intro v' w2 own2 b2 gr2)
      go_roundw
      case rel => exact ⟨J + 1, by omega, by rw [HKL.out]; exact own2, by go_num, HB.out.trans b2⟩
      case measure => simp [intOf]; omega
    · obtain rfl : J = kids.length := by omega
      obtain ⟨av, cv, rfl⟩ := HOWN.out.form
      have HO := Lib.hid (show OwnI (w.heap.size + 1 + 1) (.slice av kids.length cv) (shK x kids) wr by have := HOWN.out; rwa [List.take_length, shK_len] at this)
      rw [List.take_length, shK_len]
      have q0 := (HB.out.block w.heap.size (by omega)).trans K0.out
      have q1 := (HB.out.block (w.heap.size + 1) (by omega)).trans K1.out
      have c4 : wr.cell? ⟨w.heap.size, 4, none⟩ = some (.slice a kids.length cap) := by rw [cell_of_row _ _ 4 _ _ _ q0]; rfl
      have f4 : wr.frozen? ⟨w.heap.size, 4, none⟩ = false := frozen_of_row _ _ 4 _ _ q0
      have c0 : wr.cell? ⟨w.heap.size, 0, none⟩ = some (.int .i64 k) := by rw [cell_of_row _ _ 0 _ _ _ q0]; rfl
      have c1 : wr.cell? ⟨w.heap.size, 1, none⟩ = some (.int .i64 op) := by rw [cell_of_row _ _ 1 _ _ _ q0]; rfl
      have c2 : wr.cell? ⟨w.heap.size, 2, none⟩ = some (.string s) := by rw [cell_of_row _ _ 2 _ _ _ q0]; rfl
      have c3 : wr.cell? ⟨w.heap.size, 3, none⟩ = some (.string t) := by rw [cell_of_row _ _ 3 _ _ _ q0]; rfl
      have g0 : wr.cell? ⟨w.heap.size + 1, 0, none⟩ = some (.int .i64 0) := by rw [cell_of_row _ _ 0 _ _ _ q1]; rfl
      have g1 : wr.cell? ⟨w.heap.size + 1, 1, none⟩ = some (.int .i64 0) := by rw [cell_of_row _ _ 1 _ _ _ q1]; rfl
      have g2 : wr.cell? ⟨w.heap.size + 1, 2, none⟩ = some (.string ⟨#[]⟩) := by rw [cell_of_row _ _ 2 _ _ _ q1]; rfl
      have g3 : wr.cell? ⟨w.heap.size + 1, 3, none⟩ = some (.string ⟨#[]⟩) := by rw [cell_of_row _ _ 3 _ _ _ q1]; rfl
      have g4 : wr.cell? ⟨w.heap.size + 1, 4, none⟩ = some (.slice none 0 0) := by rw [cell_of_row _ _ 4 _ _ _ q1]; rfl
      have e0 : wr.frozen? ⟨w.heap.size + 1, 0, none⟩ = false := frozen_of_row _ _ 0 _ _ q1
      have e1 : wr.frozen? ⟨w.heap.size + 1, 1, none⟩ = false := frozen_of_row _ _ 1 _ _ q1
      have e2 : wr.frozen? ⟨w.heap.size + 1, 2, none⟩ = false := frozen_of_row _ _ 2 _ _ q1
      have e3 : wr.frozen? ⟨w.heap.size + 1, 3, none⟩ = false := frozen_of_row _ _ 3 _ _ q1
      have e4 : wr.frozen? ⟨w.heap.size + 1, 4, none⟩ = false := frozen_of_row _ _ 4 _ _ q1
      have HBW := Lib.hid (HB0.out.trans (HB.out.mono (by omega)))
      go_wp2
      obtain ⟨W3, hW3⟩ : ∃ W3, W3 = wr.setCell ⟨w.heap.size, 4, none⟩ (.slice av kids.length cv) := ⟨_, rfl⟩
      rw [← hW3]
      have h3r : W3.heap[w.heap.size + 1]? = some (.cells #[.int .i64 0, .int .i64 0, .string ⟨#[]⟩, .string ⟨#[]⟩, .slice none 0 0] 35 (0, 0)) := by
        rw [hW3, heap_setCell_other _ _ _ _ (by show w.heap.size + 1 ≠ w.heap.size; omega)]; exact q1
      have hb3 : Below w.heap.size w W3 := by rw [hW3]; exact HBW.out.setCell (p := ⟨w.heap.size, 4, none⟩) (Nat.le_refl _) _
      have ho3 : OwnI (w.heap.size + 1 + 1) (.slice av kids.length cv) (shK x kids) W3 := by rw [hW3]; exact ownsRow_setCell_below HO.out (a := ⟨w.heap.size, 4, none⟩) (show w.heap.size < w.heap.size + 1 + 1 by omega) _
      have h4 := put5_heap (w := W3) (g := w.heap.size + 1) 0 ⟨k, op, s, t, kids⟩ (.slice av kids.length cv) h3r
      obtain ⟨W4, hW4⟩ : ∃ W4, W4 = put5 W3 (w.heap.size + 1) 0 k op s t (.slice av kids.length cv) := ⟨_, rfl⟩
      have h5 : W4.heap[w.heap.size + 1]? = some (.cells #[.int .i64 k, .int .i64 op, .string s, .string t, .slice av kids.length cv] 35 (0, 0)) := by rw [hW4]; exact h4
      have hb4 : Below w.heap.size w W4 := by rw [hW4]; exact put5_below hb3 _ _ (by omega) _ _ _ _ _
      have ho4 : OwnI (w.heap.size + 1 + 1) (.slice av kids.length cv) (shK x kids) W4 := by
        rw [hW4]
        unfold put5
        exact ownsRow_setCell_below (ownsRow_setCell_below (ownsRow_setCell_below (ownsRow_setCell_below (ownsRow_setCell_below ho3 (a := ⟨w.heap.size + 1, 0, none⟩) (Nat.lt_succ_self _) _) (a := ⟨w.heap.size + 1, 0 + 1, none⟩) (Nat.lt_succ_self _) _) (a := ⟨w.heap.size + 1, 0 + 2, none⟩) (Nat.lt_succ_self _) _) (a := ⟨w.heap.size + 1, 0 + 3, none⟩) (Nat.lt_succ_self _) _) (a := ⟨w.heap.size + 1, 0 + 4, none⟩) (Nat.lt_succ_self _) _
      unfold put5 at hW4
      rw [← hW4]
      have d0 : W4.cell? ⟨w.heap.size + 1, 0, none⟩ = some (.int .i64 k) := by rw [cell_of_row _ _ 0 _ _ _ h5]; rfl
      have d1 : W4.cell? ⟨w.heap.size + 1, 1, none⟩ = some (.int .i64 op) := by rw [cell_of_row _ _ 1 _ _ _ h5]; rfl
      have d2 : W4.cell? ⟨w.heap.size + 1, 2, none⟩ = some (.string s) := by rw [cell_of_row _ _ 2 _ _ _ h5]; rfl
      have d3 : W4.cell? ⟨w.heap.size + 1, 3, none⟩ = some (.string t) := by rw [cell_of_row _ _ 3 _ _ _ h5]; rfl
      have d4 : W4.cell? ⟨w.heap.size + 1, 4, none⟩ = some (.slice av kids.length cv) := by rw [cell_of_row _ _ 4 _ _ _ h5]; rfl
      refine bodyPost_ret (v := .agg #[.int .i64 k, .int .i64 op, .string s, .string t, .slice av kids.length cv]) (by simp [results, Try.results27, go_sem, d0, d1, d2, d3, d4]) rfl ?_
      exact ⟨_, rfl, ho4, hb4⟩
end Go.Proofs.Ytkijebbggcbemaa.nd
