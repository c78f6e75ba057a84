/-
  slices.Backward at []int: what the iterator hands to a loop's body ('bw_stops').
-/
import Derived.Test.YtckeepjfbpphaaaGreatDoorTreeMath
import Derived.RangeFuncNested
import Derived.RangeFuncBound
import Derived.RangeFuncCalls
import Derived.RangeFuncLeaves
import Derived.RangeFuncBox
import Derived.Shelf.Abstract
import Derived.Shelf.RegionOpen
import Derived.OwnWalkIn
import Derived.TacticsInMore
import Derived.LoopNIn
import Derived.LoopIn
namespace Go.Proofs.YtckeepjfbpphaaaGreatDoor.nd
open Go.RowKit Go.Shelf
set_option linter.unusedVariables false
attribute [local go_sem] Oper.semAt_some

/-- What has come when the first K are still to come: (n - 1, the last), .., (K, number K). -/
def came (zs : List Int) (K : Nat) : List (Int × Int) := (List.range (zs.length - K)).map (fun j => (((zs.length - 1 - j : Nat) : Int), zs.getD (zs.length - 1 - j) 0))
theorem came_len (zs : List Int) (K : Nat) : (came zs K).length = zs.length - K := by simp [came]
theorem came_succ {zs : List Int} {K : Nat} (h : K < zs.length) : came zs K = came zs (K + 1) ++ [((K : Int), zs[K])] := by
  unfold came
  rw [show zs.length - K = (zs.length - (K + 1)) + 1 by omega, List.range_succ, List.map_append]
  simp only [List.map_cons, List.map_nil]
  rw [show zs.length - 1 - (zs.length - (K + 1)) = K by omega]
  simp [h]
theorem came_all (zs : List Int) : came zs zs.length = [] := by simp [came]
theorem came_vals {zs : List Int} : ∀ (d K : Nat), K + d = zs.length → (came zs K).map (·.2) = (zs.drop K).reverse := by
  intro d
  induction d with
  | zero => intro K h; rw [show K = zs.length by omega, came_all, List.drop_length]; rfl
  | succ d ih =>
    intro K h
    have hK : K < zs.length := by omega
    rw [came_succ hK, List.map_append, ih (K + 1) (by omega), List.drop_eq_getElem_cons hK, List.reverse_cons]
    rfl

/-- What a round of the loop's body keeps: what lay below n₀, and the iterator's own box. -/
def BwK (n₀ Bs : Nat) (W W' : World) : Prop := Below n₀ W W' ∧ W'.heap[Bs]? = W.heap[Bs]?
theorem BwK.refl (n₀ Bs : Nat) (W : World) : BwK n₀ Bs W W := ⟨Below.refl _ _, rfl⟩
theorem BwK.trans {n₀ Bs : Nat} {A B C : World} (h : BwK n₀ Bs A B) (k : BwK n₀ Bs B C) : BwK n₀ Bs A C := ⟨h.1.trans k.1, k.2.trans h.2⟩
theorem bwK_b {n₀ Bs : Nat} {w : World} (hn : n₀ ≤ w.heap.size) (hb : Bs < w.heap.size) (W : World) (l : Nat) (o o' : Obj) (hl : w.heap.size ≤ l) (h : W.heap[l]? = some o) (h1 : o.isCells = false) (h2 : o.isWalk = false) : BwK n₀ Bs W (W.putObj l o') := by
  refine ⟨belowK_b hn W l o o' hl h h1 h2, ?_⟩
  have hlt := (Array.getElem?_eq_some_iff.1 h).1
  exact (grownBy_putObj' W l o').block Bs (by omega) (fun e => by cases e; omega)

set_option maxRecDepth 100000 in
set_option maxHeartbeats 2000000 in
theorem bw1_in (F : Fence) (n : Nat) (h7 : F.fn 91) (hro : F.round = none) (hn : 1 ≤ n) (l Bs n₀ : Nat) (a : Option Addr) (cap : Nat) (zs : List Int) (hreach : zs.length ≤ 1048576) (J Jx : List (Int × Int) → World → Prop)
    (hY : ∀ pre x W, J pre W → pre.length < zs.length → YieldAt F (n - 1) Tryz.prog l #[.int .i64 x.1, .int .i64 x.2] W fun e W' =>
      (e = .returned (.bool true) ∧ J (pre ++ [x]) W' ∧ BwK n₀ Bs W W') ∨ (e = .returned (.bool false) ∧ Jx (pre ++ [x]) W'))
    (W : World) (hBs : W.heap[Bs]? = some (.cells #[.slice a zs.length cap] 31 (0, 0))) (hc : Ints n₀ W a zs) (h0 : J [] W) :
    CallsIn F n Tryz.prog 91 #[.func (.yield l) #[] #[], .pointer (some ⟨Bs, 0, none⟩)] W fun e W' => (∃ v, e = .returned v) ∧
      ((∃ ys, ys = came zs 0 ∧ J ys W') ∨ (∃ pre, (∃ K, K ≤ zs.length ∧ pre = came zs K) ∧ Jx pre W')) := by
  refine callsIn_of_wp Tryz.func91 rfl h7 ?_ hro
  simp only [Tryz.ntmps91, List.size_toArray, List.length_cons, List.length_nil, Nat.reduceAdd, Nat.reduceSub, Array.replicate_succ, Array.replicate_zero, List.push_toArray, List.append_toArray, List.nil_append, List.cons_append]
  have hbs1 : W.cell? ⟨Bs, 0, none⟩ = some (.slice a zs.length cap) := by rw [cell_of_row _ _ 0 _ _ _ hBs]; rfl
  gi_wp2
  gi_loopw [3] (fun i wr => ∃ (K : Nat) (kk : Int), K ≤ zs.length ∧ i = .int .i64 kk ∧ kk = (K : Int) - 1 ∧ J (came zs K) wr ∧ BwK n₀ Bs W wr)
    (fun i _ => (intOf i + 1).toNat)
  case atStart => exact ⟨zs.length, _, Nat.le_refl _, rfl, rfl, by rw [came_all]; exact h0, BwK.refl _ _ _⟩
  case round =>
    obtain ⟨K, kk, hK, rfl, hkk, hJs, hnx⟩ := hrel
    have hbs2 : wr.cell? ⟨Bs, 0, none⟩ = some (.slice a zs.length cap) := by rw [cell_of_row _ _ 0 _ _ _ (hnx.2.trans hBs)]; rfl
    by_cases hK0 : K = 0
    · subst hK0
      have hneg : ¬ (0 : Int) ≤ kk := by omega
      clear hkk
      gi_wp2
      go_end0
      first | exact ⟨⟨_, rfl⟩, .inl ⟨_, rfl, hJs⟩⟩ | exact ⟨⟨_, rfl⟩, .inl hJs⟩
    · obtain ⟨K, rfl⟩ : ∃ K', K = K' + 1 := ⟨K - 1, by omega⟩
      obtain rfl : kk = (K : Int) := by omega
      have hKl : K < zs.length := by omega
      obtain ⟨b, o, rfl, hb, hcell⟩ := ints_at hc hKl
      have c0 := (hnx.1.cell (p := ⟨b, o + K, none⟩) hb).trans (hcell K hKl)
      have hcs := came_succ hKl
      obtain ⟨x, hx⟩ : ∃ x, x = zs[K] := ⟨_, rfl⟩
      rw [← hx] at c0 hcs
      have hk1 : (K : Int) < (zs.length : Int) := by omega
      have hk0 : (0 : Int) ≤ (K : Int) := by omega
      clear hx hcell hkk hK0
      obtain ⟨fn, tmps, assign, body, hy, hR⟩ := hY _ ((K : Int), x) wr hJs (by rw [came_len]; omega)
      dsimp only at hy
      gi_wp2
      refine hR.mono ?_
      rintro e W3 (⟨rfl, hJ3, hk3⟩ | ⟨rfl, hJx3⟩)
      · gi_wp2
        go_roundw
        case rel => exact ⟨K, _, by omega, rfl, rfl, by rw [hcs]; exact hJ3, hnx.trans hk3⟩
        case measure => simp [intOf]
      · gi_wp2
        refine bodyPost_ret (results_none rfl _ _ _) rfl ?_
        first | exact ⟨⟨_, rfl⟩, .inr ⟨_, ⟨K, by omega, hcs.symm⟩, hJx3⟩⟩ | exact ⟨⟨_, rfl⟩, .inr ⟨_, K, by omega, hcs.symm, hJx3⟩⟩

set_option maxHeartbeats 1000000 in
/-- 'slices.Backward(s)': the slice is boxed; the function value captures the box. -/
theorem bw_in (F : Fence) (n : Nat) (h5 : F.fn 75) (hro : F.round = none) (a : Option Addr) (len cap : Nat) (w : World) :
    CallsIn F n Tryz.prog 75 #[.slice a len cap] w fun e w' => e = .returned (.func (.func 91) #[] #[.pointer (some ⟨w.heap.size, 0, none⟩)]) ∧ w' = w.alloc (.cells #[.slice a len cap] 31) := by
  refine callsIn_of_wp Tryz.func75 rfl h5 ?_ hro
  simp only [Tryz.ntmps75, List.size_toArray, List.length_cons, List.length_nil, Nat.reduceAdd, Nat.reduceSub, Array.replicate_succ, Array.replicate_zero, List.push_toArray, List.append_toArray, List.nil_append, List.cons_append]
  gi_wp2
  go_ret
  exact ⟨rfl, rfl⟩

theorem bw_stops (F : Fence) (n : Nat) (h7 : F.fn 91) (hro : F.round = none) (hn : 1 ≤ n) (Bs n₀ : Nat) (a : Option Addr) (cap : Nat) (zs : List Int) (hreach : zs.length ≤ 1048576) (w : World) (hBs : Bs < w.heap.size) (hn₀ : n₀ ≤ w.heap.size)
    (hc : w.heap[Bs]? = some (.cells #[.slice a zs.length cap] 31 (0, 0))) (hI : Ints n₀ w a zs) :
    SeqStopsK F n Tryz.prog 91 #[.pointer (some ⟨Bs, 0, none⟩)] (fun x : Int × Int => #[Value.int .i64 x.1, Value.int .i64 x.2]) (BwK n₀ Bs) (fun ys => ys = came zs 0)
      (fun pre => ∃ K, K ≤ zs.length ∧ pre = came zs K) zs.length w := fun l J Jx W hW _ _ hY h0 => by
  exact bw1_in F n h7 hro hn l Bs n₀ a cap zs hreach J Jx hY W ((hW.block Bs hBs).trans hc) (hI.keep (hW.mono hn₀) (Nat.le_refl _)) h0
end Go.Proofs.YtckeepjfbpphaaaGreatDoor.nd
