/-
  impl.subtreeStart: where a node's part begins, by a range over slices.Backward.
-/
import Derived.Test.YtckeepjfbpphaaaGreatDoorBackward
import Derived.Test.YtckeepjfbpphaaaGreatDoorNdTo
namespace Go.Proofs.YtckeepjfbpphaaaGreatDoor.nd
open Go.RowKit Go.Shelf
set_option linter.unusedVariables false
attribute [local go_sem] Oper.semAt_some

theorem back_app (ss : List Nat) (xs ys : List Int) : ∀ (p : Nat), back ss (xs ++ ys) p = (back ss xs p).bind (back ss ys) := by
  induction xs with
  | nil => intro p; rfl
  | cons x xs ih =>
    intro p
    by_cases h : x = (p : Int) - 1 ∧ p ≠ 0
    · rw [List.cons_append, back_yes h.1 h.2, back_yes h.1 h.2, ih]
    · rw [List.cons_append, back_no h, back_no h]; rfl
def subF (ss : List Nat) (zs : List Int) : Int := match back ss zs.reverse ss.length with
  | some s => (s : Int)
  | none => -1
theorem sub_some {ss : List Nat} {zs : List Int} {s : Nat} (h : back ss zs.reverse ss.length = some s) : subF ss zs = (s : Int) := by unfold subF; rw [h]
theorem sub_none {ss : List Nat} {zs : List Int} (h : back ss zs.reverse ss.length = none) : subF ss zs = -1 := by unfold subF; rw [h]
theorem came_back {ss : List Nat} {zs : List Int} (N : Nat) : back ss ((came zs 0).map (·.2)) N = back ss zs.reverse N := by
  rw [came_vals zs.length 0 (by omega)]; rfl
theorem came_none {ss : List Nat} {zs : List Int} {K N : Nat} (hK : K ≤ zs.length) (h : back ss ((came zs K).map (·.2)) N = none) : back ss zs.reverse N = none := by
  rw [came_vals (zs.length - K) K (by omega)] at h
  have e : zs.reverse = (zs.drop K).reverse ++ (zs.take K).reverse := by rw [← List.reverse_append, List.take_append_drop]
  rw [e, back_app, h]
  rfl

set_option maxRecDepth 100000 in
set_option maxHeartbeats 2000000 in
theorem subtree_in (F : Fence) (n : Nat) (h3 : F.fn 54) (h5 : F.fn 75) (h7 : F.fn 91) (hro : F.round = none) (hn : 3 ≤ n)
    (ss : List Nat) (zs : List Int) (a a' : Option Addr) (cap cap' : Nat) (w : World) (hl : Low ss) (hs : ss.length ≤ 1048576) (hreach : zs.length ≤ 1048576) (hc : Ints w.heap.size w a (ints ss)) (hc' : Ints w.heap.size w a' zs) :
    CallsIn F n Tryz.prog 54 #[.slice a ss.length cap, .slice a' zs.length cap'] w fun e W' => e = .returned (.int .i64 (subF ss zs)) ∧ Below w.heap.size w W' := by
  have h1 : 1 ≤ n := by omega
  refine callsIn_of_wp_marks Tryz.func54 rfl h3 ?_ hro
  simp only [Tryz.ntmps54, List.size_toArray, List.length_cons, List.length_nil, Nat.reduceAdd, Nat.reduceSub, Array.replicate_succ, Array.replicate_zero, List.push_toArray, List.append_toArray, List.nil_append, List.cons_append]
  gi_wp2_with (gi_at_call 75; refine (bw_in F (n - 1) h5 hro _ _ _ _).mono ?_; rintro e w' ⟨rfl, rfl⟩)
  obtain ⟨W0, hW0⟩ : ∃ W0, W0 = (((w.alloc (.cells #[.slice a ss.length cap] 31)).alloc (.cells #[.int .i64 0] 3)).alloc (.cells #[.int .i64 (ss.length : Int)] 3)).alloc (.cells #[.slice a' zs.length cap'] 31) := ⟨_, rfl⟩
  rw [← hW0]
  have hsz : W0.heap.size = w.heap.size + 1 + 1 + 1 + 1 := by rw [hW0]; simp
  have hB0 : Below w.heap.size w W0 := by rw [hW0]; exact (below_three _ _ _ _).alloc (by simp <;> omega) _
  have k0 : W0.heap[w.heap.size]? = some (.cells #[.slice a ss.length cap] 31 (0, 0)) := by
    rw [hW0, Below.heap_alloc _ _ _ (by simp <;> omega), Below.heap_alloc _ _ _ (by simp <;> omega), Below.heap_alloc _ _ _ (by simp <;> omega)]
    exact heap_alloc_new w _
  have k1 : W0.heap[w.heap.size + 1]? = some (.cells #[.int .i64 0] 3 (0, 0)) := by
    rw [hW0, Below.heap_alloc _ _ _ (by simp <;> omega), Below.heap_alloc _ _ _ (by simp <;> omega)]
    have := heap_alloc_new (w.alloc (.cells #[.slice a ss.length cap] 31)) (.cells #[.int .i64 0] 3)
    simp only [World.size_alloc] at this
    exact this
  have k2 : W0.heap[w.heap.size + 1 + 1]? = some (.cells #[.int .i64 (ss.length : Int)] 3 (0, 0)) := by
    rw [hW0, Below.heap_alloc _ _ _ (by simp <;> omega)]
    have := heap_alloc_new ((w.alloc (.cells #[.slice a ss.length cap] 31)).alloc (.cells #[.int .i64 0] 3)) (.cells #[.int .i64 (ss.length : Int)] 3)
    simp only [World.size_alloc] at this
    exact this
  have k3 : W0.heap[w.heap.size + 1 + 1 + 1]? = some (.cells #[.slice a' zs.length cap'] 31 (0, 0)) := by
    rw [hW0]
    have := heap_alloc_new (((w.alloc (.cells #[.slice a ss.length cap] 31)).alloc (.cells #[.int .i64 0] 3)).alloc (.cells #[.int .i64 (ss.length : Int)] 3)) (.cells #[.slice a' zs.length cap'] 31)
    simp only [World.size_alloc] at this
    exact this
  clear hW0
  refine wpIn_rangeFunc_ownG hro h1 (gf := 91) (lb := #[.pointer (some ⟨w.heap.size + 1 + 1 + 1, 0, none⟩)]) rfl h7 (enters_of Tryz.func91 (by kernel_rfl) rfl)
    (bw_stops F (n - 1) h7 hro (by omega) (w.heap.size + 1 + 1 + 1) w.heap.size a' cap' zs hreach W0 (by omega) hB0.size k3 (hc'.keep hB0 (Nat.le_refl _))) BwK.trans (bwK_b hB0.size (by omega)) (Below.refl _ _) (fun _ => rfl)
    (fun pre W => (∃ P : Nat, back ss (pre.map (·.2)) ss.length = some P ∧ W.cell? ⟨w.heap.size + 1 + 1, 0, none⟩ = some (.int .i64 (P : Int)) ∧ W.frozen? ⟨w.heap.size + 1 + 1, 0, none⟩ = false ∧ W.cell? ⟨w.heap.size + 1, 0, none⟩ = some (.int .i64 0) ∧ W.frozen? ⟨w.heap.size + 1, 0, none⟩ = false ∧ W.cell? ⟨w.heap.size, 0, none⟩ = some (.slice a ss.length cap)) ∧ Below w.heap.size w W)
    (fun c pre W => (c = .ret ∧ back ss (pre.map (·.2)) ss.length = none ∧ W.cell? ⟨w.heap.size + 1, 0, none⟩ = some (.int .i64 (-1))) ∧ Below w.heap.size w W)
    (OwnFrom.and (Own.from (fun s A B row hs hg hr => by
      obtain ⟨P, e1, e2, e3, e4, e5, e6⟩ := hs
      exact ⟨P, e1, cell_kept e2 hg hr, (frozen_kept e2 hg hr).trans e3, cell_kept e4 hg hr, (frozen_kept e4 hg hr).trans e5, cell_kept e6 hg hr⟩) _) (ownFrom_below (Nat.le_refl _) (by omega)))
    (fun c => OwnFrom.and (Own.from (fun s A B row hs hg hr => ⟨hs.1, hs.2.1, cell_kept hs.2.2 hg hr⟩) _) (ownFrom_below (Nat.le_refl _) (by omega)))
    ⟨⟨ss.length, rfl, by rw [cell_of_row _ _ 0 _ _ _ k2]; rfl, frozen_of_row _ _ 0 _ _ k2, by rw [cell_of_row _ _ 0 _ _ _ k1]; rfl, frozen_of_row _ _ 0 _ _ k1, by rw [cell_of_row _ _ 0 _ _ _ k0]; rfl⟩, hB0⟩
    (fun x => { tmps := #[.slice a ss.length cap, .slice a' zs.length cap', .pointer (some ⟨w.heap.size, 0, none⟩), undef, .pointer (some ⟨w.heap.size + 1, 0, none⟩), .pointer (some ⟨w.heap.size + 1 + 1, 0, none⟩), undef, .int .i64 x.2, .slice a ss.length cap, .int .i64 (ss.length : Int), .slice a' zs.length cap', .func (.func 91) #[] #[.pointer (some ⟨w.heap.size + 1 + 1 + 1, 0, none⟩)], .int .i64 x.1, .int .i64 x.2, undef, undef, undef, undef, undef, undef, undef, undef, undef, undef, undef, undef, undef], defers := [] }) ?assign ?body ?done ?stop
  case assign =>
    intro l x W K hK
    gi_wp2
    exact hK
  case body =>
    rintro l pre x W ⟨⟨P, hP, c2, f2, c1, f1, c0⟩, hB⟩ _
    obtain ⟨xi, xv⟩ := x
    have hPle := back_le hl _ _ _ (Nat.le_refl _) hP
    have happ : back ss ((pre ++ [(xi, xv)]).map (·.2)) ss.length = back ss [xv] P := by rw [List.map_append, back_app, hP]; rfl
    have HAPP := Lib.hid happ
    clear happ hP
    by_cases hx0 : xv < 0
    · have HN := Lib.hid (show back ss [xv] P = none from back_no (fun h => by omega))
      dsimp only
      gi_wp2
      exact ⟨(KeepsOthers.setCell _ _ _).from _, ⟨rfl, by rw [HAPP.out, HN.out], World.cell?_setCell_same' _ _ _ (by rw [c1]; rfl)⟩, hB.setCell (p := ⟨w.heap.size + 1, 0, none⟩) (by show w.heap.size ≤ w.heap.size + 1; omega) _⟩
    · by_cases hx1 : xv = (P : Int) - 1
      · obtain ⟨P, rfl⟩ : ∃ P', P = P' + 1 := ⟨P - 1, by omega⟩
        obtain rfl : xv = (P : Int) := by omega
        have hPl : P < ss.length := by omega
        have HN := Lib.hid (show back ss [(P : Int)] (P + 1) = some (ss[P]'hPl) by rw [back_yes (by omega) (by omega)]; simp [back, hPl])
        obtain ⟨b, o, rfl, hb, hcell⟩ := ints_at hc (I := P) (by rw [ints_len]; exact hPl)
        have c9 := (hB.cell (p := ⟨b, o + P, none⟩) hb).trans (hcell P (by rw [ints_len]; exact hPl))
        rw [ints_get hPl] at c9
        have hp1 : (P : Int) < (ss.length : Int) := by omega
        have hp0 : (0 : Int) ≤ (P : Int) := by omega
        clear hcell hx1
        dsimp only
        gi_wp2
        have hle : w.heap.size ≤ w.heap.size + 1 + 1 := by omega
        exact ⟨(KeepsOthers.setCell _ _ _).from _, ⟨(Below.refl w.heap.size W).setCell (p := ⟨w.heap.size + 1 + 1, 0, none⟩) hle _, heap_setCell_other W ⟨w.heap.size + 1 + 1, 0, none⟩ (w.heap.size + 1 + 1 + 1) _ (by show w.heap.size + 1 + 1 + 1 ≠ w.heap.size + 1 + 1; omega)⟩,
          ⟨_, by rw [HAPP.out, HN.out], World.cell?_setCell_same' _ _ _ (by rw [c2]; rfl), by rw [World.frozen?_setCell]; exact f2, (World.cell?_setCell_far W ⟨w.heap.size + 1 + 1, 0, none⟩ ⟨w.heap.size + 1, 0, none⟩ _ (by show w.heap.size + 1 + 1 ≠ w.heap.size + 1; omega)).trans c1, by rw [World.frozen?_setCell]; exact f1, (World.cell?_setCell_far W ⟨w.heap.size + 1 + 1, 0, none⟩ ⟨w.heap.size, 0, none⟩ _ (by show w.heap.size + 1 + 1 ≠ w.heap.size; omega)).trans c0⟩, hB.setCell (p := ⟨w.heap.size + 1 + 1, 0, none⟩) hle _⟩
      · have HN := Lib.hid (show back ss [xv] P = none from back_no (fun h => hx1 h.1))
        obtain ⟨q1, q2⟩ : (xv == (P : Int) - 1) = false ∧ (xv != (P : Int) - 1) = true := by simp [hx1]
        have hw1 : IntKind.i64.wrap ((P : Int) - 1) = (P : Int) - 1 := by rw [IntKind.wrap_i64]; omega
        have hw2 : wrap64 ((P : Int) - 1) = (P : Int) - 1 := by unfold wrap64; omega
        dsimp only
        gi_wp2
        exact ⟨(KeepsOthers.setCell _ _ _).from _, ⟨rfl, by rw [HAPP.out, HN.out], World.cell?_setCell_same' _ _ _ (by rw [c1]; rfl)⟩, hB.setCell (p := ⟨w.heap.size + 1, 0, none⟩) (by show w.heap.size ≤ w.heap.size + 1; omega) _⟩
  case done =>
    rintro D ys W hD rfl ⟨⟨P, hP, c2, f2, c1, f1, c0⟩, hB⟩ hK
    rw [came_back] at hP
    have hS := sub_some hP
    gi_wp2
    have hK' := (KeepsOthers.setCell W ⟨w.heap.size + 1, 0, none⟩ (.int .i64 (P : Int))).same D _ hK rfl
    refine ⟨by simp, .inl ⟨_, _, rfl, run_takeDeferred hK', ?_⟩⟩
    have hc5 := cell_kept (World.cell?_setCell_same' W ⟨w.heap.size + 1, 0, none⟩ (.int .i64 (P : Int)) (by rw [c1]; rfl)) (grownBy_putObj' _ D (.deferred none)) (fun r e => by cases e; exact ⟨_, hK', rfl⟩)
    refine ⟨.int .i64 (P : Int), ?_, by rw [hS], (hB.setCell (p := ⟨w.heap.size + 1, 0, none⟩) (by show w.heap.size ≤ w.heap.size + 1; omega) _).trans (belowK_b (w := w) (Nat.le_refl _) _ D _ _ (by omega) hK' rfl rfl)⟩
    simp [results, Tryz.results54, go_sem, hc5]
  case stop =>
    rintro D c pre W hD ⟨K, hK0, rfl⟩ ⟨⟨rfl, hP, c1⟩, hB⟩ hK
    have hS := sub_none (came_none hK0 hP)
    gi_wp2
    refine ⟨by simp, .inl ⟨_, _, rfl, run_takeDeferred hK, ?_⟩⟩
    have hc5 := cell_kept c1 (grownBy_putObj' _ D (.deferred none)) (fun r e => by cases e; exact ⟨_, hK, rfl⟩)
    refine ⟨.int .i64 (-1), ?_, by rw [hS], hB.trans (belowK_b (w := w) (Nat.le_refl _) W D _ _ (by omega) hK rfl rfl)⟩
    simp [results, Tryz.results54, go_sem, hc5]
end Go.Proofs.YtckeepjfbpphaaaGreatDoor.nd
