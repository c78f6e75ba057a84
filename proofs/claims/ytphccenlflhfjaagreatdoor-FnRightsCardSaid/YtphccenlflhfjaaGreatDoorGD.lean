/-
  A slice of bytes that came in ('IsRow'), as a drawing function reads it ('Code'); laws.big.
  Parts of trees: a part of a valid shape has a valid shape, with its starts and depths; each node but the last has a parent. No program's text is walked here.
  Parts of right trees are right. No program's text is walked here.
  The levels of nodes, LevelOf of both sides: contracts.
-/
import Derived.Test.YtphccenlflhfjaaGreatDoorDrawBase
import Derived.Test.YtphccenlflhfjaaGreatDoorPartSpec
import Derived.Test.YtphccenlflhfjaaGreatDoorDepth
import Derived.Test.YtphccenlflhfjaaGreatDoorParent
import Derived.Test.YtphccenlflhfjaaGreatDoorTreeOk
import Derived.Test.YtphccenlflhfjaaGreatDoorNdEq
import Derived.Test.YtphccenlflhfjaaGreatDoorLevel
namespace Go.Proofs.YtphccenlflhfjaaGreatDoor.draw
open Go.ChangeShapes Go.WideShapes Go.ChangeAt Go.RowKit
set_option linter.unusedVariables false

/-- A slice of bytes that came in: nil, or a row of 'cap' cells, the numbers zs. -/
def IsRow (k : IntKind) (w : World) (a : Option Addr) (len cap : Nat) (zs : List Int) : Prop :=
  (a = none ∧ len = 0 ∧ cap = 0 ∧ zs = []) ∨
  ∃ x, a = some x ∧ len ≤ cap ∧ cap ≤ maxLen ∧ zs.length = cap ∧ (∀ i, i < zs.length → w.cell? (x.add i) = some (.int k (zs.getD i 0))) ∧ ∀ n ∈ zs, (Lit.int k n).wf = true

theorem code_of {w : World} {a : Option Addr} {len cap : Nat} {zs : List Int} (h : IsRow .u8 w a len cap zs) : Code w.heap.size w a len (zs.take len) := by
  rcases h with ⟨rfl, rfl, rfl, rfl⟩ | ⟨x, rfl, hl, hm, hz, hc, hw⟩
  · exact ⟨rfl, by simp, .inl rfl⟩
  · refine ⟨by simp; omega, ?_, ?_⟩
    · intro n hn
      have := hw n (List.mem_of_mem_take hn)
      simp [Lit.wf, IntKind.min, IntKind.max, IntKind.signed, IntKind.bits] at this
      omega
    · by_cases h0 : len = 0
      · exact .inl h0
      · refine .inr ?_
        obtain ⟨b, o, sp⟩ := x
        have c0 := hc 0 (by omega)
        have hsp : sp = none := by simpa [Addr.add] using World.cell?_spot c0
        subst hsp
        have e : ∀ j, (⟨b, o, none⟩ : Addr).add j = ⟨b, o + j, none⟩ := by
          intro j
          simp only [Addr.add]
          split
          · next h0 => subst h0; rfl
          · rfl
        refine ⟨b, o, rfl, World.block_lt_of_cell? w _ c0, ?_⟩
        intro j hj
        have := hc j (by omega)
        rw [e] at this
        rw [this, List.getD_eq_getElem?_getD, List.getD_eq_getElem?_getD, List.getElem?_take, if_pos hj]

theorem Code.up {B B' len : Nat} {w : World} {a : Option Addr} {zs : List Int} (h : Code B w a len zs) (hB : B ≤ B') : Code B' w a len zs := by
  refine ⟨h.1, h.2.1, ?_⟩
  rcases h.2.2 with h0 | ⟨b, o, e, hb, hc⟩
  · exact .inl h0
  · exact .inr ⟨b, o, e, by omega, hc⟩

theorem big_any (a : Option Addr) (len cap : Nat) (w : World) (hl : (len : Int) ≤ 9223372036854775807) :
    Calls Tryz.prog 4 #[.slice a len cap] w fun e w' => e = .returned (.bool (decide (1048576 < len))) ∧ w = w' := by
  by_cases h : 1048576 < len
  · have h' : (1048576 : Int) < (len : Int) := by omega
    go_enter Tryz.func4, Tryz.ntmps4
    go_wp2
    go_ret
    exact ⟨by simp [h], rfl⟩
  · have h' : ¬ (1048576 : Int) < (len : Int) := by omega
    go_enter Tryz.func4, Tryz.ntmps4
    go_wp2
    go_ret
    exact ⟨by simp, rfl⟩

end Go.Proofs.YtphccenlflhfjaaGreatDoor.draw

namespace Go.Proofs.YtphccenlflhfjaaGreatDoor.nd
open Go.RowKit
set_option linter.unusedVariables false

/-! ### Intervals -/
theorem back_cons {ss : List Nat} {k : Int} {ks : List Int} {p s : Nat} (h : back ss (k :: ks) p = some s) : ∃ q : Nat, k = (q : Int) ∧ p = q + 1 ∧ back ss ks (ss.getD q 0) = some s := by
  unfold back at h
  split at h
  · next hc =>
    refine ⟨p - 1, by omega, by omega, h⟩
  · cases h
/-- What lies between lies in the part of one of them. -/
theorem back_tile {ss : List Nat} (hl : Low ss) : ∀ (ks : List Int) (p s I : Nat), p ≤ ss.length → back ss ks p = some s → s ≤ I → I < p → ∃ k : Nat, (k : Int) ∈ ks ∧ k < p ∧ ss.getD k 0 ≤ I ∧ I ≤ k ∧ s ≤ ss.getD k 0 := by
  intro ks
  induction ks with
  | nil => intro p s I _ h h1 h2; simp [back] at h; omega
  | cons k ks ih =>
    intro p s I hp h h1 h2
    obtain ⟨q, rfl, rfl, hh⟩ := back_cons h
    have hq := hl.get (i := q) (by omega)
    by_cases hI : ss.getD q 0 ≤ I
    · exact ⟨q, List.mem_cons_self .., by omega, hI, by omega, back_le hl _ _ _ (by omega) hh⟩
    · obtain ⟨k, hk, h3, h4⟩ := ih _ _ _ (by omega) hh h1 (by omega)
      exact ⟨k, List.mem_cons_of_mem _ hk, by omega, h4⟩
/-- Each kid's part begins at or behind the node's. -/
theorem back_kid {ss : List Nat} (hl : Low ss) : ∀ (ks : List Int) (p s : Nat), p ≤ ss.length → back ss ks p = some s → ∀ k ∈ ks, (s : Int) ≤ k := by
  intro ks
  induction ks with
  | nil => intro p s _ _ k hk; cases hk
  | cons k ks ih =>
    intro p s hp h j hj
    obtain ⟨q, rfl, rfl, hh⟩ := back_cons h
    have hq := hl.get (i := q) (by omega)
    have := back_le hl _ _ _ (by omega) hh
    rcases List.mem_cons.1 hj with rfl | hj
    · omega
    · exact ih _ _ (by omega) hh j hj
/-- The same kids, all places less by S. -/
theorem back_less {ss tt : List Nat} {S : Nat} (hl : Low ss) (hs : ∀ q, S ≤ q → q < ss.length → tt.getD (q - S) 0 = ss.getD q 0 - S) : ∀ (ks : List Int) (p s : Nat), p ≤ ss.length → back ss ks p = some s → S ≤ s → back tt (ks.map (fun k => k - (S : Int))) (p - S) = some (s - S) := by
  intro ks
  induction ks with
  | nil => intro p s _ h _; simp [back] at h ⊢; omega
  | cons k ks ih =>
    intro p s hp h hS
    obtain ⟨q, rfl, rfl, hh⟩ := back_cons h
    have hq := hl.get (i := q) (by omega)
    have h2 := back_le hl _ _ _ (by omega) hh
    rw [List.map_cons, back_yes (by omega) (by omega)]
    rw [show q + 1 - S - 1 = q - S by omega, hs q (by omega) (by omega)]
    exact ih _ _ (by omega) hh hS

/-! ### Starts and depths by their equations -/
theorem stF_of (x : List Nd) (r : List Nat) (hlen : r.length = x.length) (h : ∀ i (hi : i < x.length), back (r.take i) x[i].kids.reverse i = some (r.getD i 0)) : stF x [] = some r := by
  have main : ∀ d i, i + d = x.length → stF (x.drop i) (r.take i) = some r := by
    intro d
    induction d with
    | zero =>
      intro i hi
      rw [List.drop_eq_nil_of_le (by omega), List.take_of_length_le (by omega)]
      rfl
    | succ d ih =>
      intro i hi
      have hix : i < x.length := by omega
      have hb := h i hix
      rw [stF_step hix (s := r.getD i 0) (by rw [List.length_take, Nat.min_eq_left (by omega)]; exact hb)]
      have e : r.take i ++ [r.getD i 0] = r.take (i + 1) := by
        rw [List.take_succ_eq_append_getElem (by omega)]
        simp [show i < r.length by omega]
      rw [e]
      exact ih (i + 1) (by omega)
  have := main x.length 0 (by omega)
  simpa using this
theorem dF_len : ∀ (l : List Nd) (d : List Nat), (dF l d).length = d.length + l.length := by
  intro l
  induction l with
  | nil => intro d; simp [dF]
  | cons n l ih => intro d; simp only [dF]; rw [ih]; simp; omega
theorem dF_pre : ∀ (l : List Nd) (d : List Nat), ∃ q, dF l d = d ++ q := by
  intro l
  induction l with
  | nil => intro d; exact ⟨[], by simp [dF]⟩
  | cons n l ih =>
    intro d
    obtain ⟨q, e⟩ := ih (d ++ [mx d n.kids + 1])
    exact ⟨[mx d n.kids + 1] ++ q, by simp only [dF]; rw [e, List.append_assoc]⟩
theorem dF_at : ∀ (l : List Nd) (d : List Nat) i (h : i < l.length), (dF l d).getD (d.length + i) 0 = mx ((dF l d).take (d.length + i)) l[i].kids + 1 := by
  intro l
  induction l with
  | nil => intro d i h; simp at h
  | cons n l ih =>
    intro d i h
    simp only [dF]
    cases i with
    | zero =>
      obtain ⟨q, e⟩ := dF_pre l (d ++ [mx d n.kids + 1])
      rw [e]
      simp
    | succ i =>
      have := ih (d ++ [mx d n.kids + 1]) i (by simpa using h)
      simp only [List.length_append, List.length_singleton] at this
      rw [show d.length + (i + 1) = d.length + 1 + i by omega, this]
      rfl
theorem dF_of (x : List Nd) (r : List Nat) (hlen : r.length = x.length) (h : ∀ i (hi : i < x.length), r.getD i 0 = mx (r.take i) x[i].kids + 1) : dF x [] = r := by
  have main : ∀ d i, i + d = x.length → dF (x.drop i) (r.take i) = r := by
    intro d
    induction d with
    | zero =>
      intro i hi
      rw [List.drop_eq_nil_of_le (by omega), List.take_of_length_le (by omega)]
      rfl
    | succ d ih =>
      intro i hi
      have hix : i < x.length := by omega
      rw [dF_step hix, ← h i hix]
      have e : r.take i ++ [r.getD i 0] = r.take (i + 1) := by
        rw [List.take_succ_eq_append_getElem (by omega)]
        simp [show i < r.length by omega]
      rw [e]
      exact ih (i + 1) (by omega)
  have := main x.length 0 (by omega)
  simpa using this
theorem mx_ge (d : List Nat) : ∀ (ks : List Int) (k : Int), k ∈ ks → d.getD k.toNat 0 ≤ mx d ks := by
  intro ks
  have main : ∀ (ks : List Int) (m : Nat), m ≤ ks.foldl (fun m k => max m (d.getD k.toNat 0)) m ∧ ∀ k ∈ ks, d.getD k.toNat 0 ≤ ks.foldl (fun m k => max m (d.getD k.toNat 0)) m := by
    intro ks
    induction ks with
    | nil => intro m; exact ⟨Nat.le_refl _, fun k hk => by cases hk⟩
    | cons x ks ih =>
      intro m
      obtain ⟨h1, h2⟩ := ih (max m (d.getD x.toNat 0))
      refine ⟨Nat.le_trans (Nat.le_max_left _ _) h1, fun k hk => ?_⟩
      rcases List.mem_cons.1 hk with rfl | hk
      · exact Nat.le_trans (Nat.le_max_right _ _) h1
      · exact h2 k hk
  exact (main ks 0).2
theorem mx_same {d e : List Nat} {S : Nat} : ∀ (ks : List Int), (∀ k ∈ ks, (S : Int) ≤ k ∧ e.getD (k - (S : Int)).toNat 0 = d.getD k.toNat 0) → mx e (ks.map (fun k => k - (S : Int))) = mx d ks := by
  have main : ∀ (ks : List Int) (m : Nat), (∀ k ∈ ks, (S : Int) ≤ k ∧ e.getD (k - (S : Int)).toNat 0 = d.getD k.toNat 0) → (ks.map (fun k => k - (S : Int))).foldl (fun m k => max m (e.getD k.toNat 0)) m = ks.foldl (fun m k => max m (d.getD k.toNat 0)) m := by
    intro ks
    induction ks with
    | nil => intro m _; rfl
    | cons k ks ih =>
      intro m h
      simp only [List.map_cons, List.foldl_cons]
      rw [(h k (List.mem_cons_self ..)).2]
      exact ih _ (fun j hj => h j (List.mem_cons_of_mem _ hj))
  exact fun ks h => main ks 0 h

/-! ### One valid shape -/
theorem getD_take {ss : List Nat} {i q : Nat} (h : q < i) : (ss.take i).getD q 0 = ss.getD q 0 := by
  rw [List.getD_eq_getElem?_getD, List.getD_eq_getElem?_getD, List.getElem?_take, if_pos h]
theorem getD_cut (ss : List Nat) (S m j : Nat) (h : j < m) : ((ss.drop S).take m).getD j 0 = ss.getD (S + j) 0 := by
  rw [getD_take h, List.getD_eq_getElem?_getD, List.getD_eq_getElem?_getD, List.getElem?_drop]
theorem Low.take {ss : List Nat} (h : Low ss) (i : Nat) : Low (ss.take i) := fun j hj => by
  rw [List.getElem_take]
  exact h j _
theorem back_full {ss : List Nat} {i : Nat} : ∀ (ks : List Int) (p : Nat), p ≤ i → Low ss → i ≤ ss.length → back (ss.take i) ks p = back ss ks p := by
  intro ks
  induction ks with
  | nil => intro p _ _ _; rfl
  | cons k ks ih =>
    intro p hp hl hi
    by_cases hc : k = (p : Int) - 1 ∧ p ≠ 0
    · rw [back_yes hc.1 hc.2, back_yes hc.1 hc.2, getD_take (by omega)]
      have := hl.get (i := p - 1) (by omega)
      exact ih _ (by omega) hl hi
    · rw [back_no hc, back_no hc]
section
variable {l : List Nd}
theorem sh_back (h : shape l = true) {i : Nat} (hi : i < l.length) : back (stO l) l[i].kids.reverse i = some ((stO l).getD i 0) := by
  obtain ⟨h1, h2, h3, h4, h5, h6⟩ := shape_yes h
  rw [← (shape_at h hi).1]
  exact (back_full _ _ (Nat.le_refl _) h5 (by omega)).symm
theorem sh_nest (h : shape l = true) : ∀ K, K < l.length → ∀ i, (stO l).getD K 0 ≤ i → i ≤ K → (stO l).getD K 0 ≤ (stO l).getD i 0 := by
  obtain ⟨h1, h2, h3, h4, h5, h6⟩ := shape_yes h
  intro K
  induction K using Nat.strongRecOn with
  | ind K ih =>
    intro hK i hi1 hi2
    by_cases he : i = K
    · rw [he]; exact Nat.le_refl _
    · obtain ⟨k, hk, h7, h8, h9, h10⟩ := back_tile h5 _ _ _ i (by omega) (sh_back h hK) hi1 (by omega)
      have := ih k h7 (by omega) i h8 h9
      omega
theorem sh_parent (h : shape l = true) : ∀ K (hK : K < l.length), ∀ i, (stO l).getD K 0 ≤ i → i < K → ∃ P, ∃ hP : P < l.length, i < P ∧ (i : Int) ∈ l[P].kids := by
  obtain ⟨h1, h2, h3, h4, h5, h6⟩ := shape_yes h
  intro K
  induction K using Nat.strongRecOn with
  | ind K ih =>
    intro hK i hi1 hi2
    obtain ⟨k, hk, h7, h8, h9, h10⟩ := back_tile h5 _ _ _ i (by omega) (sh_back h hK) hi1 (by omega)
    rw [List.mem_reverse] at hk
    by_cases he : i = k
    · subst he
      exact ⟨K, hK, hi2, hk⟩
    · exact ih k h7 (by omega) i h8 (by omega)
theorem sh_up (h : shape l = true) {i : Nat} (hi : i + 1 < l.length) : ∃ P, ∃ hP : P < l.length, i < P ∧ (i : Int) ∈ l[P].kids := by
  obtain ⟨h1, h2, h3, h4, h5, h6⟩ := shape_yes h
  exact sh_parent h (l.length - 1) (by omega) i (by omega) (by omega)
theorem sh_kid (h : shape l = true) {P : Nat} (hP : P < l.length) {k : Int} (hk : k ∈ l[P].kids) : 0 ≤ k ∧ k < (P : Int) ∧ ((stO l).getD P 0 : Int) ≤ k := by
  obtain ⟨h1, h2, h3, h4, h5, h6⟩ := shape_yes h
  obtain ⟨h7, h8⟩ := (shape_at h hP).2 k hk
  exact ⟨h7, h8, back_kid h5 _ _ _ (by omega) (sh_back h hP) k (List.mem_reverse.2 hk)⟩
/-- A part, node by node. -/
theorem part_node (h : shape l = true) {I J : Nat} (hI : I < l.length) (hJ : J < I + 1 - (stO l).getD I 0) :
    ∃ h1 : J < (partS l ((stO l).getD I 0) I).length, ∃ h2 : (stO l).getD I 0 + J < l.length, (partS l ((stO l).getD I 0) I)[J].kids = l[(stO l).getD I 0 + J].kids.map (fun k => k - ((stO l).getD I 0 : Int)) := by
  obtain ⟨h1, h2, h3, h4, h5, h6⟩ := shape_yes h
  have hS := h5.get (i := I) (by omega)
  refine ⟨by rw [partS_len hI hS]; exact hJ, by omega, ?_⟩
  rw [partS_get hI hS hJ]
  show shK _ _ = _
  unfold shK
  refine List.map_congr_left (fun k hk => ?_)
  have hk2 := sh_kid h (P := (stO l).getD I 0 + J) (by omega) hk
  rw [wrap_w _ (by omega) (by omega)]
  omega
theorem part_shape (h : shape l = true) {I : Nat} (hI : I < l.length) : shape (partS l ((stO l).getD I 0) I) = true := by
  obtain ⟨h1, h2, h3, h4, h5, h6⟩ := shape_yes h
  have hS := h5.get (i := I) (by omega)
  have hlen := partS_len hI hS
  have hr : (((stO l).drop ((stO l).getD I 0)).take (I + 1 - (stO l).getD I 0)).length = I + 1 - (stO l).getD I 0 := by simp; omega
  have hget : ∀ j, j < I + 1 - (stO l).getD I 0 → ((((stO l).drop ((stO l).getD I 0)).take (I + 1 - (stO l).getD I 0)).map (fun t => t - (stO l).getD I 0)).getD j 0 = (stO l).getD ((stO l).getD I 0 + j) 0 - (stO l).getD I 0 := by
    intro j hj
    rw [List.getD_eq_getElem?_getD, List.getElem?_map, List.getElem?_eq_getElem (by rw [hr]; exact hj)]
    simp only [Option.map_some, Option.getD_some]
    have := getD_cut (stO l) ((stO l).getD I 0) (I + 1 - (stO l).getD I 0) j hj
    rw [List.getD_eq_getElem?_getD, List.getElem?_eq_getElem (by rw [hr]; exact hj), Option.getD_some] at this
    rw [this]
  refine shape_of (ss := (((stO l).drop ((stO l).getD I 0)).take (I + 1 - (stO l).getD I 0)).map (fun t => t - (stO l).getD I 0)) (by omega) (by omega) (stF_of _ _ (by rw [List.length_map, hr, hlen]) (fun j hj => ?_)) ?_
  · rw [hlen] at hj
    obtain ⟨_, hb, e⟩ := part_node h hI hj
    rw [e, ← List.map_reverse, hget j hj]
    have hb2 := (shape_at h hb).1
    have := back_less (ss := (stO l).take ((stO l).getD I 0 + j)) (tt := ((((stO l).drop ((stO l).getD I 0)).take (I + 1 - (stO l).getD I 0)).map (fun t => t - (stO l).getD I 0)).take j) (S := (stO l).getD I 0) (h5.take _) (fun q hq1 hq2 => by
      rw [List.length_take] at hq2
      rw [getD_take (by omega), getD_take (by omega), hget _ (by omega)]
      rw [show (stO l).getD I 0 + (q - (stO l).getD I 0) = q by omega]) _ _ _ (by rw [List.length_take]; omega) hb2 (sh_nest h I hI _ (by omega) (by omega))
    rwa [show (stO l).getD I 0 + j - (stO l).getD I 0 = j by omega] at this
  · rw [hlen, hget _ (by omega), show (stO l).getD I 0 + (I + 1 - (stO l).getD I 0 - 1) = I by omega]
    omega
/-- The depth of node i. -/
def dep (l : List Nd) (i : Nat) : Nat := (dF l []).getD i 0
theorem dep_at {i : Nat} (hi : i < l.length) : dep l i = mx ((dF l []).take i) l[i].kids + 1 := by
  have := dF_at l [] i hi
  simpa [dep] using this
theorem part_depth (h : shape l = true) {I : Nat} (hI : I < l.length) : depthF (partS l ((stO l).getD I 0) I) = dep l I := by
  obtain ⟨h1, h2, h3, h4, h5, h6⟩ := shape_yes h
  have hS := h5.get (i := I) (by omega)
  have hlen := partS_len hI hS
  have hD : (dF l []).length = l.length := by rw [dF_len]; simp
  unfold depthF
  rw [if_pos (part_shape h hI), hlen]
  rw [dF_of _ (((dF l []).drop ((stO l).getD I 0)).take (I + 1 - (stO l).getD I 0)) (by rw [hlen]; simp; omega) (fun j hj => ?_)]
  · rw [getD_cut _ _ _ _ (by omega), show (stO l).getD I 0 + (I + 1 - (stO l).getD I 0 - 1) = I by omega]
    rfl
  · rw [hlen] at hj
    obtain ⟨_, hb, e⟩ := part_node h hI hj
    rw [e, getD_cut _ _ _ _ hj]
    show dep l _ = _
    rw [dep_at hb]
    refine congrArg (· + 1) (Eq.symm (mx_same _ (fun k hk => ?_)))
    obtain ⟨k1, k2, k3⟩ := sh_kid h hb hk
    have k4 := sh_nest h I hI ((stO l).getD I 0 + j) (by omega) (by omega)
    refine ⟨by omega, ?_⟩
    rw [getD_take (by omega), getD_cut _ _ _ _ (by omega), getD_take (by omega)]
    rw [show (stO l).getD I 0 + (k - ((stO l).getD I 0 : Int)).toNat = k.toNat by omega]
theorem all_depth (h : shape l = true) : depthF l = dep l (l.length - 1) := by
  unfold depthF
  rw [if_pos h]
  rfl
theorem dep_kid (h : shape l = true) {P i : Nat} (hP : P < l.length) (hk : (i : Int) ∈ l[P].kids) : dep l i < dep l P := by
  obtain ⟨k1, k2, k3⟩ := sh_kid h hP hk
  rw [dep_at hP]
  have := mx_ge ((dF l []).take P) l[P].kids i hk
  rw [getD_take (by omega)] at this
  exact Nat.lt_succ_of_le this
theorem dep_top (h : shape l = true) {i : Nat} (hi : i < l.length) : dep l i ≤ dep l (l.length - 1) := by
  have main : ∀ d i, i + d + 1 = l.length → dep l i ≤ dep l (l.length - 1) := by
    intro d
    induction d using Nat.strongRecOn with
    | ind d ih =>
      intro i hi
      by_cases h0 : d = 0
      · rw [show i = l.length - 1 by omega]; exact Nat.le_refl _
      · obtain ⟨P, hP, h1, h2⟩ := sh_up h (i := i) (by omega)
        have := ih (l.length - 1 - P) (by omega) P (by omega)
        have := dep_kid h hP h2
        omega
  exact main (l.length - 1 - i) i (by omega)
theorem part_all (h : shape l = true) : partS l ((stO l).getD (l.length - 1) 0) (l.length - 1) = l := by
  obtain ⟨h1, h2, h3, h4, h5, h6⟩ := shape_yes h
  unfold partS
  rw [h6, List.drop_zero, List.take_of_length_le (by omega)]
  refine (List.map_congr_left (g := id) (fun t ht => ?_)).trans (List.map_id l)
  obtain ⟨i, hi, rfl⟩ := List.mem_iff_getElem.1 ht
  show shN _ l[i] = l[i]
  unfold shN
  have e : shK (-((0 : Nat) : Int)) l[i].kids = l[i].kids := by
    unfold shK
    refine (List.map_congr_left (g := id) (fun k hk => ?_)).trans (List.map_id _)
    have := sh_kid h hi hk
    show wrap64 (k + -((0 : Nat) : Int)) = k
    rw [wrap_w _ (by omega) (by omega)]
    omega
  rw [e]
theorem findN_some (x : Int) : ∀ (l : List Nd) (k : Nat), (∃ P, ∃ hP : P < l.length, x ∈ l[P].kids) → ∃ P, ∃ hP : P < l.length, x ∈ l[P].kids ∧ findN x l k = ((k + P : Nat) : Int) := by
  intro l
  induction l with
  | nil => rintro k ⟨P, hP, _⟩; simp at hP
  | cons n l ih =>
    rintro k ⟨P, hP, hx⟩
    unfold findN
    by_cases hn : x ∈ n.kids
    · rw [if_pos hn]
      exact ⟨0, by simp, hn, rfl⟩
    · rw [if_neg hn]
      cases P with
      | zero => exact absurd hx hn
      | succ P =>
        obtain ⟨Q, hQ, h1, h2⟩ := ih (k + 1) ⟨P, by simpa using hP, hx⟩
        exact ⟨Q + 1, by simpa using hQ, h1, by rw [h2]; congr 1; omega⟩
theorem findN_none (x : Int) : ∀ (l : List Nd) (k : Nat), (∀ t ∈ l, ¬ x ∈ t.kids) → findN x l k = -1 := by
  intro l
  induction l with
  | nil => intro k _; rfl
  | cons n l ih =>
    intro k h
    unfold findN
    rw [if_neg (h n (List.mem_cons_self ..))]
    exact ih _ (fun t ht => h t (List.mem_cons_of_mem _ ht))
/-- The parent of a node that is not the last. -/
theorem par_some (h : shape l = true) {i : Nat} (hi : i + 1 < l.length) : ∃ P, ∃ hP : P < l.length, i < P ∧ (i : Int) ∈ l[P].kids ∧ parentF (i : Int) l = (P : Int) := by
  obtain ⟨Q, hQ, _, hq⟩ := sh_up h hi
  obtain ⟨P, hP, h1, h2⟩ := findN_some (i : Int) l 0 ⟨Q, hQ, hq⟩
  refine ⟨P, hP, by have := sh_kid h hP h1; omega, h1, ?_⟩
  unfold parentF
  rw [if_pos h, h2]
  congr 1
  omega
theorem par_none (h : shape l = true) : parentF ((l.length - 1 : Nat) : Int) l = -1 := by
  unfold parentF
  rw [if_pos h]
  refine findN_none _ _ _ (fun t ht hx => ?_)
  obtain ⟨i, hi, rfl⟩ := List.mem_iff_getElem.1 ht
  have := sh_kid h hi hx
  omega
end
end Go.Proofs.YtphccenlflhfjaaGreatDoor.nd

namespace Go.Proofs.YtphccenlflhfjaaGreatDoor.rt
open Go.RowKit
open nd
set_option linter.unusedVariables false

theorem tree_parts {l : List Nd} (h : treeOk l = true) : nd.shape l = true ∧ depthF l ≤ 40 ∧ ∀ i, i < l.length → nodeAt l i = true := by
  unfold treeOk at h
  rw [Bool.and_eq_true, Bool.and_eq_true] at h
  refine ⟨h.1.1, of_decide_eq_true h.1.2, fun i hi => ?_⟩
  have h2 := h.2
  unfold nodesTo at h2
  rw [List.all_eq_true] at h2
  exact h2 i (List.mem_range.2 hi)
theorem tree_node {l : List Nd} (h : treeOk l = true) {i : Nat} (hi : i < l.length) : nodeF l[i] = true ∧ ∀ p, p < l[i].kids.length → kidAt l l[i] p = true := by
  have h1 := (tree_parts h).2.2 i hi
  rw [nodeAt_of hi, Bool.and_eq_true] at h1
  refine ⟨h1.1, fun p hp => ?_⟩
  have h2 := h1.2
  unfold kidsTo at h2
  rw [List.all_eq_true] at h2
  exact h2 p (List.mem_range.2 hp)
theorem part_tree {l : List Nd} (h : treeOk l = true) {I : Nat} (hI : I < l.length) : treeOk (partS l ((stO l).getD I 0) I) = true := by
  obtain ⟨hs, hd, hn⟩ := tree_parts h
  obtain ⟨h1, h2, h3, h4, h5, h6⟩ := shape_yes hs
  have hS := h5.get (i := I) (by omega)
  have hlen := partS_len hI hS
  have hdep : depthF (partS l ((stO l).getD I 0) I) ≤ 40 := by
    rw [part_depth hs hI]
    have := dep_top hs hI
    rw [all_depth hs] at hd
    omega
  have hnodes : nodesTo (partS l ((stO l).getD I 0) I) (partS l ((stO l).getD I 0) I).length = true := by
    unfold nodesTo
    rw [List.all_eq_true]
    intro j hj
    rw [List.mem_range, hlen] at hj
    have hb : (stO l).getD I 0 + j < l.length := by omega
    obtain ⟨hf, hk⟩ := tree_node h hb
    rw [nodeAt_of (by rw [hlen]; exact hj), partS_get hI hS hj, Bool.and_eq_true]
    refine ⟨?_, ?_⟩
    · show fieldsOk _ _ _ _ ((shK _ l[(stO l).getD I 0 + j].kids).length : Int) = true
      rw [shK_len]
      exact hf
    · unfold kidsTo
      rw [List.all_eq_true]
      intro p hp
      have hp1 : p < (shK (-((stO l).getD I 0 : Int)) l[(stO l).getD I 0 + j].kids).length := List.mem_range.1 hp
      have hp2 := hp1
      rw [shK_len] at hp2
      obtain ⟨k1, k2, k3⟩ := sh_kid hs hb (k := l[(stO l).getD I 0 + j].kids[p]) (List.getElem_mem hp2)
      have k4 := sh_nest hs I hI ((stO l).getD I 0 + j) (by omega) (by omega)
      obtain ⟨K, hK⟩ : ∃ K : Nat, l[(stO l).getD I 0 + j].kids[p] = (K : Int) := ⟨l[(stO l).getD I 0 + j].kids[p].toNat, by omega⟩
      have hko := hk p hp2
      rw [kidAt_of hp2 hK (by omega)] at hko
      have hKI : K - (stO l).getD I 0 < I + 1 - (stO l).getD I 0 := by omega
      have hx := partS_get hI hS hKI
      have e : (stO l).getD I 0 + (K - (stO l).getD I 0) = K := by omega
      rw [kidAt_of (t := shN (-((stO l).getD I 0 : Int)) l[(stO l).getD I 0 + j]) (J := p) (K := K - (stO l).getD I 0) hp1 (by
        have e0 : (shK (-((stO l).getD I 0 : Int)) l[(stO l).getD I 0 + j].kids)[p] = wrap64 (l[(stO l).getD I 0 + j].kids[p] + -((stO l).getD I 0 : Int)) := List.getElem_map ..
        refine e0.trans ?_
        rw [hK, wrap_w _ (by omega) (by omega)]
        omega) (by rw [hlen]; exact hKI), hx]
      show kid _ _ ((shK _ l[(stO l).getD I 0 + j].kids).length : Int) p (l[(stO l).getD I 0 + (K - (stO l).getD I 0)]'(by omega)).k = true
      rw [shK_len]
      simp only [e]
      exact hko
  unfold treeOk
  rw [part_shape hs hI, decide_eq_true hdep, hnodes]
  rfl
end Go.Proofs.YtphccenlflhfjaaGreatDoor.rt

namespace Go.Proofs.YtphccenlflhfjaaGreatDoor.lv
open Go.ChangeShapes Go.WideShapes Go.ChangeAt Go.RowKit
set_option linter.unusedVariables false
theorem box_below (w : World) (o : Obj) : Below w.heap.size w (w.alloc o) := (Below.refl w.heap.size w).alloc (Nat.le_refl _) o
/-- The box of a node, and what a call that only adds memory leaves of it. -/
structure Bx (w W : World) (k op : Int) (s t : ByteArray) (v : Value) : Prop where
  c0 : W.cell? ⟨w.heap.size, 0, none⟩ = some (.int .i64 k)
  c1 : W.cell? ⟨w.heap.size, 1, none⟩ = some (.int .i64 op)
  c2 : W.cell? ⟨w.heap.size, 2, none⟩ = some (.string s)
  c3 : W.cell? ⟨w.heap.size, 3, none⟩ = some (.string t)
  c4 : W.cell? ⟨w.heap.size, 4, none⟩ = some v
  b : Below w.heap.size w W
  lt : w.heap.size < W.heap.size
theorem Bx.start (w : World) (k op : Int) (s t : ByteArray) (v : Value) (ty : TypeId) : Bx w (w.alloc (.cells #[.int .i64 k, .int .i64 op, .string s, .string t, v] ty)) k op s t v := by
  have hh := heap_alloc_new w (.cells #[.int .i64 k, .int .i64 op, .string s, .string t, v] ty)
  refine ⟨?_, ?_, ?_, ?_, ?_, box_below _ _, by simp⟩
  · rw [cell_of_row _ _ 0 _ _ _ hh]; rfl
  · rw [cell_of_row _ _ 1 _ _ _ hh]; rfl
  · rw [cell_of_row _ _ 2 _ _ _ hh]; rfl
  · rw [cell_of_row _ _ 3 _ _ _ hh]; rfl
  · rw [cell_of_row _ _ 4 _ _ _ hh]; rfl
theorem Bx.keep {w W w1 : World} {k op : Int} {s t : ByteArray} {v : Value} (h : Bx w W k op s t v) (hb : Below W.heap.size W w1) : Bx w w1 k op s t v :=
  ⟨(hb.cell (p := ⟨w.heap.size, 0, none⟩) h.lt).trans h.c0, (hb.cell (p := ⟨w.heap.size, 1, none⟩) h.lt).trans h.c1, (hb.cell (p := ⟨w.heap.size, 2, none⟩) h.lt).trans h.c2, (hb.cell (p := ⟨w.heap.size, 3, none⟩) h.lt).trans h.c3, (hb.cell (p := ⟨w.heap.size, 4, none⟩) h.lt).trans h.c4, h.b.trans (hb.mono (Nat.le_of_lt h.lt)), Nat.lt_of_lt_of_le h.lt hb.size⟩


def levelOf (k op : Int) : Int :=
  if k = 15 then 1
  else if k = 14 then 2
  else if k = 13 then 5
  else if k = 12 then opLevel op
  else if k = 11 then 11
  else if k = 9 ∨ k = 10 then 13
  else if k = 6 then 14
  else if k = 1 ∨ k = 2 ∨ k = 3 ∨ k = 4 ∨ k = 5 ∨ k = 7 ∨ k = 8 then 15
  else 0

set_option maxHeartbeats 1600000 in
theorem impl_level (k op : Int) (s t : ByteArray) (a : Option Addr) (n cap : Nat) (w : World) : Calls Tryz.prog 10 #[.agg #[.int .i64 k, .int .i64 op, .string s, .string t, .slice a n cap]] w fun e w' => e = .returned (.int .i64 (levelOf k op)) ∧ Below w.heap.size w w' := by
  go_enter Tryz.func10, Tryz.ntmps10
  go_wp2_with (go_at_call 31; refine (impl_op _ _).mono ?_; rintro e w1 ⟨rfl, b1⟩)
  all_goals
    go_ret
    exact ⟨congrArg (fun b => Ending.returned (Value.int .i64 b)) (by simp_all [levelOf]), by first | exact box_below _ _ | exact (box_below w _).trans ((by assumption : Below _ _ _).mono (by simp))⟩
end Go.Proofs.YtphccenlflhfjaaGreatDoor.lv
