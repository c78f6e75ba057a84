/-
  Parts of trees: a part of a valid shape has a valid shape, with its starts and depths; each node but the last has a parent. No program's text is walked here.
-/
import Derived.Test.YtckeepjfbpphaaaGreatDoorPartSpec
import Derived.Test.YtckeepjfbpphaaaGreatDoorDepth
import Derived.Test.YtckeepjfbpphaaaGreatDoorParent
namespace Go.Proofs.YtckeepjfbpphaaaGreatDoor.nd
open Go.RowKit
set_option linter.unusedVariables false

/-! ### Intervals -/
theorem back_cons {ss : List Nat} {k : Int} {ks : List Int} {p s : Nat} (h : back ss (k :: ks) p = some s) : ∃ q : Nat, k = (q : Int) ∧ p = q + 1 ∧ back ss ks (ss.getD q 0) = some s := by
  unfold back at h
  split at h
  · next hc =>
    refine ⟨p - 1, by omega, by omega, h⟩
  · cases h
/-- What lies between lies in the part of one of them. -/
theorem back_tile {ss : List Nat} (hl : Low ss) : ∀ (ks : List Int) (p s I : Nat), p ≤ ss.length → back ss ks p = some s → s ≤ I → I < p → ∃ k : Nat, (k : Int) ∈ ks ∧ k < p ∧ ss.getD k 0 ≤ I ∧ I ≤ k ∧ s ≤ ss.getD k 0 := by
  intro ks
  induction ks with
  | nil => intro p s I _ h h1 h2; simp [back] at h; omega
  | cons k ks ih =>
    intro p s I hp h h1 h2
    obtain ⟨q, rfl, rfl, hh⟩ := back_cons h
    have hq := hl.get (i := q) (by omega)
    by_cases hI : ss.getD q 0 ≤ I
    · exact ⟨q, List.mem_cons_self .., by omega, hI, by omega, back_le hl _ _ _ (by omega) hh⟩
    · obtain ⟨k, hk, h3, h4⟩ := ih _ _ _ (by omega) hh h1 (by omega)
      exact ⟨k, List.mem_cons_of_mem _ hk, by omega, h4⟩
/-- Each kid's part begins at or behind the node's. -/
theorem back_kid {ss : List Nat} (hl : Low ss) : ∀ (ks : List Int) (p s : Nat), p ≤ ss.length → back ss ks p = some s → ∀ k ∈ ks, (s : Int) ≤ k := by
  intro ks
  induction ks with
  | nil => intro p s _ _ k hk; cases hk
  | cons k ks ih =>
    intro p s hp h j hj
    obtain ⟨q, rfl, rfl, hh⟩ := back_cons h
    have hq := hl.get (i := q) (by omega)
    have := back_le hl _ _ _ (by omega) hh
    rcases List.mem_cons.1 hj with rfl | hj
    · omega
    · exact ih _ _ (by omega) hh j hj
/-- The same kids, all places less by S. -/
theorem back_less {ss tt : List Nat} {S : Nat} (hl : Low ss) (hs : ∀ q, S ≤ q → q < ss.length → tt.getD (q - S) 0 = ss.getD q 0 - S) : ∀ (ks : List Int) (p s : Nat), p ≤ ss.length → back ss ks p = some s → S ≤ s → back tt (ks.map (fun k => k - (S : Int))) (p - S) = some (s - S) := by
  intro ks
  induction ks with
  | nil => intro p s _ h _; simp [back] at h ⊢; omega
  | cons k ks ih =>
    intro p s hp h hS
    obtain ⟨q, rfl, rfl, hh⟩ := back_cons h
    have hq := hl.get (i := q) (by omega)
    have h2 := back_le hl _ _ _ (by omega) hh
    rw [List.map_cons, back_yes (by omega) (by omega)]
    rw [show q + 1 - S - 1 = q - S by omega, hs q (by omega) (by omega)]
    exact ih _ _ (by omega) hh hS

/-! ### Starts and depths by their equations -/
theorem stF_of (x : List Nd) (r : List Nat) (hlen : r.length = x.length) (h : ∀ i (hi : i < x.length), back (r.take i) x[i].kids.reverse i = some (r.getD i 0)) : stF x [] = some r := by
  have main : ∀ d i, i + d = x.length → stF (x.drop i) (r.take i) = some r := by
    intro d
    induction d with
    | zero =>
      intro i hi
      rw [List.drop_eq_nil_of_le (by omega), List.take_of_length_le (by omega)]
      rfl
    | succ d ih =>
      intro i hi
      have hix : i < x.length := by omega
      have hb := h i hix
      rw [stF_step hix (s := r.getD i 0) (by rw [List.length_take, Nat.min_eq_left (by omega)]; exact hb)]
      have e : r.take i ++ [r.getD i 0] = r.take (i + 1) := by
        rw [List.take_succ_eq_append_getElem (by omega)]
        simp [show i < r.length by omega]
      rw [e]
      exact ih (i + 1) (by omega)
  have := main x.length 0 (by omega)
  simpa using this
theorem dF_len : ∀ (l : List Nd) (d : List Nat), (dF l d).length = d.length + l.length := by
  intro l
  induction l with
  | nil => intro d; simp [dF]
  | cons n l ih => intro d; simp only [dF]; rw [ih]; simp; omega
theorem dF_pre : ∀ (l : List Nd) (d : List Nat), ∃ q, dF l d = d ++ q := by
  intro l
  induction l with
  | nil => intro d; exact ⟨[], by simp [dF]⟩
  | cons n l ih =>
    intro d
    obtain ⟨q, e⟩ := ih (d ++ [mx d n.kids + 1])
    exact ⟨[mx d n.kids + 1] ++ q, by simp only [dF]; rw [e, List.append_assoc]⟩
theorem dF_at : ∀ (l : List Nd) (d : List Nat) i (h : i < l.length), (dF l d).getD (d.length + i) 0 = mx ((dF l d).take (d.length + i)) l[i].kids + 1 := by
  intro l
  induction l with
  | nil => intro d i h; simp at h
  | cons n l ih =>
    intro d i h
    simp only [dF]
    cases i with
    | zero =>
      obtain ⟨q, e⟩ := dF_pre l (d ++ [mx d n.kids + 1])
      rw [e]
      simp
    | succ i =>
      have := ih (d ++ [mx d n.kids + 1]) i (by simpa using h)
      simp only [List.length_append, List.length_singleton] at this
      rw [show d.length + (i + 1) = d.length + 1 + i by omega, this]
      rfl
theorem dF_of (x : List Nd) (r : List Nat) (hlen : r.length = x.length) (h : ∀ i (hi : i < x.length), r.getD i 0 = mx (r.take i) x[i].kids + 1) : dF x [] = r := by
  have main : ∀ d i, i + d = x.length → dF (x.drop i) (r.take i) = r := by
    intro d
    induction d with
    | zero =>
      intro i hi
      rw [List.drop_eq_nil_of_le (by omega), List.take_of_length_le (by omega)]
      rfl
    | succ d ih =>
      intro i hi
      have hix : i < x.length := by omega
      rw [dF_step hix, ← h i hix]
      have e : r.take i ++ [r.getD i 0] = r.take (i + 1) := by
        rw [List.take_succ_eq_append_getElem (by omega)]
        simp [show i < r.length by omega]
      rw [e]
      exact ih (i + 1) (by omega)
  have := main x.length 0 (by omega)
  simpa using this
theorem mx_ge (d : List Nat) : ∀ (ks : List Int) (k : Int), k ∈ ks → d.getD k.toNat 0 ≤ mx d ks := by
  intro ks
  have main : ∀ (ks : List Int) (m : Nat), m ≤ ks.foldl (fun m k => max m (d.getD k.toNat 0)) m ∧ ∀ k ∈ ks, d.getD k.toNat 0 ≤ ks.foldl (fun m k => max m (d.getD k.toNat 0)) m := by
    intro ks
    induction ks with
    | nil => intro m; exact ⟨Nat.le_refl _, fun k hk => by cases hk⟩
    | cons x ks ih =>
      intro m
      obtain ⟨h1, h2⟩ := ih (max m (d.getD x.toNat 0))
      refine ⟨Nat.le_trans (Nat.le_max_left _ _) h1, fun k hk => ?_⟩
      rcases List.mem_cons.1 hk with rfl | hk
      · exact Nat.le_trans (Nat.le_max_right _ _) h1
      · exact h2 k hk
  exact (main ks 0).2
theorem mx_same {d e : List Nat} {S : Nat} : ∀ (ks : List Int), (∀ k ∈ ks, (S : Int) ≤ k ∧ e.getD (k - (S : Int)).toNat 0 = d.getD k.toNat 0) → mx e (ks.map (fun k => k - (S : Int))) = mx d ks := by
  have main : ∀ (ks : List Int) (m : Nat), (∀ k ∈ ks, (S : Int) ≤ k ∧ e.getD (k - (S : Int)).toNat 0 = d.getD k.toNat 0) → (ks.map (fun k => k - (S : Int))).foldl (fun m k => max m (e.getD k.toNat 0)) m = ks.foldl (fun m k => max m (d.getD k.toNat 0)) m := by
    intro ks
    induction ks with
    | nil => intro m _; rfl
    | cons k ks ih =>
      intro m h
      simp only [List.map_cons, List.foldl_cons]
      rw [(h k (List.mem_cons_self ..)).2]
      exact ih _ (fun j hj => h j (List.mem_cons_of_mem _ hj))
  exact fun ks h => main ks 0 h

/-! ### One valid shape -/
theorem getD_take {ss : List Nat} {i q : Nat} (h : q < i) : (ss.take i).getD q 0 = ss.getD q 0 := by
  rw [List.getD_eq_getElem?_getD, List.getD_eq_getElem?_getD, List.getElem?_take, if_pos h]
theorem getD_cut (ss : List Nat) (S m j : Nat) (h : j < m) : ((ss.drop S).take m).getD j 0 = ss.getD (S + j) 0 := by
  rw [getD_take h, List.getD_eq_getElem?_getD, List.getD_eq_getElem?_getD, List.getElem?_drop]
theorem Low.take {ss : List Nat} (h : Low ss) (i : Nat) : Low (ss.take i) := fun j hj => by
  rw [List.getElem_take]
  exact h j _
theorem back_full {ss : List Nat} {i : Nat} : ∀ (ks : List Int) (p : Nat), p ≤ i → Low ss → i ≤ ss.length → back (ss.take i) ks p = back ss ks p := by
  intro ks
  induction ks with
  | nil => intro p _ _ _; rfl
  | cons k ks ih =>
    intro p hp hl hi
    by_cases hc : k = (p : Int) - 1 ∧ p ≠ 0
    · rw [back_yes hc.1 hc.2, back_yes hc.1 hc.2, getD_take (by omega)]
      have := hl.get (i := p - 1) (by omega)
      exact ih _ (by omega) hl hi
    · rw [back_no hc, back_no hc]
section
variable {l : List Nd}
theorem sh_back (h : shape l = true) {i : Nat} (hi : i < l.length) : back (stO l) l[i].kids.reverse i = some ((stO l).getD i 0) := by
  obtain ⟨h1, h2, h3, h4, h5, h6⟩ := shape_yes h
  rw [← (shape_at h hi).1]
  exact (back_full _ _ (Nat.le_refl _) h5 (by omega)).symm
theorem sh_nest (h : shape l = true) : ∀ K, K < l.length → ∀ i, (stO l).getD K 0 ≤ i → i ≤ K → (stO l).getD K 0 ≤ (stO l).getD i 0 := by
  obtain ⟨h1, h2, h3, h4, h5, h6⟩ := shape_yes h
  intro K
  induction K using Nat.strongRecOn with
  | ind K ih =>
    intro hK i hi1 hi2
    by_cases he : i = K
    · rw [he]; exact Nat.le_refl _
    · obtain ⟨k, hk, h7, h8, h9, h10⟩ := back_tile h5 _ _ _ i (by omega) (sh_back h hK) hi1 (by omega)
      have := ih k h7 (by omega) i h8 h9
      omega
theorem sh_parent (h : shape l = true) : ∀ K (hK : K < l.length), ∀ i, (stO l).getD K 0 ≤ i → i < K → ∃ P, ∃ hP : P < l.length, i < P ∧ (i : Int) ∈ l[P].kids := by
  obtain ⟨h1, h2, h3, h4, h5, h6⟩ := shape_yes h
  intro K
  induction K using Nat.strongRecOn with
  | ind K ih =>
    intro hK i hi1 hi2
    obtain ⟨k, hk, h7, h8, h9, h10⟩ := back_tile h5 _ _ _ i (by omega) (sh_back h hK) hi1 (by omega)
    rw [List.mem_reverse] at hk
    by_cases he : i = k
    · subst he
      exact ⟨K, hK, hi2, hk⟩
    · exact ih k h7 (by omega) i h8 (by omega)
theorem sh_up (h : shape l = true) {i : Nat} (hi : i + 1 < l.length) : ∃ P, ∃ hP : P < l.length, i < P ∧ (i : Int) ∈ l[P].kids := by
  obtain ⟨h1, h2, h3, h4, h5, h6⟩ := shape_yes h
  exact sh_parent h (l.length - 1) (by omega) i (by omega) (by omega)
theorem sh_kid (h : shape l = true) {P : Nat} (hP : P < l.length) {k : Int} (hk : k ∈ l[P].kids) : 0 ≤ k ∧ k < (P : Int) ∧ ((stO l).getD P 0 : Int) ≤ k := by
  obtain ⟨h1, h2, h3, h4, h5, h6⟩ := shape_yes h
  obtain ⟨h7, h8⟩ := (shape_at h hP).2 k hk
  exact ⟨h7, h8, back_kid h5 _ _ _ (by omega) (sh_back h hP) k (List.mem_reverse.2 hk)⟩
/-- A part, node by node. -/
theorem part_node (h : shape l = true) {I J : Nat} (hI : I < l.length) (hJ : J < I + 1 - (stO l).getD I 0) :
    ∃ h1 : J < (partS l ((stO l).getD I 0) I).length, ∃ h2 : (stO l).getD I 0 + J < l.length, (partS l ((stO l).getD I 0) I)[J].kids = l[(stO l).getD I 0 + J].kids.map (fun k => k - ((stO l).getD I 0 : Int)) := by
  obtain ⟨h1, h2, h3, h4, h5, h6⟩ := shape_yes h
  have hS := h5.get (i := I) (by omega)
  refine ⟨by rw [partS_len hI hS]; exact hJ, by omega, ?_⟩
  rw [partS_get hI hS hJ]
  show shK _ _ = _
  unfold shK
  refine List.map_congr_left (fun k hk => ?_)
  have hk2 := sh_kid h (P := (stO l).getD I 0 + J) (by omega) hk
  rw [wrap_w _ (by omega) (by omega)]
  omega
theorem part_shape (h : shape l = true) {I : Nat} (hI : I < l.length) : shape (partS l ((stO l).getD I 0) I) = true := by
  obtain ⟨h1, h2, h3, h4, h5, h6⟩ := shape_yes h
  have hS := h5.get (i := I) (by omega)
  have hlen := partS_len hI hS
  have hr : (((stO l).drop ((stO l).getD I 0)).take (I + 1 - (stO l).getD I 0)).length = I + 1 - (stO l).getD I 0 := by simp; omega
  have hget : ∀ j, j < I + 1 - (stO l).getD I 0 → ((((stO l).drop ((stO l).getD I 0)).take (I + 1 - (stO l).getD I 0)).map (fun t => t - (stO l).getD I 0)).getD j 0 = (stO l).getD ((stO l).getD I 0 + j) 0 - (stO l).getD I 0 := by
    intro j hj
    rw [List.getD_eq_getElem?_getD, List.getElem?_map, List.getElem?_eq_getElem (by rw [hr]; exact hj)]
    simp only [Option.map_some, Option.getD_some]
    have := getD_cut (stO l) ((stO l).getD I 0) (I + 1 - (stO l).getD I 0) j hj
    rw [List.getD_eq_getElem?_getD, List.getElem?_eq_getElem (by rw [hr]; exact hj), Option.getD_some] at this
    rw [this]
  refine shape_of (ss := (((stO l).drop ((stO l).getD I 0)).take (I + 1 - (stO l).getD I 0)).map (fun t => t - (stO l).getD I 0)) (by omega) (by omega) (stF_of _ _ (by rw [List.length_map, hr, hlen]) (fun j hj => ?_)) ?_
  · rw [hlen] at hj
    obtain ⟨_, hb, e⟩ := part_node h hI hj
    rw [e, ← List.map_reverse, hget j hj]
    have hb2 := (shape_at h hb).1
    have := back_less (ss := (stO l).take ((stO l).getD I 0 + j)) (tt := ((((stO l).drop ((stO l).getD I 0)).take (I + 1 - (stO l).getD I 0)).map (fun t => t - (stO l).getD I 0)).take j) (S := (stO l).getD I 0) (h5.take _) (fun q hq1 hq2 => by
      rw [List.length_take] at hq2
      rw [getD_take (by omega), getD_take (by omega), hget _ (by omega)]
      rw [show (stO l).getD I 0 + (q - (stO l).getD I 0) = q by omega]) _ _ _ (by rw [List.length_take]; omega) hb2 (sh_nest h I hI _ (by omega) (by omega))
    rwa [show (stO l).getD I 0 + j - (stO l).getD I 0 = j by omega] at this
  · rw [hlen, hget _ (by omega), show (stO l).getD I 0 + (I + 1 - (stO l).getD I 0 - 1) = I by omega]
    omega
/-- The depth of node i. -/
def dep (l : List Nd) (i : Nat) : Nat := (dF l []).getD i 0
theorem dep_at {i : Nat} (hi : i < l.length) : dep l i = mx ((dF l []).take i) l[i].kids + 1 := by
  have := dF_at l [] i hi
  simpa [dep] using this
theorem part_depth (h : shape l = true) {I : Nat} (hI : I < l.length) : depthF (partS l ((stO l).getD I 0) I) = dep l I := by
  obtain ⟨h1, h2, h3, h4, h5, h6⟩ := shape_yes h
  have hS := h5.get (i := I) (by omega)
  have hlen := partS_len hI hS
  have hD : (dF l []).length = l.length := by rw [dF_len]; simp
  unfold depthF
  rw [if_pos (part_shape h hI), hlen]
  rw [dF_of _ (((dF l []).drop ((stO l).getD I 0)).take (I + 1 - (stO l).getD I 0)) (by rw [hlen]; simp; omega) (fun j hj => ?_)]
  · rw [getD_cut _ _ _ _ (by omega), show (stO l).getD I 0 + (I + 1 - (stO l).getD I 0 - 1) = I by omega]
    rfl
  · rw [hlen] at hj
    obtain ⟨_, hb, e⟩ := part_node h hI hj
    rw [e, getD_cut _ _ _ _ hj]
    show dep l _ = _
    rw [dep_at hb]
    refine congrArg (· + 1) (Eq.symm (mx_same _ (fun k hk => ?_)))
    obtain ⟨k1, k2, k3⟩ := sh_kid h hb hk
    have k4 := sh_nest h I hI ((stO l).getD I 0 + j) (by omega) (by omega)
    refine ⟨by omega, ?_⟩
    rw [getD_take (by omega), getD_cut _ _ _ _ (by omega), getD_take (by omega)]
    rw [show (stO l).getD I 0 + (k - ((stO l).getD I 0 : Int)).toNat = k.toNat by omega]
theorem all_depth (h : shape l = true) : depthF l = dep l (l.length - 1) := by
  unfold depthF
  rw [if_pos h]
  rfl
theorem dep_kid (h : shape l = true) {P i : Nat} (hP : P < l.length) (hk : (i : Int) ∈ l[P].kids) : dep l i < dep l P := by
  obtain ⟨k1, k2, k3⟩ := sh_kid h hP hk
  rw [dep_at hP]
  have := mx_ge ((dF l []).take P) l[P].kids i hk
  rw [getD_take (by omega)] at this
  exact Nat.lt_succ_of_le this
theorem dep_top (h : shape l = true) {i : Nat} (hi : i < l.length) : dep l i ≤ dep l (l.length - 1) := by
  have main : ∀ d i, i + d + 1 = l.length → dep l i ≤ dep l (l.length - 1) := by
    intro d
    induction d using Nat.strongRecOn with
    | ind d ih =>
      intro i hi
      by_cases h0 : d = 0
      · rw [show i = l.length - 1 by omega]; exact Nat.le_refl _
      · obtain ⟨P, hP, h1, h2⟩ := sh_up h (i := i) (by omega)
        have := ih (l.length - 1 - P) (by omega) P (by omega)
        have := dep_kid h hP h2
        omega
  exact main (l.length - 1 - i) i (by omega)
theorem part_all (h : shape l = true) : partS l ((stO l).getD (l.length - 1) 0) (l.length - 1) = l := by
  obtain ⟨h1, h2, h3, h4, h5, h6⟩ := shape_yes h
  unfold partS
  rw [h6, List.drop_zero, List.take_of_length_le (by omega)]
  refine (List.map_congr_left (g := id) (fun t ht => ?_)).trans (List.map_id l)
  obtain ⟨i, hi, rfl⟩ := List.mem_iff_getElem.1 ht
  show shN _ l[i] = l[i]
  unfold shN
  have e : shK (-((0 : Nat) : Int)) l[i].kids = l[i].kids := by
    unfold shK
    refine (List.map_congr_left (g := id) (fun k hk => ?_)).trans (List.map_id _)
    have := sh_kid h hi hk
    show wrap64 (k + -((0 : Nat) : Int)) = k
    rw [wrap_w _ (by omega) (by omega)]
    omega
  rw [e]
theorem findN_some (x : Int) : ∀ (l : List Nd) (k : Nat), (∃ P, ∃ hP : P < l.length, x ∈ l[P].kids) → ∃ P, ∃ hP : P < l.length, x ∈ l[P].kids ∧ findN x l k = ((k + P : Nat) : Int) := by
  intro l
  induction l with
  | nil => rintro k ⟨P, hP, _⟩; simp at hP
  | cons n l ih =>
    rintro k ⟨P, hP, hx⟩
    unfold findN
    by_cases hn : x ∈ n.kids
    · rw [if_pos hn]
      exact ⟨0, by simp, hn, rfl⟩
    · rw [if_neg hn]
      cases P with
      | zero => exact absurd hx hn
      | succ P =>
        obtain ⟨Q, hQ, h1, h2⟩ := ih (k + 1) ⟨P, by simpa using hP, hx⟩
        exact ⟨Q + 1, by simpa using hQ, h1, by rw [h2]; congr 1; omega⟩
theorem findN_none (x : Int) : ∀ (l : List Nd) (k : Nat), (∀ t ∈ l, ¬ x ∈ t.kids) → findN x l k = -1 := by
  intro l
  induction l with
  | nil => intro k _; rfl
  | cons n l ih =>
    intro k h
    unfold findN
    rw [if_neg (h n (List.mem_cons_self ..))]
    exact ih _ (fun t ht => h t (List.mem_cons_of_mem _ ht))
/-- The parent of a node that is not the last. -/
theorem par_some (h : shape l = true) {i : Nat} (hi : i + 1 < l.length) : ∃ P, ∃ hP : P < l.length, i < P ∧ (i : Int) ∈ l[P].kids ∧ parentF (i : Int) l = (P : Int) := by
  obtain ⟨Q, hQ, _, hq⟩ := sh_up h hi
  obtain ⟨P, hP, h1, h2⟩ := findN_some (i : Int) l 0 ⟨Q, hQ, hq⟩
  refine ⟨P, hP, by have := sh_kid h hP h1; omega, h1, ?_⟩
  unfold parentF
  rw [if_pos h, h2]
  congr 1
  omega
theorem par_none (h : shape l = true) : parentF ((l.length - 1 : Nat) : Int) l = -1 := by
  unfold parentF
  rw [if_pos h]
  refine findN_none _ _ _ (fun t ht hx => ?_)
  obtain ⟨i, hi, rfl⟩ := List.mem_iff_getElem.1 ht
  have := sh_kid h hi hx
  omega
end
end Go.Proofs.YtckeepjfbpphaaaGreatDoor.nd
