/-
  A right tree without its comments: the mathematics ('keepF': the nodes that stay, their kids counted anew; 'dropF': what parts without comments make).
-/
import Derived.Test.YtckeepjfbpphaaaGreatDoorRightMath
import Derived.Test.YtckeepjfbpphaaaGreatDoorMakeT
namespace Go.Proofs.YtckeepjfbpphaaaGreatDoor.nc
open Go.RowKit
open nd (Nd back stO Low shape shape_yes shN shK makeT makeGo tot sumL)
open rt (treeOk nodeF)
set_option linter.unusedVariables false
set_option linter.unusedSimpArgs false

section
variable (l : List Nd)
def com (i : Nat) : Bool := (l.getD i default).k == 34
/-- Does node i stay? -/
def K (i : Nat) : Bool := !(com l i) || i + 1 == l.length
def idx (a n : Nat) : List Nat := (List.range' a n).filter (K l)
def cnt (p : Nat) : Nat := (idx l 0 p).length
def kidsF (S : Nat) (ks : List Int) : List Int := (ks.filter (fun k => !(com l k.toNat))).map (fun k => (cnt l k.toNat : Int) - (cnt l S : Int))
def kf (S : Nat) (n : Nd) : Nd := { n with kids := kidsF l S n.kids }
def dropF : Nat → Nat → List Nd
  | 0, _ => []
  | f + 1, i => makeT (l.getD i default) (((l.getD i default).kids.filter (fun k => !(com l k.toNat))).map (fun k => dropF f k.toNat))
def keepF : List Nd := (idx l 0 l.length).map (fun j => kf l 0 (l.getD j default))
def ncF : List Nd := if treeOk l = true then keepF l else []
end
section
variable {l : List Nd}
theorem idx_add (a m n : Nat) : idx l a (m + n) = idx l a m ++ idx l (a + m) n := by
  unfold idx
  rw [← List.filter_append, List.range'_append_1]
theorem idx_one (a : Nat) : idx l a 1 = if K l a = true then [a] else [] := by
  unfold idx
  rw [List.range'_one, List.filter_cons, List.filter_nil]
theorem cnt_add (S n : Nat) : cnt l (S + n) = cnt l S + (idx l S n).length := by
  unfold cnt
  rw [idx_add, List.length_append, Nat.zero_add]
theorem cnt_le (p : Nat) : cnt l p ≤ p := by
  unfold cnt idx
  refine Nat.le_trans (List.length_filter_le _ _) ?_
  simp
theorem idx_len (S n : Nat) : (idx l S n).length ≤ n := by
  unfold idx
  refine Nat.le_trans (List.length_filter_le _ _) ?_
  simp
theorem idx_mem {S n j : Nat} (h : j ∈ idx l S n) : S ≤ j ∧ j < S + n ∧ K l j = true := by
  unfold idx at h
  rw [List.mem_filter, List.mem_range'_1] at h
  exact ⟨h.1.1, h.1.2, h.2⟩
theorem getD_at {i : Nat} (hi : i < l.length) : l.getD i default = l[i] := by
  rw [List.getD_eq_getElem?_getD, List.getElem?_eq_getElem hi]; rfl
theorem kf_sh {S U : Nat} {n : Nd} (hk : ∀ k ∈ n.kids, k.toNat ≤ 400) (hSU : S ≤ U) (hU : U ≤ 400) (hc : cnt l S ≤ cnt l U) : shN ((cnt l U - cnt l S : Nat) : Int) (kf l U n) = kf l S n := by
  unfold shN kf kidsF shK
  simp only [List.map_map, Nd.mk.injEq, true_and]
  refine List.map_congr_left fun k hk' => ?_
  have h1 := hk k (List.mem_filter.1 hk').1
  have h2 := cnt_le (l := l) k.toNat
  have h3 := cnt_le (l := l) U
  simp only [Function.comp]
  rw [nd.wrap_w _ (by omega) (by omega)]
  omega
/-- A comment of a right tree has no kids. -/
theorem com_kids (h : treeOk l = true) {i : Nat} (hi : i < l.length) (hc : com l i = true) : l[i].kids = [] := by
  obtain ⟨hf, -⟩ := rt.tree_node h hi
  unfold com at hc
  rw [getD_at hi, beq_iff_eq] at hc
  obtain ⟨-, -, hl2⟩ := rt.fields_parts hf
  have hlim : rt.lim l[i].kids.length l[i].k l[i].op l[i].t = rt.lim0 l[i].k l[i].op l[i].t := by unfold rt.lim; rw [if_neg (by omega)]
  rw [hlim] at hl2
  have e : rt.lim0 l[i].k l[i].op l[i].t = (0, 0) := by simp [rt.lim0, hc]
  rw [e] at hl2
  simp at hl2
  exact hl2
theorem kid_small (h : nd.shape l = true) {i : Nat} (hi : i < l.length) : ∀ k ∈ l[i].kids, k.toNat ≤ 400 := fun k hk => by
  have h2 := (shape_yes h).2.1
  have := nd.sh_kid h hi hk
  omega

theorem chain (h : treeOk l = true) (D : Nat → List Nd) {P : Nat} (hP : P < l.length) (hD : ∀ q, q < P → D q = (idx l ((stO l).getD q 0) (q - (stO l).getD q 0) ++ [q]).map (fun j => kf l ((stO l).getD q 0) (l.getD j default))) :
    ∀ (rs : List Int) (p S : Nat), p ≤ P → back (stO l) rs p = some S → S ≤ p ∧ rs.length ≤ p - S ∧ makeGo ((rs.reverse.filter (fun k => !(com l k.toNat))).map (fun k => D k.toNat)) [] [] = ((idx l S (p - S)).map (fun j => kf l S (l.getD j default)), kidsF l S rs.reverse) := by
  have hs := (rt.tree_parts h).1
  obtain ⟨h1, h2, h3, h4, h5, h6⟩ := shape_yes hs
  intro rs
  induction rs with
  | nil =>
    intro p S hp hb
    have : p = S := by simpa [back] using hb
    subst this
    refine ⟨Nat.le_refl _, by simp, ?_⟩
    rw [Nat.sub_self]
    rfl
  | cons k rs ih =>
    intro p S hp hb
    obtain ⟨q, rfl, rfl, hb2⟩ := nd.back_cons hb
    clear hb
    have hb := hb2
    clear hb2
    have hq : q < l.length := by omega
    obtain ⟨U, hU⟩ : ∃ U, (stO l).getD q 0 = U := ⟨_, rfl⟩
    rw [hU] at hb
    have hUq : U ≤ q := by rw [← hU]; exact h5.get (by omega)
    obtain ⟨i1, i2, i3⟩ := ih U S (by omega) hb
    refine ⟨by omega, by simp; omega, ?_⟩
    rw [List.reverse_cons, List.filter_append, List.map_append]
    have hsplit : q + 1 - S = (U - S) + (q - U) + 1 := by omega
    cases hc : com l q
    · have hK : K l q = true := by unfold K; rw [hc]; rfl
      rw [show ([(q : Int)].filter (fun k => !(com l k.toNat))) = [(q : Int)] by rw [List.filter_cons, Int.toNat_natCast, hc]; rfl]
      rw [List.map_singleton, nd.makeGo_snoc, i3, Int.toNat_natCast, hD q (by omega), hU]
      have hcu : cnt l U = cnt l S + (idx l S (U - S)).length := by rw [← cnt_add, show S + (U - S) = U by omega]
      have hcq : cnt l q = cnt l U + (idx l U (q - U)).length := by rw [← cnt_add, show U + (q - U) = q by omega]
      have hl : ((idx l S (U - S)).map (fun j => kf l S (l.getD j default))).length = cnt l U - cnt l S := by rw [List.length_map, hcu]; omega
      have e1 : ((idx l U (q - U) ++ [q]).map (fun j => kf l U (l.getD j default))).map (shN ((((idx l S (U - S)).map (fun j => kf l S (l.getD j default))).length : Nat) : Int)) = (idx l U (q - U) ++ [q]).map (fun j => kf l S (l.getD j default)) := by
        rw [hl, List.map_map]
        refine List.map_congr_left fun j hj => ?_
        have hjl : j < l.length := by
          rw [List.mem_append, List.mem_singleton] at hj
          rcases hj with hj | rfl
          · have := idx_mem hj; omega
          · exact hq
        simp only [Function.comp]
        rw [getD_at hjl]
        exact kf_sh (kid_small hs hjl) i1 (by omega) (by omega)
      have e2 : idx l S (q + 1 - S) = idx l S (U - S) ++ (idx l U (q - U) ++ [q]) := by
        rw [hsplit, idx_add, idx_add, show S + (U - S) = U by omega, show S + (U - S + (q - U)) = q by omega, idx_one, if_pos hK, List.append_assoc]
      simp only
      rw [e1, ← List.map_append, ← e2]
      refine Prod.ext rfl ?_
      simp only
      unfold kidsF
      rw [List.filter_append, List.map_append, show ([(q : Int)].filter (fun k => !(com l k.toNat))) = [(q : Int)] by rw [List.filter_cons, Int.toNat_natCast, hc]; rfl, List.map_singleton, Int.toNat_natCast]
      refine congrArg (fun x => _ ++ [x]) ?_
      rw [List.length_map, e2, List.length_append, List.length_append, List.length_singleton]
      omega
    · have hk0 := com_kids h hq hc
      have hUq2 : U = q := by
        have := nd.sh_back hs hq
        rw [hk0, hU] at this
        simpa [back] using this.symm
      subst hUq2
      have hK : K l U = false := by
        unfold K
        rw [hc, show (U + 1 == l.length) = false by rw [beq_eq_false_iff_ne]; omega]
        rfl
      rw [show ([(U : Int)].filter (fun k => !(com l k.toNat))) = [] by rw [List.filter_cons, Int.toNat_natCast, hc]; rfl]
      rw [List.map_nil, List.append_nil, i3, show U + 1 - S = (U - S) + 1 by omega, idx_add, show S + (U - S) = U by omega, idx_one, hK, if_neg (by decide), List.append_nil]
      refine Prod.ext rfl ?_
      simp only
      unfold kidsF
      rw [List.filter_append, show ([(U : Int)].filter (fun k => !(com l k.toNat))) = [] by rw [List.filter_cons, Int.toNat_natCast, hc]; rfl, List.append_nil]
theorem drop_eq (h : treeOk l = true) : ∀ f i, i < f → i < l.length → dropF l f i = (idx l ((stO l).getD i 0) (i - (stO l).getD i 0) ++ [i]).map (fun j => kf l ((stO l).getD i 0) (l.getD j default)) := by
  have hs := (rt.tree_parts h).1
  intro f
  induction f with
  | zero => intro i hi; omega
  | succ f ih =>
    intro i hi hl
    have hb := nd.sh_back hs hl
    obtain ⟨c1, c2, c3⟩ := chain h (dropF l f) hl (fun q hq => ih q (by omega) (by omega)) _ i _ (Nat.le_refl _) hb
    rw [List.reverse_reverse] at c3
    unfold dropF
    rw [getD_at hl]
    unfold makeT
    rw [c3, List.map_append, List.map_singleton, getD_at hl]
    rfl
theorem parts_sum (h : treeOk l = true) {f i : Nat} (hi : i ≤ f) (hl : i < l.length) : sumL ((l[i].kids.filter (fun k => !(com l k.toNat))).map (fun k => dropF l f k.toNat)) ≤ 400 ∧ l[i].kids.length ≤ 400 := by
  have hs := (rt.tree_parts h).1
  have h2 := (shape_yes hs).2.1
  obtain ⟨c1, c2, c3⟩ := chain h (dropF l f) hl (fun q hq => drop_eq h f q (by omega) (by omega)) _ i _ (Nat.le_refl _) (nd.sh_back hs hl)
  rw [List.reverse_reverse] at c3
  have e := congrArg (fun x => x.1.length) c3
  simp only at e
  rw [nd.makeGo_len, List.length_map] at e
  have := idx_len (l := l) ((stO l).getD i 0) (i - (stO l).getD i 0)
  rw [List.length_reverse] at c2
  rw [List.length_nil, Nat.zero_add] at e
  exact ⟨by omega, by omega⟩
theorem kids_le_of (h : treeOk l = true) {f i m : Nat} (hi : i < f) (hl : i < l.length) (hm : ∀ t ∈ l, t.kids.length ≤ m) : ∀ t ∈ dropF l f i, t.kids.length ≤ m := fun t ht => by
  have hs := (rt.tree_parts h).1
  have h5 := (shape_yes hs).2.2.2.2.1
  rw [drop_eq h f i hi hl] at ht
  obtain ⟨j, hj, rfl⟩ := List.mem_map.1 ht
  have hjl : j < l.length := by
    rw [List.mem_append, List.mem_singleton] at hj
    rcases hj with hj | rfl
    · have h1 := idx_mem hj
      have := h5.get (i := i) (by have := (shape_yes hs).2.2.2.1; omega)
      omega
    · exact hl
  rw [getD_at hjl]
  refine Nat.le_trans ?_ (hm l[j] (List.getElem_mem hjl))
  unfold kf kidsF
  simp only [List.length_map]
  exact List.length_filter_le _ _
theorem drop_keep (h : treeOk l = true) : dropF l l.length (l.length - 1) = keepF l := by
  have hs := (rt.tree_parts h).1
  obtain ⟨h1, h2, h3, h4, h5, h6⟩ := shape_yes hs
  rw [drop_eq h _ _ (by omega) (by omega), h6]
  unfold keepF
  have e : idx l 0 l.length = idx l 0 (l.length - 1 - 0) ++ [l.length - 1] := by
    conv => lhs; rw [show l.length = (l.length - 1) + 1 by omega]
    rw [idx_add, idx_one, Nat.zero_add, if_pos (by unfold K; rw [show (l.length - 1 + 1 == l.length) = true by rw [beq_iff_eq]; omega, Bool.or_true]), Nat.sub_zero]
  rw [← e]

/-! ### Sizes -/
theorem sz_kf (S : Nat) (n : Nd) : (kf l S n).sz ≤ n.sz := by
  have : (kidsF l S n.kids).length ≤ n.kids.length := by
    unfold kidsF
    rw [List.length_map]
    exact List.length_filter_le _ _
  unfold kf Nd.sz
  simp only
  omega
theorem tot_idx : ∀ p, p ≤ l.length → tot ((idx l 0 p).map (fun j => kf l 0 (l.getD j default))) ≤ tot (l.take p) := by
  intro p
  induction p with
  | zero => intro _; simp [idx, tot]
  | succ p ih =>
    intro hp
    rw [idx_add, Nat.zero_add, idx_one, List.map_append, nd.tot_append, List.take_succ_eq_append_getElem (by omega), nd.tot_append]
    refine Nat.add_le_add (ih (by omega)) ?_
    split
    · rw [List.map_singleton, getD_at (by omega)]
      simp only [tot]
      have := sz_kf (l := l) 0 l[p]
      omega
    · simp [tot]
theorem nc_tot : (ncF l).length + tot (ncF l) ≤ l.length + tot l := by
  unfold ncF keepF
  split
  · have := tot_idx (l := l) l.length (Nat.le_refl _)
    rw [List.take_length] at this
    have h2 := idx_len (l := l) 0 l.length
    rw [List.length_map]
    omega
  · simp [tot]
end
end Go.Proofs.YtckeepjfbpphaaaGreatDoor.nc
