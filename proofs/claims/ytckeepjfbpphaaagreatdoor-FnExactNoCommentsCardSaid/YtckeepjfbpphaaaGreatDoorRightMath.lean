/-
  Parts of right trees are right. No program's text is walked here.
-/
import Derived.Test.YtckeepjfbpphaaaGreatDoorTreeOk
import Derived.Test.YtckeepjfbpphaaaGreatDoorPartMath
namespace Go.Proofs.YtckeepjfbpphaaaGreatDoor.rt
open Go.RowKit
open nd
set_option linter.unusedVariables false

theorem tree_parts {l : List Nd} (h : treeOk l = true) : nd.shape l = true ∧ depthF l ≤ 40 ∧ ∀ i, i < l.length → nodeAt l i = true := by
  unfold treeOk at h
  rw [Bool.and_eq_true, Bool.and_eq_true] at h
  refine ⟨h.1.1, of_decide_eq_true h.1.2, fun i hi => ?_⟩
  have h2 := h.2
  unfold nodesTo at h2
  rw [List.all_eq_true] at h2
  exact h2 i (List.mem_range.2 hi)
theorem tree_node {l : List Nd} (h : treeOk l = true) {i : Nat} (hi : i < l.length) : nodeF l[i] = true ∧ ∀ p, p < l[i].kids.length → kidAt l l[i] p = true := by
  have h1 := (tree_parts h).2.2 i hi
  rw [nodeAt_of hi, Bool.and_eq_true] at h1
  refine ⟨h1.1, fun p hp => ?_⟩
  have h2 := h1.2
  unfold kidsTo at h2
  rw [List.all_eq_true] at h2
  exact h2 p (List.mem_range.2 hp)
theorem part_tree {l : List Nd} (h : treeOk l = true) {I : Nat} (hI : I < l.length) : treeOk (partS l ((stO l).getD I 0) I) = true := by
  obtain ⟨hs, hd, hn⟩ := tree_parts h
  obtain ⟨h1, h2, h3, h4, h5, h6⟩ := shape_yes hs
  have hS := h5.get (i := I) (by omega)
  have hlen := partS_len hI hS
  have hdep : depthF (partS l ((stO l).getD I 0) I) ≤ 40 := by
    rw [part_depth hs hI]
    have := dep_top hs hI
    rw [all_depth hs] at hd
    omega
  have hnodes : nodesTo (partS l ((stO l).getD I 0) I) (partS l ((stO l).getD I 0) I).length = true := by
    unfold nodesTo
    rw [List.all_eq_true]
    intro j hj
    rw [List.mem_range, hlen] at hj
    have hb : (stO l).getD I 0 + j < l.length := by omega
    obtain ⟨hf, hk⟩ := tree_node h hb
    rw [nodeAt_of (by rw [hlen]; exact hj), partS_get hI hS hj, Bool.and_eq_true]
    refine ⟨?_, ?_⟩
    · show fieldsOk _ _ _ _ ((shK _ l[(stO l).getD I 0 + j].kids).length : Int) = true
      rw [shK_len]
      exact hf
    · unfold kidsTo
      rw [List.all_eq_true]
      intro p hp
      have hp1 : p < (shK (-((stO l).getD I 0 : Int)) l[(stO l).getD I 0 + j].kids).length := List.mem_range.1 hp
      have hp2 := hp1
      rw [shK_len] at hp2
      obtain ⟨k1, k2, k3⟩ := sh_kid hs hb (k := l[(stO l).getD I 0 + j].kids[p]) (List.getElem_mem hp2)
      have k4 := sh_nest hs I hI ((stO l).getD I 0 + j) (by omega) (by omega)
      obtain ⟨K, hK⟩ : ∃ K : Nat, l[(stO l).getD I 0 + j].kids[p] = (K : Int) := ⟨l[(stO l).getD I 0 + j].kids[p].toNat, by omega⟩
      have hko := hk p hp2
      rw [kidAt_of hp2 hK (by omega)] at hko
      have hKI : K - (stO l).getD I 0 < I + 1 - (stO l).getD I 0 := by omega
      have hx := partS_get hI hS hKI
      have e : (stO l).getD I 0 + (K - (stO l).getD I 0) = K := by omega
      rw [kidAt_of (t := shN (-((stO l).getD I 0 : Int)) l[(stO l).getD I 0 + j]) (J := p) (K := K - (stO l).getD I 0) hp1 (by
        have e0 : (shK (-((stO l).getD I 0 : Int)) l[(stO l).getD I 0 + j].kids)[p] = wrap64 (l[(stO l).getD I 0 + j].kids[p] + -((stO l).getD I 0 : Int)) := List.getElem_map ..
        refine e0.trans ?_
        rw [hK, wrap_w _ (by omega) (by omega)]
        omega) (by rw [hlen]; exact hKI), hx]
      show kid _ _ ((shK _ l[(stO l).getD I 0 + j].kids).length : Int) p (l[(stO l).getD I 0 + (K - (stO l).getD I 0)]'(by omega)).k = true
      rw [shK_len]
      simp only [e]
      exact hko
  unfold treeOk
  rw [part_shape hs hI, decide_eq_true hdep, hnodes]
  rfl
end Go.Proofs.YtckeepjfbpphaaaGreatDoor.rt
