/-
  The trees that are drawn are small.
-/
import Derived.Test.YtldkhdoboieibaaLval
namespace Go.Proofs.Ytldkhdoboieibaa.draw
open nd
set_option linter.unusedVariables false
def Small (k : Nat) (q : List Nd) : Prop := 0 < q.length ∧ q.length ≤ k ∧ ∀ t ∈ q, t.kids.length ≤ 1000
theorem Small.mono {a b : Nat} {q : List Nd} (h : Small a q) (hab : a ≤ b) : Small b q := ⟨h.1, Nat.le_trans h.2.1 hab, h.2.2⟩
theorem Small.good {k : Nat} {q : List Nd} (h : Small k q) (hk : k ≤ 20000) : Good q := ⟨h.1, Nat.le_trans h.2.1 hk, fun t ht => Nat.le_trans (h.2.2 t ht) (by decide)⟩
theorem go_kids : ∀ (ps : List (List Nd)) (out : List Nd) (ks : List Int), (∀ q ∈ ps, ∀ t ∈ q, t.kids.length ≤ 1000) → (∀ t ∈ out, t.kids.length ≤ 1000) → ∀ t ∈ (makeGo ps out ks).1, t.kids.length ≤ 1000 := by
  intro ps
  induction ps with
  | nil => intro out ks _ h; exact h
  | cons q ps ih =>
    intro out ks h1 h2
    refine ih _ _ (fun q' hq => h1 q' (List.mem_cons_of_mem _ hq)) ?_
    intro t ht
    rcases List.mem_append.1 ht with ht | ht
    · exact h2 t ht
    · obtain ⟨t', ht', rfl⟩ := List.mem_map.1 ht
      have := h1 q (List.mem_cons_self ..) t' ht'
      simpa [shN, shK] using this
theorem sum_le {k : Nat} : ∀ ps : List (List Nd), (∀ q ∈ ps, Small k q) → sumL ps ≤ ps.length * k := by
  intro ps
  induction ps with
  | nil => intro _; simp [sumL]
  | cons q ps ih =>
    intro h
    have h1 := (h q (List.mem_cons_self ..)).2.1
    have h2 := ih (fun q hq => h q (List.mem_cons_of_mem _ hq))
    simp only [sumL, List.length_cons, Nat.succ_mul]
    omega
theorem small_make {k m : Nat} (n : Nd) (ps : List (List Nd)) (h : ∀ q ∈ ps, Small k q) (hm : ps.length ≤ m) (hm2 : m ≤ 1000) : Small (1 + m * k) (makeT n ps) := by
  refine ⟨by rw [makeT_len]; omega, ?_, ?_⟩
  · rw [makeT_len]
    have h1 := sum_le ps h
    have h2 := Nat.mul_le_mul_right k hm
    omega
  · intro t ht
    unfold makeT at ht
    rcases List.mem_append.1 ht with ht | ht
    · exact go_kids ps [] [] (fun q hq => (h q hq).2.2) (fun t ht => by cases ht) t ht
    · rw [List.mem_singleton] at ht
      subst ht
      show (makeGo ps [] []).2.length ≤ 1000
      rw [makeGo_klen]
      simp
      omega
def SmE (k : Nat) (E : St → List Nd × St) : Prop := ∀ s, Small k (E s).1
theorem sm0 (n : Nd) : Small 1 (makeT n []) := (small_make (k := 0) (m := 0) n [] (fun q hq => (by cases hq)) (Nat.le_refl _) (by decide)).mono (by decide)
theorem sm1 {k : Nat} (n : Nd) {q : List Nd} (h : Small k q) : Small (1 + k) (makeT n [q]) := (small_make (k := k) (m := 1) n [q] (fun r hr => by rw [List.mem_singleton] at hr; rw [hr]; exact h) (Nat.le_refl _) (by decide)).mono (by omega)
theorem sm_list {k m : Nat} (n : Nd) {l : List (List Nd)} (h : (∀ q ∈ l, Small k q) ∧ l.length ≤ m) (hm : m ≤ 1000) : Small (1 + m * k) (makeT n l) := small_make n l h.1 h.2 hm
theorem sm_cons {k m : Nat} {q : List Nd} {l : List (List Nd)} (hq : Small k q) (h : (∀ q ∈ l, Small k q) ∧ l.length ≤ m) : (∀ r ∈ q :: l, Small k r) ∧ (q :: l).length ≤ m + 1 := by
  refine ⟨fun r hr => ?_, ?_⟩
  · rcases List.mem_cons.1 hr with e | e
    · rw [e]; exact hq
    · exact h.1 r e
  · exact Nat.succ_le_succ h.2
theorem sm_nil {k : Nat} : (∀ q ∈ ([] : List (List Nd)), Small k q) ∧ ([] : List (List Nd)).length ≤ 0 := ⟨fun q hq => (by cases hq), Nat.le_refl _⟩
theorem exact_lt (zs : List Int) (n : Nat) (s : St) (hn : 0 < n) : ((exactG zs).bl n s).1 < n := by
  have h := belowF_bd zs n s (by omega)
  show (belowF zs n s).1.toNat < n
  omega
theorem times_small {k : Nat} {E : St → List Nd × St} (h : SmE k E) : ∀ n s, (∀ q ∈ (timesG E n s).1, Small k q) ∧ (timesG E n s).1.length ≤ n := by
  intro n
  induction n with
  | zero => intro s; exact ⟨fun q hq => (by cases hq), Nat.le_refl _⟩
  | succ n ih => intro s; exact sm_cons (h s) (ih _)
theorem list_small {k : Nat} (zs : List Int) {E : St → List Nd × St} (h : SmE k E) (least most : Nat) (hl : least ≤ most) (s : St) : (∀ q ∈ (listG (exactG zs) E least most s).1, Small k q) ∧ (listG (exactG zs) E least most s).1.length ≤ most := by
  have hb := exact_lt zs (most - least + 1) s (by omega)
  obtain ⟨h1, h2⟩ := times_small h (least + ((exactG zs).bl (most - least + 1) s).1) ((exactG zs).bl (most - least + 1) s).2
  exact ⟨h1, Nat.le_trans h2 (by omega)⟩
theorem word_small (zs : List Int) : SmE 1 (wordG (exactG zs)) := fun s => sm0 _
theorem leaf_small (zs : List Int) : SmE 1 (leafG (exactG zs)) := by
  intro s
  unfold leafG
  dsimp only
  generalize ((exactG zs).bl 7 s).1 = b
  rcases b with _ | _ | _ | b
  · exact sm0 _
  · exact sm0 _
  · show Small 1 (if ((exactG zs).bl 2 ((exactG zs).bl 7 s).2).1 = 0 then _ else _ : List Nd × St).1
    split
    · exact sm0 _
    · exact sm0 _
  · exact sm0 _
theorem lval_small {k : Nat} (zs : List Int) {E1 E2 : St → List Nd × St} (h1 : SmE k E1) (h2 : SmE k E2) : SmE (1 + k) (lvalG (exactG zs) E1 E2) := by
  intro s
  unfold lvalG
  dsimp only
  generalize ((exactG zs).bl 4 s).1 = b
  rcases b with _ | _ | b
  · exact sm1 _ (h1 _)
  · exact sm1 _ (h2 _)
  · exact (sm0 _).mono (by omega)
theorem step_small {k : Nat} (zs : List Int) {E1 E2 E3 : St → List Nd × St} (h1 : SmE k E1) (h2 : SmE k E2) (h3 : SmE k E3) : SmE (3 + 3 * k) (stepG (exactG zs) E1 E2 E3) := by
  intro s
  unfold stepG
  dsimp only
  generalize ((exactG zs).bl 2 s).1 = i
  generalize ((exactG zs).bl 16 ((exactG zs).bl 2 s).2).1 = b
  rcases b with _ | _ | _ | _ | _ | _ | _ | _ | _ | _ | _ | _ | b
  · exact (leaf_small zs _).mono (by omega)
  · exact (lval_small zs h1 h2 _).mono (by omega)
  · exact (sm1 _ (h1 _)).mono (by omega)
  · exact (sm_list _ (list_small zs h1 0 3 (by omega) _) (by decide)).mono (by omega)
  · exact (sm_list _ (list_small zs h2 0 3 (by omega) _) (by decide)).mono (by omega)
  · exact (sm1 _ (lval_small zs h2 h3 _)).mono (by omega)
  · exact (sm1 _ (lval_small zs h2 h3 _)).mono (by omega)
  · exact (sm1 _ (h1 _)).mono (by omega)
  · exact (sm1 _ (h1 _)).mono (by omega)
  · exact (sm_list _ (list_small zs h1 1 2 (by omega) _) (by decide)).mono (by omega)
  · exact (sm_list (m := 3) _ (sm_cons (h1 _) (sm_cons (h1 _) (sm_cons (h1 _) sm_nil))) (by decide)).mono (by omega)
  · exact (sm_list (m := 2) _ (sm_cons (lval_small zs h2 h3 _) (sm_cons ((h1 _).mono (by omega)) sm_nil)) (by decide)).mono (by omega)
  · exact (sm_list (m := 2) _ (sm_cons (h1 _) (sm_cons (h1 _) sm_nil)) (by decide)).mono (by omega)
def kZ : Nat → Nat
  | 0 => 1
  | d + 1 => 3 + 3 * kZ d
theorem SmE.mono {a b : Nat} {E : St → List Nd × St} (h : SmE a E) (hab : a ≤ b) : SmE b E := fun s => (h s).mono hab
theorem exprs_small (zs : List Int) : ∀ d, SmE (kZ d) (exprs (exactG zs) d).1 ∧ SmE (kZ d) (exprs (exactG zs) d).2.1 ∧ SmE (kZ d) (exprs (exactG zs) d).2.2 := by
  intro d
  induction d with
  | zero => exact ⟨leaf_small zs, leaf_small zs, leaf_small zs⟩
  | succ d ih => exact ⟨step_small zs ih.1 ih.2.1 ih.2.2, ih.1.mono (by simp only [kZ]; omega), ih.2.1.mono (by simp only [kZ]; omega)⟩
end Go.Proofs.Ytldkhdoboieibaa.draw
