/-
  Depths of trees ('depthF'), kids within a valid shape. No program's text is walked here.
-/
import Derived.Test.YtckeepjfbpphaaaGreatDoorTreeMath
namespace Go.Proofs.YtckeepjfbpphaaaGreatDoor.nd
set_option linter.unusedVariables false

theorem back_mem {ss : List Nat} (hl : Low ss) : ∀ (ks : List Int) (p s : Nat), p ≤ ss.length → back ss ks p = some s → ∀ k ∈ ks, 0 ≤ k ∧ k < p := by
  intro ks
  induction ks with
  | nil => intro p s _ _ k hk; cases hk
  | cons x ks ih =>
    intro p s hp h k hk
    by_cases hc : x = (p : Int) - 1 ∧ p ≠ 0
    · rw [back_yes hc.1 hc.2] at h
      have hg := hl.get (i := p - 1) (by omega)
      rcases List.mem_cons.1 hk with e | e
      · rw [e]; omega
      · have := ih _ s (by omega) h k e
        omega
    · rw [back_no hc] at h; cases h
theorem stF_at : ∀ (l : List Nd) (ss r : List Nat), stF l ss = some r → (∃ q, r = ss ++ q) ∧ ∀ i (h : i < l.length), ∃ s, r[ss.length + i]? = some s ∧ back (r.take (ss.length + i)) l[i].kids.reverse (ss.length + i) = some s := by
  intro l
  induction l with
  | nil => intro ss r h; simp [stF] at h; subst h; exact ⟨⟨[], by simp⟩, fun i hi => by simp at hi⟩
  | cons n l ih =>
    intro ss r h
    unfold stF at h
    split at h
    · cases h
    · next s hs =>
      obtain ⟨⟨q, hq⟩, hi⟩ := ih _ _ h
      have e : r = ss ++ (s :: q) := by rw [hq, List.append_assoc]; rfl
      refine ⟨⟨s :: q, e⟩, fun i hlt => ?_⟩
      cases i with
      | zero =>
        refine ⟨s, ?_, ?_⟩
        · rw [e]; simp
        · rw [e, Nat.add_zero, List.take_left]
          exact hs
      | succ i =>
        obtain ⟨s', h1, h2⟩ := hi i (by simpa using hlt)
        simp only [List.length_append, List.length_cons, List.length_nil, Nat.zero_add] at h1 h2
        rw [show ss.length + (i + 1) = ss.length + 1 + i by omega]
        exact ⟨s', h1, h2⟩
/-- In a valid shape: where node i's part begins, and that its kids lie before it. -/
theorem shape_at {l : List Nd} (h : shape l = true) {i : Nat} (hi : i < l.length) : back ((stO l).take i) l[i].kids.reverse i = some ((stO l).getD i 0) ∧ ∀ k ∈ l[i].kids, 0 ≤ k ∧ k < (i : Int) := by
  obtain ⟨_, _, hs, hlen, hlow, _⟩ := shape_yes h
  obtain ⟨s, h1, h2⟩ := (stF_at l [] _ hs).2 i hi
  simp only [List.length_nil, Nat.zero_add] at h1 h2
  have hg : (stO l).getD i 0 = s := by rw [List.getD_eq_getElem?_getD, h1]; rfl
  refine ⟨by rw [hg]; exact h2, ?_⟩
  have hlow2 : Low ((stO l).take i) := fun j hj => by
    simp at hj
    rw [List.getElem_take]
    exact hlow j (by omega)
  intro k hk
  exact back_mem hlow2 _ i s (by simp; omega) h2 k (List.mem_reverse.2 hk)

/-- The greatest depth of some kids. -/
def mx (d : List Nat) (ks : List Int) : Nat := ks.foldl (fun m k => max m (d.getD k.toNat 0)) 0
theorem mx_snoc (d : List Nat) (ks : List Int) (k : Int) : mx d (ks ++ [k]) = max (mx d ks) (d.getD k.toNat 0) := by simp [mx]
theorem mx_step (d : List Nat) {ks : List Int} {J : Nat} (h : J < ks.length) : mx d (ks.take (J + 1)) = max (mx d (ks.take J)) (d.getD ks[J].toNat 0) := by
  rw [List.take_succ_eq_append_getElem h, mx_snoc]
def dF : List Nd → List Nat → List Nat
  | [], d => d
  | n :: l, d => dF l (d ++ [mx d n.kids + 1])
theorem dF_step {l : List Nd} {I : Nat} (h : I < l.length) (d : List Nat) : dF (l.drop I) d = dF (l.drop (I + 1)) (d ++ [mx d l[I].kids + 1]) := by
  rw [List.drop_eq_getElem_cons h, dF]
/-- No depth is greater than its place. -/
def Deep (d : List Nat) : Prop := ∀ i (h : i < d.length), d[i] ≤ i + 1
theorem Deep.nil : Deep [] := fun i h => by simp at h
theorem Deep.getD {d : List Nat} (h : Deep d) (i : Nat) : d.getD i 0 ≤ d.length := by
  rw [List.getD_eq_getElem?_getD]
  by_cases hi : i < d.length
  · rw [List.getElem?_eq_getElem hi]
    have := h i hi
    simp; omega
  · rw [List.getElem?_eq_none (by omega)]; simp
theorem mx_le {d : List Nat} (h : Deep d) (ks : List Int) : mx d ks ≤ d.length := by
  have key : ∀ (ks : List Int) (m : Nat), m ≤ d.length → ks.foldl (fun m k => max m (d.getD k.toNat 0)) m ≤ d.length := by
    intro ks
    induction ks with
    | nil => intro m hm; exact hm
    | cons k ks ih => intro m hm; exact ih _ (Nat.max_le.2 ⟨hm, h.getD _⟩)
  exact key ks 0 (Nat.zero_le _)
theorem Deep.snoc {d : List Nat} (h : Deep d) (ks : List Int) : Deep (d ++ [mx d ks + 1]) := fun i hi => by
  simp at hi
  by_cases he : i < d.length
  · rw [List.getElem_append_left he]; exact h i he
  · obtain rfl : i = d.length := by omega
    rw [List.getElem_append_right (Nat.le_refl _)]
    have := mx_le h ks
    simpa using this
def depthF (l : List Nd) : Nat := if shape l = true then (dF l []).getD (l.length - 1) 0 else 0
end Go.Proofs.YtckeepjfbpphaaaGreatDoor.nd
