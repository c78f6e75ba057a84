/-
  Trees as lists in postorder: where the part of each node begins ('back', 'stF', 'stO'). No program's text is walked here.
-/
import Derived.Test.YtckeepjfbpphaaaGreatDoorNd
namespace Go.Proofs.YtckeepjfbpphaaaGreatDoor.nd
set_option linter.unusedVariables false

/-- The kids from the last on (k), the place behind the last one (p): where the first one's part begins. -/
def back (ss : List Nat) : List Int → Nat → Option Nat
  | [], p => some p
  | k :: ks, p => if k = (p : Int) - 1 ∧ p ≠ 0 then back ss ks (ss.getD (p - 1) 0) else none
def stF : List Nd → List Nat → Option (List Nat)
  | [], ss => some ss
  | n :: l, ss => match back ss n.kids.reverse ss.length with
    | none => none
    | some s => stF l (ss ++ [s])
/-- Each start is at or before its node. -/
def Low (ss : List Nat) : Prop := ∀ i (h : i < ss.length), ss[i] ≤ i
theorem Low.nil : Low [] := fun i h => by simp at h
theorem Low.get {ss : List Nat} (h : Low ss) {i : Nat} (hi : i < ss.length) : ss.getD i 0 ≤ i := by
  rw [List.getD_eq_getElem?_getD, List.getElem?_eq_getElem hi]
  exact h i hi
theorem Low.snoc {ss : List Nat} (h : Low ss) {s : Nat} (hs : s ≤ ss.length) : Low (ss ++ [s]) := fun i hi => by
  simp at hi
  by_cases he : i < ss.length
  · rw [List.getElem_append_left he]; exact h i he
  · obtain rfl : i = ss.length := by omega
    rw [List.getElem_append_right (Nat.le_refl _)]
    simpa using hs
theorem back_le {ss : List Nat} (hl : Low ss) : ∀ (ks : List Int) (p s : Nat), p ≤ ss.length → back ss ks p = some s → s ≤ p := by
  intro ks
  induction ks with
  | nil => intro p s _ h; simp [back] at h; omega
  | cons k ks ih =>
    intro p s hp h
    unfold back at h
    split at h
    · next hc =>
      have := hl.get (i := p - 1) (by omega)
      have := ih _ _ (by omega) h
      omega
    · cases h
theorem back_yes {ss : List Nat} {k : Int} {ks : List Int} {p : Nat} (h : k = (p : Int) - 1) (h0 : p ≠ 0) : back ss (k :: ks) p = back ss ks (ss.getD (p - 1) 0) := by
  simp only [back, if_pos (And.intro h h0)]
theorem back_no {ss : List Nat} {k : Int} {ks : List Int} {p : Nat} (h : ¬ (k = (p : Int) - 1 ∧ p ≠ 0)) : back ss (k :: ks) p = none := by
  simp only [back, if_neg h]
theorem stF_len {l : List Nd} : ∀ {ss r : List Nat}, stF l ss = some r → r.length = ss.length + l.length := by
  induction l with
  | nil => intro ss r h; simp [stF] at h; subst h; simp
  | cons n l ih =>
    intro ss r h
    unfold stF at h
    split at h
    · cases h
    · have := ih h
      simp at this ⊢
      omega
theorem stF_low {l : List Nd} : ∀ {ss r : List Nat}, Low ss → stF l ss = some r → Low r := by
  induction l with
  | nil => intro ss r hl h; simp [stF] at h; subst h; exact hl
  | cons n l ih =>
    intro ss r hl h
    unfold stF at h
    split at h
    · cases h
    · next s hs => exact ih (hl.snoc (back_le hl _ _ _ (Nat.le_refl _) hs)) h
theorem stF_step {l : List Nd} {I : Nat} (h : I < l.length) {ss : List Nat} {s : Nat} (hb : back ss l[I].kids.reverse ss.length = some s) : stF (l.drop I) ss = stF (l.drop (I + 1)) (ss ++ [s]) := by
  rw [List.drop_eq_getElem_cons h, stF, hb]
theorem stF_none {l : List Nd} {I : Nat} (h : I < l.length) {ss : List Nat} (hb : back ss l[I].kids.reverse ss.length = none) : stF (l.drop I) ss = none := by
  rw [List.drop_eq_getElem_cons h, stF, hb]
theorem take_rev {k : List Int} {K : Nat} (h : K < k.length) : (k.take (K + 1)).reverse = k[K] :: (k.take K).reverse := by
  rw [List.take_succ_eq_append_getElem h, List.reverse_append]; rfl

/-- All the starts; none where the nodes do not lie as they should. -/
def stR (l : List Nd) : List Nat := (stF l []).getD []
def stB (l : List Nd) : Bool := (stF l []).isSome
/-- Natural numbers as cells hold them. -/
def ints (ss : List Nat) : List Int := ss.map Int.ofNat
theorem ints_len (ss : List Nat) : (ints ss).length = ss.length := by simp [ints]
theorem ints_get {ss : List Nat} {i : Nat} (h : i < ss.length) : (ints ss)[i]'(by rw [ints_len]; exact h) = (ss[i] : Int) := by simp [ints]
theorem ints_snoc (ss : List Nat) (s : Nat) : ints (ss ++ [s]) = ints ss ++ [(s : Int)] := by simp [ints]
/-- The starts of a valid shape, else nothing. -/
def stO (l : List Nd) : List Nat := if l.length = 0 ∨ 400 < l.length then [] else match stF l [] with
  | none => []
  | some ss => if ss.getD (l.length - 1) 0 = 0 then ss else []
def shape (l : List Nd) : Bool := decide (0 < (stO l).length)
theorem stO_out {l : List Nd} (h : l.length = 0 ∨ 400 < l.length) : stO l = [] := if_pos h
theorem stO_none {l : List Nd} (h : stF l [] = none) : stO l = [] := by
  unfold stO
  rw [h]
  split <;> rfl
theorem stO_last {l : List Nd} {ss : List Nat} (h : stF l [] = some ss) (h0 : ss.getD (l.length - 1) 0 ≠ 0) : stO l = [] := by
  unfold stO
  rw [h]
  split
  · rfl
  · simp only [if_neg h0]
theorem stO_some {l : List Nd} {ss : List Nat} (h1 : l.length ≠ 0) (h2 : l.length ≤ 400) (h : stF l [] = some ss) (h0 : ss.getD (l.length - 1) 0 = 0) : stO l = ss := by
  unfold stO
  rw [h, if_neg (by omega)]
  simp only [if_pos h0]
theorem shape_no {l : List Nd} (h : stO l = []) : shape l = false := by unfold shape; rw [h]; rfl
theorem shape_yes {l : List Nd} (h : shape l = true) : l.length ≠ 0 ∧ l.length ≤ 400 ∧ stF l [] = some (stO l) ∧ (stO l).length = l.length ∧ Low (stO l) ∧ (stO l).getD (l.length - 1) 0 = 0 := by
  have h' : 0 < (stO l).length := of_decide_eq_true h
  have hn : ¬ (l.length = 0 ∨ 400 < l.length) := fun hc => by rw [stO_out hc] at h'; simp at h'
  cases hs : stF l [] with
  | none => rw [stO_none hs] at h'; simp at h'
  | some ss =>
    by_cases h0 : ss.getD (l.length - 1) 0 = 0
    · have e := stO_some (by omega) (by omega) hs h0
      rw [e]
      exact ⟨by omega, by omega, rfl, by have := stF_len hs; simpa using this, stF_low Low.nil hs, h0⟩
    · rw [stO_last hs h0] at h'; simp at h'
theorem shape_of {l : List Nd} {ss : List Nat} (h1 : l.length ≠ 0) (h2 : l.length ≤ 400) (h : stF l [] = some ss) (h0 : ss.getD (l.length - 1) 0 = 0) : shape l = true := by
  unfold shape
  rw [stO_some h1 h2 h h0]
  have := stF_len h
  simp at this
  exact decide_eq_true (by omega)
theorem stR_of {l : List Nd} (h : shape l = true) : stR l = stO l ∧ stB l = true := by
  obtain ⟨_, _, h, _⟩ := shape_yes h
  unfold stR stB
  rw [h]
  exact ⟨rfl, rfl⟩
/-- Where the part of node i begins. -/
def startOf (l : List Nd) (i : Int) : Int := if 0 ≤ i ∧ i < (stO l).length then ((stO l).getD i.toNat 0 : Nat) else -1
end Go.Proofs.YtckeepjfbpphaaaGreatDoor.nd
