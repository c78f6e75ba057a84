/-
  Two ways of drawing trees in step: every drawing function of chapter 7.
-/
import Derived.Test.YtldkhdoboieibaaDrawG
namespace Go.Proofs.Ytldkhdoboieibaa.draw
open nd
set_option linter.unusedVariables false
section
variable {σ T σ' T' : Type} {g : Gen σ T} {g' : Gen σ' T'} {R : σ → σ' → Prop} {Q : T → T' → Prop}
theorem All2.one {a : T} {b : T'} (h : Q a b) : All2 Q [a] [b] := .cons h .nil
theorem All2.two {a c : T} {b d : T'} (h : Q a b) (h2 : Q c d) : All2 Q [a, c] [b, d] := .cons h (.cons h2 .nil)
theorem All2.three {a c e : T} {b d f : T'} (h : Q a b) (h2 : Q c d) (h3 : Q e f) : All2 Q [a, c, e] [b, d, f] := .cons h (.cons h2 (.cons h3 .nil))
theorem All2.four {a c e x : T} {b d f y : T'} (h : Q a b) (h2 : Q c d) (h3 : Q e f) (h4 : Q x y) : All2 Q [a, c, e, x] [b, d, f, y] := .cons h (.cons h2 (.cons h3 (.cons h4 .nil)))
variable (H : Step g g' R Q)
include H
theorem Step.node {n n' : Nd} {l : List T} {k : List T'} {s : σ} {u : σ'} (hn : n = n') (hl : All2 Q l k) (hr : R s u) : InStep R Q (g.nd n l, s) (g'.nd n' k, u) := by
  subst hn
  exact ⟨H.nd _ _ _ hl, hr⟩
theorem Step.leaf : Fn R Q (leafG g) (leafG g') := by
  intro s u h
  obtain ⟨e, r⟩ := H.bl 7 s u (by decide) (by decide) h
  unfold leafG
  dsimp only
  rw [e]
  generalize (g'.bl 7 u).1 = b
  rcases b with _ | _ | _ | b
  · obtain ⟨e1, r1⟩ := H.pk (L := l4NumL) (by decide) (by decide) r
    exact H.node (congrArg (nodeS 2) e1) .nil r1
  · obtain ⟨e1, r1⟩ := H.pk (L := l4StrL) (by decide) (by decide) r
    exact H.node (congrArg (nodeS 3) e1) .nil r1
  · obtain ⟨e1, r1⟩ := H.bl 2 _ _ (by decide) (by decide) r
    obtain ⟨e2, r2⟩ := H.pk (L := l4EreL) (by decide) (by decide) r1
    (try dsimp only)
    rw [e1]
    by_cases hc : (g'.bl 2 (g'.bl 7 u).2).1 = 0
    · rw [if_pos hc, if_pos hc]
      exact H.node (congrArg (nodeS 4) e2) .nil r2
    · rw [if_neg hc, if_neg hc]
      exact H.word _ _ r1
  · exact H.word _ _ r
theorem Step.lval {E1 E2 : σ → T × σ} {F1 F2 : σ' → T' × σ'} (h1 : Fn R Q E1 F1) (h2 : Fn R Q E2 F2) : Fn R Q (lvalG g E1 E2) (lvalG g' F1 F2) := by
  intro s u h
  obtain ⟨e, r⟩ := H.bl 4 s u (by decide) (by decide) h
  unfold lvalG
  dsimp only
  rw [e]
  generalize (g'.bl 4 u).1 = b
  rcases b with _ | _ | b
  · obtain ⟨e1, r1⟩ := H.pk (L := l2WordL) (by decide) (by decide) r
    obtain ⟨q2, r2⟩ := h1 _ _ r1
    exact H.node (congrArg (nodeS 5) e1) (.one q2) r2
  · obtain ⟨q2, r2⟩ := h2 _ _ r
    exact H.node rfl (.one q2) r2
  · exact H.word _ _ r
theorem Step.step {E1 E2 E3 : σ → T × σ} {F1 F2 F3 : σ' → T' × σ'} (h1 : Fn R Q E1 F1) (h2 : Fn R Q E2 F2) (h3 : Fn R Q E3 F3) : Fn R Q (stepG g E1 E2 E3) (stepG g' F1 F2 F3) := by
  intro s u h
  obtain ⟨ei, ri⟩ := H.bl 2 s u (by decide) (by decide) h
  obtain ⟨e, r⟩ := H.bl 16 _ _ (by decide) (by decide) ri
  unfold stepG
  dsimp only
  rw [e, ei]
  generalize (g'.bl 16 (g'.bl 2 u).2).1 = b
  rcases b with _ | _ | _ | _ | _ | _ | _ | _ | _ | _ | _ | _ | b
  · exact H.leaf _ _ r
  · exact H.lval h1 h2 _ _ r
  · obtain ⟨q2, r2⟩ := h1 _ _ r
    exact H.node rfl (.one q2) r2
  · obtain ⟨e1, r1⟩ := H.pk (L := l2WordL) (by decide) (by decide) r
    obtain ⟨q2, r2⟩ := H.list h1 0 3 (by decide) r1
    exact H.node (congrArg (nodeS 7) e1) q2 r2
  · obtain ⟨e1, r1⟩ := H.pk (L := l7FnL) (by decide) (by decide) r
    obtain ⟨q2, r2⟩ := H.list h2 0 3 (by decide) r1
    exact H.node (congrArg (nodeS 8) e1) q2 r2
  · obtain ⟨q2, r2⟩ := H.lval h2 h3 _ _ r
    exact H.node rfl (.one q2) r2
  · obtain ⟨q2, r2⟩ := H.lval h2 h3 _ _ r
    exact H.node rfl (.one q2) r2
  · obtain ⟨e1, r1⟩ := H.pi (L := [56, 55, 61]) (by decide) (by decide) r
    obtain ⟨q2, r2⟩ := h1 _ _ r1
    exact H.node (congrArg (nodeO 11) e1) (.one q2) r2
  · obtain ⟨e1, r1⟩ := H.pi (L := [56, 55, 61]) (by decide) (by decide) r
    obtain ⟨q2, r2⟩ := h1 _ _ r1
    exact H.node (congrArg (nodeO 11) e1) (.one q2) r2
  · obtain ⟨e1, r1⟩ := H.pk (L := l2WordL) (by decide) (by decide) r
    obtain ⟨q2, r2⟩ := H.list h1 1 2 (by decide) r1
    exact H.node (congrArg (nodeS 13) e1) q2 r2
  · obtain ⟨q1, r1⟩ := h1 _ _ r
    obtain ⟨q2, r2⟩ := h1 _ _ r1
    obtain ⟨q3, r3⟩ := h1 _ _ r2
    exact H.node rfl (.three q1 q2 q3) r3
  · obtain ⟨e1, r1⟩ := H.pi (L := [54, 38, 43]) (by decide) (by decide) r
    obtain ⟨q2, r2⟩ := H.lval h2 h3 _ _ r1
    obtain ⟨q3, r3⟩ := h1 _ _ r2
    exact H.node (congrArg (nodeO 15) e1) (.two q2 q3) r3
  · obtain ⟨e1, r1⟩ := H.pi (L := l7BinL) (by decide) (by decide) r
    obtain ⟨q2, r2⟩ := h1 _ _ r1
    obtain ⟨q3, r3⟩ := h1 _ _ r2
    exact H.node (congrArg (nodeO 12) e1) (.two q2 q3) r3
theorem Step.exprs : ∀ d, Fn R Q (exprs g d).1 (exprs g' d).1 ∧ Fn R Q (exprs g d).2.1 (exprs g' d).2.1 ∧ Fn R Q (exprs g d).2.2 (exprs g' d).2.2 := by
  intro d
  induction d with
  | zero => exact ⟨H.leaf, H.leaf, H.leaf⟩
  | succ d ih => exact ⟨H.step ih.1 ih.2.1 ih.2.2, ih.1, ih.2.1⟩
theorem Step.expr (d : Nat) : Fn R Q (exprG g d) (exprG g' d) := (H.exprs d).1
theorem Step.maybe {E : σ → T × σ} {F : σ' → T' × σ'} (h1 : Fn R Q E F) : Fn R Q (maybeG g E) (maybeG g' F) := by
  intro s u h
  obtain ⟨e, r⟩ := H.bl 3 s u (by decide) (by decide) h
  unfold maybeG
  rw [e]
  by_cases hc : (g'.bl 3 u).1 = 0
  · rw [if_pos hc, if_pos hc]
    exact H.node rfl .nil r
  · rw [if_neg hc, if_neg hc]
    exact h1 _ _ r
theorem Step.simple {E0 E1 : σ → T × σ} {F0 F1 : σ' → T' × σ'} (h0 : Fn R Q E0 F0) (h1 : Fn R Q E1 F1) : Fn R Q (simpleG g E0 E1) (simpleG g' F0 F1) := by
  intro s u h
  obtain ⟨e, r⟩ := H.bl 9 s u (by decide) (by decide) h
  have pr : ∀ (x : σ) (y : σ'), R x y → InStep R Q
      (if (g.bl 3 (listG g E0 (g.bl 2 x).1 3 (g.bl 2 x).2).2).1 = 0 then
        (g.nd ⟨21, ((g.bl 2 x).1 : Int), ⟨#[]⟩, (pkG g l7OutL (g.bl 3 (listG g E0 (g.bl 2 x).1 3 (g.bl 2 x).2).2).2).1, []⟩ ((listG g E0 (g.bl 2 x).1 3 (g.bl 2 x).2).1 ++ [(E1 (pkG g l7OutL (g.bl 3 (listG g E0 (g.bl 2 x).1 3 (g.bl 2 x).2).2).2).2).1]), (E1 (pkG g l7OutL (g.bl 3 (listG g E0 (g.bl 2 x).1 3 (g.bl 2 x).2).2).2).2).2)
       else (g.nd (nodeO 21 ((g.bl 2 x).1 : Int)) (listG g E0 (g.bl 2 x).1 3 (g.bl 2 x).2).1, (g.bl 3 (listG g E0 (g.bl 2 x).1 3 (g.bl 2 x).2).2).2))
      (if (g'.bl 3 (listG g' F0 (g'.bl 2 y).1 3 (g'.bl 2 y).2).2).1 = 0 then
        (g'.nd ⟨21, ((g'.bl 2 y).1 : Int), ⟨#[]⟩, (pkG g' l7OutL (g'.bl 3 (listG g' F0 (g'.bl 2 y).1 3 (g'.bl 2 y).2).2).2).1, []⟩ ((listG g' F0 (g'.bl 2 y).1 3 (g'.bl 2 y).2).1 ++ [(F1 (pkG g' l7OutL (g'.bl 3 (listG g' F0 (g'.bl 2 y).1 3 (g'.bl 2 y).2).2).2).2).1]), (F1 (pkG g' l7OutL (g'.bl 3 (listG g' F0 (g'.bl 2 y).1 3 (g'.bl 2 y).2).2).2).2).2)
       else (g'.nd (nodeO 21 ((g'.bl 2 y).1 : Int)) (listG g' F0 (g'.bl 2 y).1 3 (g'.bl 2 y).2).1, (g'.bl 3 (listG g' F0 (g'.bl 2 y).1 3 (g'.bl 2 y).2).2).2)) := by
    intro x y hxy
    obtain ⟨e1, r1⟩ := H.bl 2 x y (by decide) (by decide) hxy
    rw [e1]
    obtain ⟨q2, r2⟩ := H.list h0 (g'.bl 2 y).1 3 (by decide) r1
    obtain ⟨e3, r3⟩ := H.bl 3 _ _ (by decide) (by decide) r2
    rw [e3]
    by_cases hc : (g'.bl 3 (listG g' F0 (g'.bl 2 y).1 3 (g'.bl 2 y).2).2).1 = 0
    · rw [if_pos hc, if_pos hc]
      obtain ⟨e4, r4⟩ := H.pk (L := l7OutL) (by decide) (by decide) r3
      obtain ⟨q5, r5⟩ := h1 _ _ r4
      exact H.node (congrArg (fun z => (⟨21, ((g'.bl 2 y).1 : Int), ⟨#[]⟩, z, []⟩ : Nd)) e4) (q2.snoc q5) r5
    · rw [if_neg hc, if_neg hc]
      exact H.node rfl q2 r3
  unfold simpleG
  dsimp only
  rw [e]
  generalize (g'.bl 9 u).1 = b
  rcases b with _ | _ | _ | _ | _ | _ | b
  · exact pr _ _ r
  · exact pr _ _ r
  · obtain ⟨e1, r1⟩ := H.pi (L := [22, 25, 26]) (by decide) (by decide) r
    exact H.node (congrArg (fun z => nodeO z 0) e1) .nil r1
  · obtain ⟨e1, r1⟩ := H.pi (L := [23, 24]) (by decide) (by decide) r
    obtain ⟨q2, r2⟩ := H.list h0 0 1 (by decide) r1
    exact H.node (congrArg (fun z => nodeO z 0) e1) q2 r2
  · obtain ⟨e1, r1⟩ := H.pk (L := l2WordL) (by decide) (by decide) r
    obtain ⟨q2, r2⟩ := H.list h1 0 2 (by decide) r1
    exact H.node (congrArg (nodeS 27) e1) q2 r2
  · obtain ⟨e1, r1⟩ := H.bl 2 _ _ (by decide) (by decide) r
    (try dsimp only)
    rw [e1]
    by_cases hc : (g'.bl 2 (g'.bl 9 u).2).1 = 0
    · rw [if_pos hc, if_pos hc]
      obtain ⟨e2, r2⟩ := H.pk (L := l7NoteL) (by decide) (by decide) r1
      exact H.node (congrArg (nodeS 34) e2) .nil r2
    · rw [if_neg hc, if_neg hc]
      obtain ⟨q2, r2⟩ := h0 _ _ r1
      exact H.node rfl (.one q2) r2
  · obtain ⟨q2, r2⟩ := h0 _ _ r
    exact H.node rfl (.one q2) r2
theorem Step.block {S : σ → T × σ} {S' : σ' → T' × σ'} (h1 : Fn R Q S S') : Fn R Q (blockG g S) (blockG g' S') := by
  intro s u h
  obtain ⟨e, r⟩ := H.bl 3 s u (by decide) (by decide) h
  unfold blockG
  rw [e]
  obtain ⟨q, r2⟩ := times_two h1 (g'.bl 3 u).1 _ _ r
  exact H.node rfl q r2
theorem Step.comp {A1 A2 B : σ → T × σ} {A1' A2' B' : σ' → T' × σ'} (h1 : Fn R Q A1 A1') (h2 : Fn R Q A2 A2') (hb : Fn R Q B B') : Fn R Q (compG g A1 A2 B) (compG g' A1' A2' B') := by
  intro s u h
  obtain ⟨e, r⟩ := H.bl 6 s u (by decide) (by decide) h
  unfold compG
  dsimp only
  rw [e]
  generalize (g'.bl 6 u).1 = b
  rcases b with _ | _ | _ | _ | _ | b
  · obtain ⟨q1, r1⟩ := h1 _ _ r
    obtain ⟨q2, r2⟩ := hb _ _ r1
    exact H.node rfl (.two q1 q2) r2
  · obtain ⟨q1, r1⟩ := h1 _ _ r
    obtain ⟨q2, r2⟩ := hb _ _ r1
    obtain ⟨q3, r3⟩ := hb _ _ r2
    exact H.node rfl (.three q1 q2 q3) r3
  · obtain ⟨q1, r1⟩ := h1 _ _ r
    obtain ⟨q2, r2⟩ := hb _ _ r1
    exact H.node rfl (.two q1 q2) r2
  · obtain ⟨q1, r1⟩ := hb _ _ r
    obtain ⟨q2, r2⟩ := h1 _ _ r1
    exact H.node rfl (.two q1 q2) r2
  · obtain ⟨q1, r1⟩ := H.maybe h2 _ _ r
    obtain ⟨q2, r2⟩ := H.maybe h1 _ _ r1
    obtain ⟨q3, r3⟩ := H.maybe h1 _ _ r2
    obtain ⟨q4, r4⟩ := hb _ _ r3
    exact H.node rfl (.four q1 q2 q3 q4) r4
  · obtain ⟨e1, r1⟩ := H.bl 2 _ _ (by decide) (by decide) r
    (try dsimp only)
    rw [e1]
    by_cases hc : (g'.bl 2 (g'.bl 6 u).2).1 = 0
    · rw [if_pos hc, if_pos hc]
      exact hb _ _ r1
    · rw [if_neg hc, if_neg hc]
      obtain ⟨e2, r2⟩ := H.pk (L := l2WordL) (by decide) (by decide) r1
      obtain ⟨e3, r3⟩ := H.pk (L := l2WordL) (by decide) (by decide) r2
      obtain ⟨q4, r4⟩ := hb _ _ r3
      exact H.node (by rw [e2, e3]) (.one q4) r4
theorem Step.stmt : ∀ d, Fn R Q (stmtG g d) (stmtG g' d) := by
  intro d
  induction d with
  | zero => exact H.simple (H.expr 0) (H.expr 0)
  | succ d ih =>
    intro s u h
    obtain ⟨e, r⟩ := H.bl 3 s u (by decide) (by decide) h
    unfold stmtG
    rw [e]
    by_cases hc : (g'.bl 3 u).1 = 0
    · rw [if_pos hc, if_pos hc]
      exact H.comp (H.expr 1) (H.expr 2) (H.block ih) _ _ r
    · rw [if_neg hc, if_neg hc]
      exact H.simple (H.expr _) (H.expr _) _ _ r
theorem Step.item : Fn R Q (itemG g) (itemG g') := by
  intro s u h
  obtain ⟨ed, rd⟩ := H.bl 2 s u (by decide) (by decide) h
  obtain ⟨e, r⟩ := H.bl 8 _ _ (by decide) (by decide) rd
  have hE := H.expr (1 + (g'.bl 2 u).1)
  have hB := H.block (H.stmt (1 + (g'.bl 2 u).1))
  unfold itemG
  dsimp only
  rw [e, ed]
  generalize (g'.bl 8 (g'.bl 2 u).2).1 = b
  rcases b with _ | _ | _ | _ | _ | _ | _ | b
  · obtain ⟨e1, r1⟩ := H.bl 2 _ _ (by decide) (by decide) r
    obtain ⟨q2, r2⟩ := hB _ _ r1
    exact H.node (congrArg (fun z : Nat => nodeO (40 + (z : Int)) 0) e1) (.one q2) r2
  · obtain ⟨q1, r1⟩ := hE _ _ r
    exact H.node rfl (.one q1) r1
  · obtain ⟨q1, r1⟩ := hB _ _ r
    exact H.node rfl (.one q1) r1
  · obtain ⟨q1, r1⟩ := H.expr 1 _ _ r
    obtain ⟨q2, r2⟩ := H.expr 1 _ _ r1
    exact H.node rfl (.two q1 q2) r2
  · obtain ⟨q1, r1⟩ := H.expr 1 _ _ r
    obtain ⟨q2, r2⟩ := H.expr 1 _ _ r1
    obtain ⟨q3, r3⟩ := hB _ _ r2
    exact H.node rfl (.three q1 q2 q3) r3
  · obtain ⟨e1, r1⟩ := H.bl 3 _ _ (by decide) (by decide) r
    (try dsimp only)
    rw [e1]
    obtain ⟨q2, r2⟩ := times_two H.word (g'.bl 3 (g'.bl 8 (g'.bl 2 u).2).2).1 _ _ r1
    obtain ⟨e3, r3⟩ := H.pk (L := l7NameL) (by decide) (by decide) r2
    obtain ⟨q4, r4⟩ := hB _ _ r3
    exact H.node (congrArg (nodeS 44) e3) (q2.snoc q4) r4
  · obtain ⟨e1, r1⟩ := H.pk (L := l7TopL) (by decide) (by decide) r
    exact H.node (congrArg (nodeS 34) e1) .nil r1
  · obtain ⟨q1, r1⟩ := hE _ _ r
    obtain ⟨q2, r2⟩ := hB _ _ r1
    exact H.node rfl (.two q1 q2) r2
theorem Step.prog : Fn R Q (progG g) (progG g') := by
  intro s u h
  obtain ⟨e, r⟩ := H.bl 4 s u (by decide) (by decide) h
  unfold progG
  rw [e]
  obtain ⟨q, r2⟩ := times_two H.item (g'.bl 4 u).1 _ _ r
  exact H.node rfl q r2
theorem Step.some : Fn R Q (someG g) (someG g') := by
  intro s u h
  obtain ⟨e, r⟩ := H.bl 4 s u (by decide) (by decide) h
  unfold someG
  rw [e]
  exact H.expr _ _ _ r
end
end Go.Proofs.Ytldkhdoboieibaa.draw
