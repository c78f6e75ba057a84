/-
  In drawn trees a binary operation has no more than two kids. No program's text is walked here.
  The texts in drawn trees are short. No program's text is walked here.
-/
import Derived.Test.YtldkhdoboieibaaDrawExact
namespace Go.Proofs.Ytldkhdoboieibaa.draw.ar
open nd lcg draw
set_option linter.unusedVariables false

/-- A binary operation has no more than two kids. -/
def Ar (t : Nd) : Prop := t.k = 12 → t.kids.length ≤ 2
/-- The same numbers; of a tree this alone: has every binary operation at most two kids? -/
def arG (zs : List Int) : Gen St Bool := ⟨(exactG zs).bl, fun n l => decide (n.k = 12 → l.length ≤ 2) && l.all id⟩
theorem go_ar : ∀ (ps : List (List Nd)) (out : List Nd) (ks : List Int), (∀ q ∈ ps, ∀ t ∈ q, Ar t) → (∀ t ∈ out, Ar t) → ∀ t ∈ (makeGo ps out ks).1, Ar t := by
  intro ps
  induction ps with
  | nil => intro out ks _ h; exact h
  | cons q ps ih =>
    intro out ks h1 h2
    refine ih _ _ (fun q' hq => h1 q' (List.mem_cons_of_mem _ hq)) ?_
    intro t ht
    rcases List.mem_append.1 ht with ht | ht
    · exact h2 t ht
    · obtain ⟨t', ht', rfl⟩ := List.mem_map.1 ht
      intro hk
      have := h1 q (List.mem_cons_self ..) t' ht' hk
      simpa [shN, shK] using this
theorem go_len : ∀ (ps : List (List Nd)) (out : List Nd) (ks : List Int), (makeGo ps out ks).2.length = ks.length + ps.length := by
  intro ps
  induction ps with
  | nil => intro out ks; rfl
  | cons q ps ih =>
    intro out ks
    refine (ih _ _).trans ?_
    simp
    omega
theorem all2_ar {l : List (List Nd)} {k : List Bool} (h : All2 (fun q b => b = true → ∀ t ∈ q, Ar t) l k) : k.all id = true → ∀ q ∈ l, ∀ t ∈ q, Ar t := by
  induction h with
  | nil => intro _ q hq; cases hq
  | cons h1 _ ih =>
    intro hk q hq
    simp only [List.all_cons, Bool.and_eq_true, id] at hk
    rcases List.mem_cons.1 hq with e | hq
    · rw [e]; exact h1 hk.1
    · exact ih hk.2 q hq
theorem all2_len {l : List (List Nd)} {k : List Bool} {Q : List Nd → Bool → Prop} (h : All2 Q l k) : l.length = k.length := by
  induction h with
  | nil => rfl
  | cons _ _ ih => simp [ih]
theorem exact_ar (zs : List Int) : Step (exactG zs) (arG zs) (fun s u => s = u) (fun q b => b = true → ∀ t ∈ q, Ar t) := by
  refine ⟨fun n s u h0 h1 h => by subst h; exact ⟨rfl, rfl⟩, fun n l k h hb t ht => ?_⟩
  have hb' : (decide (n.k = 12 → k.length ≤ 2) && k.all id) = true := hb
  simp only [Bool.and_eq_true, decide_eq_true_eq] at hb'
  have ht' : t ∈ (makeGo l [] []).1 ++ [{ n with kids := (makeGo l [] []).2 }] := ht
  rcases List.mem_append.1 ht' with ht | ht
  · exact go_ar l [] [] (all2_ar h hb'.2) (fun t ht => by cases ht) t ht
  · rw [List.mem_singleton] at ht
    subst ht
    intro hk
    show (makeGo l [] []).2.length ≤ 2
    rw [go_len, all2_len h]
    have := hb'.1 hk
    simpa using this
/-! ### They always are -/
def Tr1 (E : St → Bool × St) : Prop := ∀ s, (E s).1 = true
def Nd1 (g : Gen St Bool) : Prop := ∀ n l, (n.k = 12 → l.length ≤ 2) → l.all id = true → g.nd n l = true
theorem ndO {g : Gen St Bool} (H : Nd1 g) {k o : Int} {l : List Bool} (hk : k ≠ 12) (h : l.all id = true) : g.nd (nodeO k o) l = true := H _ _ (fun e => absurd e hk) h
theorem ndB {g : Gen St Bool} (H : Nd1 g) {o : Int} {l : List Bool} (hl : l.length ≤ 2) (h : l.all id = true) : g.nd (nodeO 12 o) l = true := H _ _ (fun _ => hl) h
theorem ndS {g : Gen St Bool} (H : Nd1 g) {k : Int} {x : ByteArray} {l : List Bool} (hk : k ≠ 12) (h : l.all id = true) : g.nd (nodeS k x) l = true := H _ _ (fun e => absurd e hk) h
theorem pi_ne {g : Gen St Bool} {L : List Int} {s : St} (h : L.all (fun k => k != 12) = true) : (piG g L s).1 ≠ 12 := by
  show L.getD _ _ ≠ 12
  rw [List.getD_eq_getElem?_getD]
  cases e : L[(g.bl L.length s).1]? with
  | none => decide
  | some x =>
    have := List.all_eq_true.1 h x (List.mem_of_getElem? e)
    simpa using this
theorem times1 {E : St → Bool × St} (h : Tr1 E) : ∀ n s, (timesG E n s).1.all id = true := by
  intro n
  induction n with
  | zero => intro s; rfl
  | succ n ih => intro s; simp only [timesG, List.all_cons, Bool.and_eq_true]; exact ⟨h s, ih _⟩
theorem list1 {g : Gen St Bool} {E : St → Bool × St} (h : Tr1 E) (a b : Nat) (s : St) : (listG g E a b s).1.all id = true := times1 h _ _
theorem one1 {b : Bool} (h : b = true) : [b].all id = true := by simp [h]
theorem two1 {b c : Bool} (h : b = true) (h2 : c = true) : [b, c].all id = true := by simp [h, h2]
theorem three1 {b c d : Bool} (h : b = true) (h2 : c = true) (h3 : d = true) : [b, c, d].all id = true := by simp [h, h2, h3]
theorem word1 {g : Gen St Bool} (H : Nd1 g) : Tr1 (wordG g) := fun s => ndS H (by decide) rfl
theorem leaf1 {g : Gen St Bool} (H : Nd1 g) : Tr1 (leafG g) := by
  intro s
  unfold leafG
  dsimp only
  generalize (g.bl 7 s).1 = b
  rcases b with _ | _ | _ | b
  all_goals try dsimp only
  · exact ndS H (by decide) rfl
  · exact ndS H (by decide) rfl
  · show (if (g.bl 2 (g.bl 7 s).2).1 = 0 then _ else _ : Bool × St).1 = true
    split
    · exact ndS H (by decide) rfl
    · exact word1 H _
  · exact word1 H _
section
variable {g : Gen St Bool} (H : Nd1 g) {E1 E2 E3 : St → Bool × St} (h1 : Tr1 E1) (h2 : Tr1 E2) (h3 : Tr1 E3)
include H h1 h2
theorem lval1 : Tr1 (lvalG g E1 E2) := by
  intro s
  unfold lvalG
  dsimp only
  generalize (g.bl 4 s).1 = b
  rcases b with _ | _ | b
  all_goals try dsimp only
  · exact ndS H (by decide) (one1 (h1 _))
  · exact ndO H (by decide) (one1 (h2 _))
  · exact word1 H _
include h3
theorem step1 : Tr1 (stepG g E1 E2 E3) := by
  intro s
  unfold stepG
  dsimp only
  generalize (g.bl 2 s).1 = i
  generalize (g.bl 16 (g.bl 2 s).2).1 = b
  rcases b with _ | _ | _ | _ | _ | _ | _ | _ | _ | _ | _ | _ | b
  all_goals try dsimp only
  · exact leaf1 H _
  · exact lval1 H h1 h2 _
  · exact ndO H (by decide) (one1 (h1 _))
  · exact ndS H (by decide) (list1 h1 _ _ _)
  · exact ndS H (by decide) (list1 h2 _ _ _)
  · exact ndO H (by decide) (one1 (lval1 H h2 h3 _))
  · exact ndO H (by decide) (one1 (lval1 H h2 h3 _))
  · exact ndO H (by decide) (one1 (h1 _))
  · exact ndO H (by decide) (one1 (h1 _))
  · exact ndS H (by decide) (list1 h1 _ _ _)
  · exact ndO H (by decide) (three1 (h1 _) (h1 _) (h1 _))
  · exact ndO H (by decide) (two1 (lval1 H h2 h3 _) (h1 _))
  · exact ndB H (by simp) (two1 (h1 _) (h1 _))
end
theorem exprs1 {g : Gen St Bool} (H : Nd1 g) : ∀ d, Tr1 (exprs g d).1 ∧ Tr1 (exprs g d).2.1 ∧ Tr1 (exprs g d).2.2 := by
  intro d
  induction d with
  | zero => exact ⟨leaf1 H, leaf1 H, leaf1 H⟩
  | succ d ih => exact ⟨step1 H ih.1 ih.2.1 ih.2.2, ih.1, ih.2.1⟩
theorem expr1 {g : Gen St Bool} (H : Nd1 g) (d : Nat) : Tr1 (exprG g d) := (exprs1 H d).1
section
variable {g : Gen St Bool} (H : Nd1 g) {A B C : St → Bool × St} (ha : Tr1 A) (hb : Tr1 B) (hc : Tr1 C)
include H ha
theorem maybe1 : Tr1 (maybeG g A) := by
  intro s
  unfold maybeG
  split
  · exact ndO H (by decide) rfl
  · exact ha _
theorem block1 : Tr1 (blockG g A) := fun s => ndO H (by decide) (times1 ha _ _)
include hb
theorem simple1 : Tr1 (simpleG g A B) := by
  intro s
  have pr : ∀ u, ((fun (u : St) =>
    let o := g.bl 2 u
    let l := listG g A o.1 3 o.2
    let c := g.bl 3 l.2
    if c.1 = 0 then
      let x := pkG g l7OutL c.2
      let e := B x.2
      (g.nd ⟨21, (o.1 : Int), ⟨#[]⟩, x.1, []⟩ (l.1 ++ [e.1]), e.2)
    else (g.nd (nodeO 21 (o.1 : Int)) l.1, c.2)) u).1 = true := by
    intro u
    dsimp only
    split
    · exact H _ _ (fun e => by simp at e) (by simp only [List.all_append, Bool.and_eq_true]; exact ⟨list1 ha _ _ _, one1 (hb _)⟩)
    · exact ndO H (by decide) (list1 ha _ _ _)
  unfold simpleG
  dsimp only
  generalize (g.bl 9 s).1 = b
  rcases b with _ | _ | _ | _ | _ | _ | b
  all_goals try dsimp only
  · exact pr _
  · exact pr _
  · exact ndO H (pi_ne (by decide)) rfl
  · exact ndO H (pi_ne (by decide)) (list1 ha _ _ _)
  · exact ndS H (by decide) (list1 hb _ _ _)
  · show (if (g.bl 2 _).1 = 0 then _ else _ : Bool × St).1 = true
    split
    · exact ndS H (by decide) rfl
    · exact ndO H (by decide) (one1 (ha _))
  · exact ndO H (by decide) (one1 (ha _))
include hc
theorem comp1 : Tr1 (compG g A B C) := by
  intro s
  unfold compG
  dsimp only
  generalize (g.bl 6 s).1 = b
  rcases b with _ | _ | _ | _ | _ | b
  all_goals try dsimp only
  · exact ndO H (by decide) (two1 (ha _) (hc _))
  · exact ndO H (by decide) (three1 (ha _) (hc _) (hc _))
  · exact ndO H (by decide) (two1 (ha _) (hc _))
  · exact ndO H (by decide) (two1 (hc _) (ha _))
  · refine ndO H (by decide) ?_
    simp only [List.all_cons, List.all_nil, Bool.and_eq_true, id]
    exact ⟨maybe1 H hb _, maybe1 H ha _, maybe1 H ha _, hc _, trivial⟩
  · show (if (g.bl 2 _).1 = 0 then _ else _ : Bool × St).1 = true
    split
    · exact hc _
    · exact H _ _ (fun e => by simp at e) (one1 (hc _))
end
theorem stmt1 {g : Gen St Bool} (H : Nd1 g) : ∀ d, Tr1 (stmtG g d) := by
  intro d
  induction d with
  | zero => exact simple1 H (expr1 H 0) (expr1 H 0)
  | succ d ih =>
    intro s
    unfold stmtG
    split
    · exact comp1 H (expr1 H 1) (expr1 H 2) (block1 H ih) _
    · exact simple1 H (expr1 H _) (expr1 H _) _
theorem item1 {g : Gen St Bool} (H : Nd1 g) : Tr1 (itemG g) := by
  intro s
  unfold itemG
  dsimp only
  have hB : Tr1 (blockG g (stmtG g (1 + (g.bl 2 s).1))) := block1 H (stmt1 H _)
  have hE : Tr1 (exprG g (1 + (g.bl 2 s).1)) := expr1 H _
  have h1 : Tr1 (exprG g 1) := expr1 H 1
  generalize blockG g (stmtG g (1 + (g.bl 2 s).1)) = Bk at hB ⊢
  generalize exprG g (1 + (g.bl 2 s).1) = E at hE ⊢
  generalize (g.bl 8 (g.bl 2 s).2).1 = b
  rcases b with _ | _ | _ | _ | _ | _ | _ | b
  all_goals try dsimp only
  · exact ndO H (by omega) (one1 (hB _))
  · exact ndO H (by decide) (one1 (hE _))
  · exact ndO H (by decide) (one1 (hB _))
  · exact ndO H (by decide) (two1 (h1 _) (h1 _))
  · exact ndO H (by decide) (three1 (h1 _) (h1 _) (hB _))
  · exact ndS H (by decide) (by simp only [List.all_append, Bool.and_eq_true]; exact ⟨times1 (word1 H) _ _, one1 (hB _)⟩)
  · exact ndS H (by decide) rfl
  · exact ndO H (by decide) (two1 (hE _) (hB _))
theorem prog1 {g : Gen St Bool} (H : Nd1 g) : Tr1 (progG g) := fun s => ndO H (by decide) (times1 (item1 H) _ _)
/-! ### So of the exact trees -/
theorem nd_ar (zs : List Int) : Nd1 (arG zs) := by
  intro n l h1 h
  show (decide (n.k = 12 → l.length ≤ 2) && l.all id) = true
  rw [h, decide_eq_true h1]
  rfl
theorem expr_ar (zs : List Int) (d : Nat) (s : St) : ∀ t ∈ (exprG (exactG zs) d s).1, Ar t := ((exact_ar zs).expr d s s rfl).1 (expr1 (nd_ar zs) d s)
theorem stmt_ar (zs : List Int) (d : Nat) (s : St) : ∀ t ∈ (stmtG (exactG zs) d s).1, Ar t := ((exact_ar zs).stmt d s s rfl).1 (stmt1 (nd_ar zs) d s)
theorem prog_ar (zs : List Int) (s : St) : ∀ t ∈ (progG (exactG zs) s).1, Ar t := ((exact_ar zs).prog s s rfl).1 (prog1 (nd_ar zs) s)
end Go.Proofs.Ytldkhdoboieibaa.draw.ar

namespace Go.Proofs.Ytldkhdoboieibaa.draw.sz
open nd lcg draw
set_option linter.unusedVariables false

/-- A node's texts are short. -/
def Sh (t : Nd) : Prop := t.s.size ≤ 16 ∧ t.t.size ≤ 16
/-- The same numbers; of a tree this alone: are all texts short? -/
def szG (zs : List Int) : Gen St Bool := ⟨(exactG zs).bl, fun n l => decide (n.s.size ≤ 16) && decide (n.t.size ≤ 16) && l.all id⟩
theorem go_str : ∀ (ps : List (List Nd)) (out : List Nd) (ks : List Int), (∀ q ∈ ps, ∀ t ∈ q, Sh t) → (∀ t ∈ out, Sh t) → ∀ t ∈ (makeGo ps out ks).1, Sh t := by
  intro ps
  induction ps with
  | nil => intro out ks _ h; exact h
  | cons q ps ih =>
    intro out ks h1 h2
    refine ih _ _ (fun q' hq => h1 q' (List.mem_cons_of_mem _ hq)) ?_
    intro t ht
    rcases List.mem_append.1 ht with ht | ht
    · exact h2 t ht
    · obtain ⟨t', ht', rfl⟩ := List.mem_map.1 ht
      exact h1 q (List.mem_cons_self ..) t' ht'
theorem all2_sh {l : List (List Nd)} {k : List Bool} (h : All2 (fun q b => b = true → ∀ t ∈ q, Sh t) l k) : k.all id = true → ∀ q ∈ l, ∀ t ∈ q, Sh t := by
  induction h with
  | nil => intro _ q hq; cases hq
  | cons h1 _ ih =>
    intro hk q hq
    simp only [List.all_cons, Bool.and_eq_true, id] at hk
    rcases List.mem_cons.1 hq with e | hq
    · rw [e]; exact h1 hk.1
    · exact ih hk.2 q hq
theorem exact_sz (zs : List Int) : Step (exactG zs) (szG zs) (fun s u => s = u) (fun q b => b = true → ∀ t ∈ q, Sh t) := by
  refine ⟨fun n s u h0 h1 h => by subst h; exact ⟨rfl, rfl⟩, fun n l k h hb t ht => ?_⟩
  have hb' : (decide (n.s.size ≤ 16) && decide (n.t.size ≤ 16) && k.all id) = true := hb
  simp only [Bool.and_eq_true, decide_eq_true_eq] at hb'
  have ht' : t ∈ (makeGo l [] []).1 ++ [{ n with kids := (makeGo l [] []).2 }] := ht
  rcases List.mem_append.1 ht' with ht | ht
  · exact go_str l [] [] (all2_sh h hb'.2) (fun t ht => by cases ht) t ht
  · rw [List.mem_singleton] at ht
    subst ht
    exact hb'.1
/-! ### They always are -/
def Tr1 (E : St → Bool × St) : Prop := ∀ s, (E s).1 = true
def Nd1 (g : Gen St Bool) : Prop := ∀ n l, n.s.size ≤ 16 → n.t.size ≤ 16 → l.all id = true → g.nd n l = true
theorem ndO {g : Gen St Bool} (H : Nd1 g) {k o : Int} {l : List Bool} (h : l.all id = true) : g.nd (nodeO k o) l = true := H _ _ (Nat.zero_le _) (Nat.zero_le _) h
theorem pk_sz {L : List ByteArray} (hL : L.all (fun x => decide (x.size ≤ 16)) = true) (g : Gen St Bool) (s : St) : (pkG g L s).1.size ≤ 16 := by
  show (L.getD _ _).size ≤ 16
  rw [List.getD_eq_getElem?_getD]
  cases e : L[(g.bl L.length s).1]? with
  | none => exact Nat.zero_le _
  | some x =>
    have := List.all_eq_true.1 hL x (List.mem_of_getElem? e)
    exact of_decide_eq_true this
theorem ndS {g : Gen St Bool} (H : Nd1 g) {k : Int} {L : List ByteArray} {s : St} {l : List Bool} (hL : L.all (fun x => decide (x.size ≤ 16)) = true) (h : l.all id = true) : g.nd (nodeS k (pkG g L s).1) l = true := H _ _ (pk_sz hL _ _) (Nat.zero_le _) h
theorem times1 {E : St → Bool × St} (h : Tr1 E) : ∀ n s, (timesG E n s).1.all id = true := by
  intro n
  induction n with
  | zero => intro s; rfl
  | succ n ih => intro s; simp only [timesG, List.all_cons, Bool.and_eq_true]; exact ⟨h s, ih _⟩
theorem list1 {g : Gen St Bool} {E : St → Bool × St} (h : Tr1 E) (a b : Nat) (s : St) : (listG g E a b s).1.all id = true := times1 h _ _
theorem one1 {b : Bool} (h : b = true) : [b].all id = true := by simp [h]
theorem two1 {b c : Bool} (h : b = true) (h2 : c = true) : [b, c].all id = true := by simp [h, h2]
theorem three1 {b c d : Bool} (h : b = true) (h2 : c = true) (h3 : d = true) : [b, c, d].all id = true := by simp [h, h2, h3]
theorem word1 {g : Gen St Bool} (H : Nd1 g) : Tr1 (wordG g) := fun s => ndS H (by decide) rfl
theorem leaf1 {g : Gen St Bool} (H : Nd1 g) : Tr1 (leafG g) := by
  intro s
  unfold leafG
  dsimp only
  generalize (g.bl 7 s).1 = b
  rcases b with _ | _ | _ | b
  all_goals try dsimp only
  · exact ndS H (by decide) rfl
  · exact ndS H (by decide) rfl
  · show (if (g.bl 2 (g.bl 7 s).2).1 = 0 then _ else _ : Bool × St).1 = true
    split
    · exact ndS H (by decide) rfl
    · exact word1 H _
  · exact word1 H _
section
variable {g : Gen St Bool} (H : Nd1 g) {E1 E2 E3 : St → Bool × St} (h1 : Tr1 E1) (h2 : Tr1 E2) (h3 : Tr1 E3)
include H h1 h2
theorem lval1 : Tr1 (lvalG g E1 E2) := by
  intro s
  unfold lvalG
  dsimp only
  generalize (g.bl 4 s).1 = b
  rcases b with _ | _ | b
  all_goals try dsimp only
  · exact ndS H (by decide) (one1 (h1 _))
  · exact ndO H (one1 (h2 _))
  · exact word1 H _
include h3
theorem step1 : Tr1 (stepG g E1 E2 E3) := by
  intro s
  unfold stepG
  dsimp only
  generalize (g.bl 2 s).1 = i
  generalize (g.bl 16 (g.bl 2 s).2).1 = b
  rcases b with _ | _ | _ | _ | _ | _ | _ | _ | _ | _ | _ | _ | b
  all_goals try dsimp only
  · exact leaf1 H _
  · exact lval1 H h1 h2 _
  · exact ndO H (one1 (h1 _))
  · exact ndS H (by decide) (list1 h1 _ _ _)
  · exact ndS H (by decide) (list1 h2 _ _ _)
  · exact ndO H (one1 (lval1 H h2 h3 _))
  · exact ndO H (one1 (lval1 H h2 h3 _))
  · exact ndO H (one1 (h1 _))
  · exact ndO H (one1 (h1 _))
  · exact ndS H (by decide) (list1 h1 _ _ _)
  · exact ndO H (three1 (h1 _) (h1 _) (h1 _))
  · exact ndO H (two1 (lval1 H h2 h3 _) (h1 _))
  · exact ndO H (two1 (h1 _) (h1 _))
end
theorem exprs1 {g : Gen St Bool} (H : Nd1 g) : ∀ d, Tr1 (exprs g d).1 ∧ Tr1 (exprs g d).2.1 ∧ Tr1 (exprs g d).2.2 := by
  intro d
  induction d with
  | zero => exact ⟨leaf1 H, leaf1 H, leaf1 H⟩
  | succ d ih => exact ⟨step1 H ih.1 ih.2.1 ih.2.2, ih.1, ih.2.1⟩
theorem expr1 {g : Gen St Bool} (H : Nd1 g) (d : Nat) : Tr1 (exprG g d) := (exprs1 H d).1
section
variable {g : Gen St Bool} (H : Nd1 g) {A B C : St → Bool × St} (ha : Tr1 A) (hb : Tr1 B) (hc : Tr1 C)
include H ha
theorem maybe1 : Tr1 (maybeG g A) := by
  intro s
  unfold maybeG
  split
  · exact ndO H rfl
  · exact ha _
theorem block1 : Tr1 (blockG g A) := fun s => ndO H (times1 ha _ _)
include hb
theorem simple1 : Tr1 (simpleG g A B) := by
  intro s
  have pr : ∀ u, ((fun (u : St) =>
    let o := g.bl 2 u
    let l := listG g A o.1 3 o.2
    let c := g.bl 3 l.2
    if c.1 = 0 then
      let x := pkG g l7OutL c.2
      let e := B x.2
      (g.nd ⟨21, (o.1 : Int), ⟨#[]⟩, x.1, []⟩ (l.1 ++ [e.1]), e.2)
    else (g.nd (nodeO 21 (o.1 : Int)) l.1, c.2)) u).1 = true := by
    intro u
    dsimp only
    split
    · exact H _ _ (Nat.zero_le _) (pk_sz (by decide) _ _) (by simp only [List.all_append, Bool.and_eq_true]; exact ⟨list1 ha _ _ _, one1 (hb _)⟩)
    · exact ndO H (list1 ha _ _ _)
  unfold simpleG
  dsimp only
  generalize (g.bl 9 s).1 = b
  rcases b with _ | _ | _ | _ | _ | _ | b
  all_goals try dsimp only
  · exact pr _
  · exact pr _
  · exact ndO H rfl
  · exact ndO H (list1 ha _ _ _)
  · exact ndS H (by decide) (list1 hb _ _ _)
  · show (if (g.bl 2 _).1 = 0 then _ else _ : Bool × St).1 = true
    split
    · exact ndS H (by decide) rfl
    · exact ndO H (one1 (ha _))
  · exact ndO H (one1 (ha _))
include hc
theorem comp1 : Tr1 (compG g A B C) := by
  intro s
  unfold compG
  dsimp only
  generalize (g.bl 6 s).1 = b
  rcases b with _ | _ | _ | _ | _ | b
  all_goals try dsimp only
  · exact ndO H (two1 (ha _) (hc _))
  · exact ndO H (three1 (ha _) (hc _) (hc _))
  · exact ndO H (two1 (ha _) (hc _))
  · exact ndO H (two1 (hc _) (ha _))
  · refine ndO H ?_
    simp only [List.all_cons, List.all_nil, Bool.and_eq_true, id]
    exact ⟨maybe1 H hb _, maybe1 H ha _, maybe1 H ha _, hc _, trivial⟩
  · show (if (g.bl 2 _).1 = 0 then _ else _ : Bool × St).1 = true
    split
    · exact hc _
    · exact H _ _ (pk_sz (by decide) _ _) (pk_sz (by decide) _ _) (one1 (hc _))
end
theorem stmt1 {g : Gen St Bool} (H : Nd1 g) : ∀ d, Tr1 (stmtG g d) := by
  intro d
  induction d with
  | zero => exact simple1 H (expr1 H 0) (expr1 H 0)
  | succ d ih =>
    intro s
    unfold stmtG
    split
    · exact comp1 H (expr1 H 1) (expr1 H 2) (block1 H ih) _
    · exact simple1 H (expr1 H _) (expr1 H _) _
theorem item1 {g : Gen St Bool} (H : Nd1 g) : Tr1 (itemG g) := by
  intro s
  unfold itemG
  dsimp only
  have hB : Tr1 (blockG g (stmtG g (1 + (g.bl 2 s).1))) := block1 H (stmt1 H _)
  have hE : Tr1 (exprG g (1 + (g.bl 2 s).1)) := expr1 H _
  have h1 : Tr1 (exprG g 1) := expr1 H 1
  generalize blockG g (stmtG g (1 + (g.bl 2 s).1)) = Bk at hB ⊢
  generalize exprG g (1 + (g.bl 2 s).1) = E at hE ⊢
  generalize (g.bl 8 (g.bl 2 s).2).1 = b
  rcases b with _ | _ | _ | _ | _ | _ | _ | b
  all_goals try dsimp only
  · exact ndO H (one1 (hB _))
  · exact ndO H (one1 (hE _))
  · exact ndO H (one1 (hB _))
  · exact ndO H (two1 (h1 _) (h1 _))
  · exact ndO H (three1 (h1 _) (h1 _) (hB _))
  · exact ndS H (by decide) (by simp only [List.all_append, Bool.and_eq_true]; exact ⟨times1 (word1 H) _ _, one1 (hB _)⟩)
  · exact ndS H (by decide) rfl
  · exact ndO H (two1 (hE _) (hB _))
theorem prog1 {g : Gen St Bool} (H : Nd1 g) : Tr1 (progG g) := fun s => ndO H (times1 (item1 H) _ _)
/-! ### So of the exact trees -/
theorem nd_sz (zs : List Int) : Nd1 (szG zs) := by
  intro n l h1 h2 h
  show (decide (n.s.size ≤ 16) && decide (n.t.size ≤ 16) && l.all id) = true
  rw [h, decide_eq_true h1, decide_eq_true h2]
  rfl
theorem expr_str (zs : List Int) (d : Nat) (s : St) : ∀ t ∈ (exprG (exactG zs) d s).1, Sh t := ((exact_sz zs).expr d s s rfl).1 (expr1 (nd_sz zs) d s)
theorem stmt_str (zs : List Int) (d : Nat) (s : St) : ∀ t ∈ (stmtG (exactG zs) d s).1, Sh t := ((exact_sz zs).stmt d s s rfl).1 (stmt1 (nd_sz zs) d s)
theorem item_str (zs : List Int) (s : St) : ∀ t ∈ (itemG (exactG zs) s).1, Sh t := ((exact_sz zs).item s s rfl).1 (item1 (nd_sz zs) s)
theorem prog_str (zs : List Int) (s : St) : ∀ t ∈ (progG (exactG zs) s).1, Sh t := ((exact_sz zs).prog s s rfl).1 (prog1 (nd_sz zs) s)
end Go.Proofs.Ytldkhdoboieibaa.draw.sz
