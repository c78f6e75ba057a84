/-
  The verifier's drawing functions of trees (chapter 7), as plain functions over any source of numbers and any way to put parts together; two of them in step.
-/
import Derived.Test.YtldkhdoboieibaaPickS
namespace Go.Proofs.Ytldkhdoboieibaa.draw
open nd
set_option linter.unusedVariables false

/-- A source of numbers below a bound, and a node over parts. -/
structure Gen (σ T : Type) where
  bl : Nat → σ → Nat × σ
  nd : Nd → List T → T
section
variable {σ T : Type} (g : Gen σ T)
def pkG (L : List ByteArray) (s : σ) : ByteArray × σ := (L.getD (g.bl L.length s).1 ⟨#[]⟩, (g.bl L.length s).2)
def piG (L : List Int) (s : σ) : Int × σ := (L.getD (g.bl L.length s).1 0, (g.bl L.length s).2)
def nodeS (k : Int) (x : ByteArray) : Nd := ⟨k, 0, x, ⟨#[]⟩, []⟩
def nodeO (k o : Int) : Nd := ⟨k, o, ⟨#[]⟩, ⟨#[]⟩, []⟩
def wordG (s : σ) : T × σ := (g.nd (nodeS 1 (pkG g l2WordL s).1) [], (pkG g l2WordL s).2)
def leafG (s : σ) : T × σ :=
  let b := g.bl 7 s
  match b.1 with
  | 0 => (g.nd (nodeS 2 (pkG g l4NumL b.2).1) [], (pkG g l4NumL b.2).2)
  | 1 => (g.nd (nodeS 3 (pkG g l4StrL b.2).1) [], (pkG g l4StrL b.2).2)
  | 2 => if (g.bl 2 b.2).1 = 0 then (g.nd (nodeS 4 (pkG g l4EreL (g.bl 2 b.2).2).1) [], (pkG g l4EreL (g.bl 2 b.2).2).2) else wordG g (g.bl 2 b.2).2
  | _ => wordG g b.2
def timesG {T : Type} (E : σ → T × σ) : Nat → σ → List T × σ
  | 0, s => ([], s)
  | n + 1, s => ((E s).1 :: (timesG E n (E s).2).1, (timesG E n (E s).2).2)
def listG {T : Type} (g : Gen σ T) (E : σ → T × σ) (least most : Nat) (s : σ) : List T × σ := timesG E (least + (g.bl (most - least + 1) s).1) (g.bl (most - least + 1) s).2
def lvalG (E1 E2 : σ → T × σ) (s : σ) : T × σ :=
  let b := g.bl 4 s
  match b.1 with
  | 0 => (g.nd (nodeS 5 (pkG g l2WordL b.2).1) [(E1 (pkG g l2WordL b.2).2).1], (E1 (pkG g l2WordL b.2).2).2)
  | 1 => (g.nd (nodeO 6 0) [(E2 b.2).1], (E2 b.2).2)
  | _ => wordG g b.2
def l7FnL : List ByteArray := [⟨#[108, 101, 110, 103, 116, 104]⟩, ⟨#[115, 117, 98, 115, 116, 114]⟩, ⟨#[105, 110, 100, 101, 120]⟩, ⟨#[105, 110, 116]⟩, ⟨#[116, 111, 117, 112, 112, 101, 114]⟩]
def l7BinL : List Int := [60, 57, 58, 59, 55, 56, 56, 99, 99, 99, 63, 48, 47, 50, 62, 62, 49, 67, 46, 45, 44]
def stepG (E1 E2 E3 : σ → T × σ) (s : σ) : T × σ :=
  let i := g.bl 2 s
  let b := g.bl 16 i.2
  match b.1 with
  | 0 => leafG g b.2
  | 1 => lvalG g E1 E2 b.2
  | 2 => (g.nd (nodeO 6 0) [(E1 b.2).1], (E1 b.2).2)
  | 3 => let x := pkG g l2WordL b.2; let l := listG g E1 0 3 x.2; (g.nd (nodeS 7 x.1) l.1, l.2)
  | 4 => let x := pkG g l7FnL b.2; let l := listG g E2 0 3 x.2; (g.nd (nodeS 8 x.1) l.1, l.2)
  | 5 => let v := lvalG g E2 E3 b.2; (g.nd (nodeO 9 (51 + (i.1 : Int))) [v.1], v.2)
  | 6 => let v := lvalG g E2 E3 b.2; (g.nd (nodeO 10 (51 + (i.1 : Int))) [v.1], v.2)
  | 7 => let o := piG g [56, 55, 61] b.2; let e := E1 o.2; (g.nd (nodeO 11 o.1) [e.1], e.2)
  | 8 => let o := piG g [56, 55, 61] b.2; let e := E1 o.2; (g.nd (nodeO 11 o.1) [e.1], e.2)
  | 9 => let x := pkG g l2WordL b.2; let l := listG g E1 1 2 x.2; (g.nd (nodeS 13 x.1) l.1, l.2)
  | 10 => let e := E1 b.2; let e2 := E1 e.2; let e3 := E1 e2.2; (g.nd (nodeO 14 0) [e.1, e2.1, e3.1], e3.2)
  | 11 => let o := piG g [54, 38, 43] b.2; let v := lvalG g E2 E3 o.2; let e := E1 v.2; (g.nd (nodeO 15 o.1) [v.1, e.1], e.2)
  | _ => let o := piG g l7BinL b.2; let e := E1 o.2; let e2 := E1 e.2; (g.nd (nodeO 12 o.1) [e.1, e2.1], e2.2)
/-- Expressions of depth d, d - 1 and d - 2. -/
def exprs : Nat → (σ → T × σ) × (σ → T × σ) × (σ → T × σ)
  | 0 => (leafG g, leafG g, leafG g)
  | d + 1 => (stepG g (exprs d).1 (exprs d).2.1 (exprs d).2.2, (exprs d).1, (exprs d).2.1)
def exprG (d : Nat) (s : σ) : T × σ := (exprs g d).1 s
def maybeG (E : σ → T × σ) (s : σ) : T × σ := if (g.bl 3 s).1 = 0 then (g.nd (nodeO 16 0) [], (g.bl 3 s).2) else E (g.bl 3 s).2
def l7OutL : List ByteArray := [⟨#[62]⟩, ⟨#[62, 62]⟩, ⟨#[124]⟩]
def l7NoteL : List ByteArray := [⟨#[35]⟩, ⟨#[35, 32, 110, 111, 116, 101]⟩, ⟨#[35, 120, 32, 61, 32, 49]⟩]
def simpleG (E0 E1 : σ → T × σ) (s : σ) : T × σ :=
  let b := g.bl 9 s
  let pr := fun (u : σ) =>
    let o := g.bl 2 u
    let l := listG g E0 o.1 3 o.2
    let c := g.bl 3 l.2
    if c.1 = 0 then
      let x := pkG g l7OutL c.2
      let e := E1 x.2
      (g.nd ⟨21, (o.1 : Int), ⟨#[]⟩, x.1, []⟩ (l.1 ++ [e.1]), e.2)
    else (g.nd (nodeO 21 (o.1 : Int)) l.1, c.2)
  match b.1 with
  | 0 => pr b.2
  | 1 => pr b.2
  | 2 => let o := piG g [22, 25, 26] b.2; (g.nd (nodeO o.1 0) [], o.2)
  | 3 => let o := piG g [23, 24] b.2; let l := listG g E0 0 1 o.2; (g.nd (nodeO o.1 0) l.1, l.2)
  | 4 => let x := pkG g l2WordL b.2; let l := listG g E1 0 2 x.2; (g.nd (nodeS 27 x.1) l.1, l.2)
  | 5 => if (g.bl 2 b.2).1 = 0 then (let x := pkG g l7NoteL (g.bl 2 b.2).2; (g.nd (nodeS 34 x.1) [], x.2)) else (let e := E0 (g.bl 2 b.2).2; (g.nd (nodeO 20 0) [e.1], e.2))
  | _ => let e := E0 b.2; (g.nd (nodeO 20 0) [e.1], e.2)
def blockG (S : σ → T × σ) (s : σ) : T × σ := (g.nd (nodeO 33 0) (timesG S (g.bl 3 s).1 (g.bl 3 s).2).1, (timesG S (g.bl 3 s).1 (g.bl 3 s).2).2)
def compG (A1 A2 B : σ → T × σ) (s : σ) : T × σ :=
  let b := g.bl 6 s
  match b.1 with
  | 0 => let e := A1 b.2; let k := B e.2; (g.nd (nodeO 28 0) [e.1, k.1], k.2)
  | 1 => let e := A1 b.2; let k := B e.2; let j := B k.2; (g.nd (nodeO 28 0) [e.1, k.1, j.1], j.2)
  | 2 => let e := A1 b.2; let k := B e.2; (g.nd (nodeO 29 0) [e.1, k.1], k.2)
  | 3 => let k := B b.2; let e := A1 k.2; (g.nd (nodeO 30 0) [k.1, e.1], e.2)
  | 4 => let x := maybeG g A2 b.2; let y := maybeG g A1 x.2; let z := maybeG g A1 y.2; let k := B z.2; (g.nd (nodeO 31 0) [x.1, y.1, z.1, k.1], k.2)
  | _ => if (g.bl 2 b.2).1 = 0 then B (g.bl 2 b.2).2 else (let x := pkG g l2WordL (g.bl 2 b.2).2; let y := pkG g l2WordL x.2; let k := B y.2; (g.nd ⟨32, 0, x.1, y.1, []⟩ [k.1], k.2))
def stmtG : Nat → σ → T × σ
  | 0, s => simpleG g (exprG g 0) (exprG g 0) s
  | d + 1, s => if (g.bl 3 s).1 = 0 then compG g (exprG g 1) (exprG g 2) (blockG g (stmtG d)) (g.bl 3 s).2 else simpleG g (exprG g (min (d + 1) 2)) (exprG g (min (d + 1) 2 - 1)) (g.bl 3 s).2
def l7NameL : List ByteArray := [⟨#[102]⟩, ⟨#[103]⟩, ⟨#[109, 97, 120]⟩]
def l7TopL : List ByteArray := [⟨#[35, 32, 116, 111, 112]⟩, ⟨#[35]⟩]
def itemG (s : σ) : T × σ :=
  let d := 1 + (g.bl 2 s).1
  let b := g.bl 8 (g.bl 2 s).2
  let E := exprG g d
  let B := blockG g (stmtG g d)
  match b.1 with
  | 0 => let o := g.bl 2 b.2; let k := B o.2; (g.nd (nodeO (40 + (o.1 : Int)) 0) [k.1], k.2)
  | 1 => let e := E b.2; (g.nd (nodeO 42 1) [e.1], e.2)
  | 2 => let k := B b.2; (g.nd (nodeO 42 2) [k.1], k.2)
  | 3 => let e := exprG g 1 b.2; let f := exprG g 1 e.2; (g.nd (nodeO 43 1) [e.1, f.1], f.2)
  | 4 => let e := exprG g 1 b.2; let f := exprG g 1 e.2; let k := B f.2; (g.nd (nodeO 43 3) [e.1, f.1, k.1], k.2)
  | 5 => let n := g.bl 3 b.2; let l := timesG (wordG g) n.1 n.2; let x := pkG g l7NameL l.2; let k := B x.2; (g.nd (nodeS 44 x.1) (l.1 ++ [k.1]), k.2)
  | 6 => let x := pkG g l7TopL b.2; (g.nd (nodeS 34 x.1) [], x.2)
  | _ => let e := E b.2; let k := B e.2; (g.nd (nodeO 42 3) [e.1, k.1], k.2)
/-- One round of the loops. -/
def progG (s : σ) : T × σ := (g.nd (nodeO 45 0) (timesG (itemG g) (g.bl 4 s).1 (g.bl 4 s).2).1, (timesG (itemG g) (g.bl 4 s).1 (g.bl 4 s).2).2)
def someG (s : σ) : T × σ := exprG g (1 + (g.bl 4 s).1) (g.bl 4 s).2
end

/-! ### Two in step -/
section
variable {σ T σ' T' : Type} {g : Gen σ T} {g' : Gen σ' T'} {R : σ → σ' → Prop} {Q : T → T' → Prop}
def InStep (R : σ → σ' → Prop) (Q : T → T' → Prop) (x : T × σ) (y : T' × σ') : Prop := Q x.1 y.1 ∧ R x.2 y.2
inductive All2 (Q : T → T' → Prop) : List T → List T' → Prop
  | nil : All2 Q [] []
  | cons {a b l k} : Q a b → All2 Q l k → All2 Q (a :: l) (b :: k)
theorem All2.snoc {l : List T} {k : List T'} (h : All2 Q l k) {a : T} {b : T'} (hq : Q a b) : All2 Q (l ++ [a]) (k ++ [b]) := by
  induction h with
  | nil => exact .cons hq .nil
  | cons h1 _ ih => exact .cons h1 ih
def Fn (R : σ → σ' → Prop) (Q : T → T' → Prop) (E : σ → T × σ) (E' : σ' → T' × σ') : Prop := ∀ s u, R s u → InStep R Q (E s) (E' u)
structure Step (g : Gen σ T) (g' : Gen σ' T') (R : σ → σ' → Prop) (Q : T → T' → Prop) : Prop where
  bl : ∀ n s u, 0 < n → n ≤ 256 → R s u → (g.bl n s).1 = (g'.bl n u).1 ∧ R (g.bl n s).2 (g'.bl n u).2
  nd : ∀ n l k, All2 Q l k → Q (g.nd n l) (g'.nd n k)
variable (H : Step g g' R Q)
include H
theorem Step.pk {L : List ByteArray} (h0 : 0 < L.length) (h1 : L.length ≤ 256) {s : σ} {u : σ'} (h : R s u) : (pkG g L s).1 = (pkG g' L u).1 ∧ R (pkG g L s).2 (pkG g' L u).2 := by
  obtain ⟨e, r⟩ := H.bl _ s u h0 h1 h
  exact ⟨by unfold pkG; rw [e], r⟩
theorem Step.pi {L : List Int} (h0 : 0 < L.length) (h1 : L.length ≤ 256) {s : σ} {u : σ'} (h : R s u) : (piG g L s).1 = (piG g' L u).1 ∧ R (piG g L s).2 (piG g' L u).2 := by
  obtain ⟨e, r⟩ := H.bl _ s u h0 h1 h
  exact ⟨by unfold piG; rw [e], r⟩
theorem Step.word : Fn R Q (wordG g) (wordG g') := by
  intro s u h
  obtain ⟨e, r⟩ := H.pk (L := l2WordL) (by decide) (by decide) h
  unfold wordG
  rw [e]
  exact ⟨H.nd _ _ _ .nil, r⟩
omit H in
theorem times_two {E : σ → T × σ} {E' : σ' → T' × σ'} (hE : Fn R Q E E') : ∀ n s u, R s u → All2 Q (timesG E n s).1 (timesG E' n u).1 ∧ R (timesG E n s).2 (timesG E' n u).2 := by
  intro n
  induction n with
  | zero => intro s u h; exact ⟨.nil, h⟩
  | succ n ih =>
    intro s u h
    obtain ⟨q, r⟩ := hE s u h
    obtain ⟨q2, r2⟩ := ih _ _ r
    exact ⟨.cons q q2, r2⟩
theorem Step.list {E : σ → T × σ} {E' : σ' → T' × σ'} (hE : Fn R Q E E') (least most : Nat) (hm : most ≤ 200) {s : σ} {u : σ'} (h : R s u) : All2 Q (listG g E least most s).1 (listG g' E' least most u).1 ∧ R (listG g E least most s).2 (listG g' E' least most u).2 := by
  obtain ⟨e, r⟩ := H.bl (most - least + 1) s u (by omega) (by omega) h
  unfold listG
  rw [e]
  exact times_two hE _ _ _ r
end
end Go.Proofs.Ytldkhdoboieibaa.draw
