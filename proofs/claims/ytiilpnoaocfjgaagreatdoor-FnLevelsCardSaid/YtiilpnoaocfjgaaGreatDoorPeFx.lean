/-
  impl's exprParser: boxes of a call's own, carried over the calls that it makes ('Mb', 'Fx').
-/
import Derived.Test.YtiilpnoaocfjgaaGreatDoorPeMeth
namespace Go.Proofs.YtiilpnoaocfjgaaGreatDoor.pr
open Go.ChangeShapes Go.WideShapes Go.ChangeAt Go.RowKit
open tk (Tk)
open nd (Nd PT KidV IBlk OwnI shN makeT)
open ps (Ps B5 posOk kidI top)
open pe
set_option linter.unusedVariables false
set_option linter.unusedSimpArgs false
set_option maxRecDepth 20000

/-- A box of a call's own. -/
structure Mb (X : Nat → Prop) (b g : Nat) (c : Array Value) (ty : TypeId) (v : Value) (z : List (Nd × Value)) (r : Nat → Nat) (w : World) : Prop where
  bk : Bk g c ty w
  x : ¬ X g
  b : b < g
  o : some g ≠ v.ownBlock
  r : ∀ j, j < z.length → r j ≠ g
section
variable {X : Nat → Prop} {b g k : Nat} {c : Array Value} {ty : TypeId} {v v' : Value} {z z' : List (Nd × Value)} {r r' : Nat → Nat} {w w' : World}
theorem Mb.ext (h : Mb X b g c ty v z r w) (e : Ext X v z r w v' z' r' w') : Mb X b g c ty v' z' r' w' := by
  refine ⟨h.bk.on e.g h.x h.o, h.x, h.b, e.g.ne h.bk.lt h.o, fun j hj => ?_⟩
  rcases Nat.lt_or_ge j z.length with h1 | h1
  · rw [e.old j h1]; exact h.r j h1
  · rcases e.new j h1 hj with h2 | h2
    · have := h.bk.lt; omega
    · exact fun e => h.x (e ▸ h2)
theorem Mb.oth (h : Mb X b g c ty v z r w) (hne : g ≠ k) (j : Nat) (u : Value) : Mb X b g c ty v z r (w.setCell ⟨k, j, none⟩ u) := ⟨h.bk.oth hne j u, h.x, h.b, h.o, h.r⟩
theorem Mb.set (h : Mb X b g c ty v z r w) (j : Nat) (u : Value) : Mb X b g (c.setIfInBounds j u) ty v z r (w.setCell ⟨g, j, none⟩ u) := ⟨h.bk.set j u, h.x, h.b, h.o, h.r⟩
theorem Mb.drewN (h : Mb X b g c ty v z r w) (m : Nat) : Mb X b g c ty v z r (w.drewN m) := ⟨h.bk, h.x, h.b, h.o, h.r⟩
end
theorem St.mset {w0 : World} {X : Nat → Prop} {a : Option Addr} {n cap i : Nat} {v : Value} {z : List (Nd × Value)} {r : Nat → Nat} {w : World} {g : Nat} {c : Array Value} {ty : TypeId} (h : St w0 a n cap i v z r w) (m : Mb X w0.heap.size g c ty v z r w) (j : Nat) (u : Value) : St w0 a n cap i v z r (w.setCell ⟨g, j, none⟩ u) :=
  h.oset (by have := m.b; omega) m.o m.r (Nat.le_of_lt m.b) j u
theorem Res.fin {w0 : World} {a : Option Addr} {n cap : Nat} {zb : List Nd} {X : Nat → Prop} {v v1 : Value} {z z1 : List (Nd × Value)} {r r1 : Nat → Nat} {w w1 : World} {R : R} {e : Ending} {w' : World} {g : Nat} {c : Array Value} {ty : TypeId} (h : Res w0 a n cap zb X v1 z1 r1 w1 R e w') (G : Ext X v z r w v1 z1 r1 w1) (m : Mb X w0.heap.size g c ty v1 z1 r1 w1) (hg : w.heap.size ≤ g) (y0 y1 : Value) : Res w0 a n cap zb X v z r w R e ((w'.setCell ⟨g, 0, none⟩ y0).setCell ⟨g, 1, none⟩ y1) :=
  h.done G hg m.bk.lt m.x m.o m.r m.b y0 y1
/-- The parser and the boxes: a node's, a position's (or another), the result's. -/
structure Fx (w0 : World) (a : Option Addr) (n cap : Nat) (X : Nat → Prop) (gN : Nat) (cN : Array Value) (gP : Nat) (cP : Array Value) (gR : Nat) (v0 : Value) (z0 : List (Nd × Value)) (r0 : Nat → Nat) (ws : World) (i : Nat) (v : Value) (z : List (Nd × Value)) (r : Nat → Nat) (w : World) : Prop where
  st : St w0 a n cap i v z r w
  tot : Ext X v0 z0 r0 ws v z r w
  nb : Mb X w0.heap.size gN cN 60 v z r w
  pb : Mb X w0.heap.size gP cP 26 v z r w
  rb : Mb X w0.heap.size gR #[.int .i64 0, .bool false] 87 v z r w
  ge : ws.heap.size ≤ gR
section
variable {w0 : World} {a : Option Addr} {n cap : Nat} {X : Nat → Prop} {gN : Nat} {cN : Array Value} {gP : Nat} {cP : Array Value} {gR : Nat} {v0 : Value} {z0 : List (Nd × Value)} {r0 : Nat → Nat} {ws : World} {i i' : Nat} {v v' : Value} {z z' : List (Nd × Value)} {r r' : Nat → Nat} {w w' : World}
theorem Fx.go (h : Fx w0 a n cap X gN cN gP cP gR v0 z0 r0 ws i v z r w) (s : St w0 a n cap i' v' z' r' w') (e : Ext X v z r w v' z' r' w') : Fx w0 a n cap X gN cN gP cP gR v0 z0 r0 ws i' v' z' r' w' :=
  ⟨s, h.tot.trans e, h.nb.ext e, h.pb.ext e, h.rb.ext e, h.ge⟩
theorem Fx.quiet (h : Fx w0 a n cap X gN cN gP cP gR v0 z0 r0 ws i v z r w) (b : Below w.heap.size w w') : Fx w0 a n cap X gN cN gP cP gR v0 z0 r0 ws i v z r w' :=
  h.go (h.st.keep b) (Ext.of (Gr.quiet b))
theorem Fx.take (h : Fx w0 a n cap X gN cN gP cP gR v0 z0 r0 ws i v z r w) (hX : X w0.heap.size) (s : St w0 a n cap i' v z r w') (e : Gr (X0 w0.heap.size) v v w w') : Fx w0 a n cap X gN cN gP cP gR v0 z0 r0 ws i' v z r w' :=
  h.go s (Ext.of (e.wide (fun k _ hk => by rw [show k = w0.heap.size from hk]; exact hX)))
theorem Fx.at (h : Fx w0 a n cap X gN cN gP cP gR v0 z0 r0 ws i v z r w) (hX : X w0.heap.size) : Fx w0 a n cap X gN cN gP cP gR v0 z0 r0 ws (i + 1) v z r (w.setCell ⟨w0.heap.size, 1, none⟩ (.int .i64 ((i : Int) + 1))) := by
  have s := h.st.at (i + 1)
  rw [show ((i + 1 : Nat) : Int) = (i : Int) + 1 by omega] at s
  exact h.go s (Ext.of (Gr.at hX 1 _))
theorem Fx.bad {e : Ending} {zb : List Nd} (h : Fx w0 a n cap X gN cN gP cP gR v0 z0 r0 ws i v z r w) (y0 y1 : Value) (he : e = .returned (.agg #[.int .i64 0, .bool false])) : Res w0 a n cap zb X v0 z0 r0 ws (.bad i) e ((w.setCell ⟨gR, 0, none⟩ y0).setCell ⟨gR, 1, none⟩ y1) := by
  have h0 : Res w0 a n cap zb X v z r w (.bad i) e w := ⟨he, v, z, r, h.st, Ext.refl _ _ _ _ _, fun _ _ _ _ he => by cases he⟩
  exact h0.fin h.tot h.rb h.ge y0 y1
theorem Fx.res {e : Ending} {zb : List Nd} {R : R} (h : Fx w0 a n cap X gN cN gP cP gR v0 z0 r0 ws i v z r w) (hr : Res w0 a n cap zb X v z r w R e w') (y0 y1 : Value) : Res w0 a n cap zb X v0 z0 r0 ws R e ((w'.setCell ⟨gR, 0, none⟩ y0).setCell ⟨gR, 1, none⟩ y1) := hr.fin h.tot h.rb h.ge y0 y1
theorem Fx.rbk {e : Ending} {zb : List Nd} {R : R} (h : Fx w0 a n cap X gN cN gP cP gR v0 z0 r0 ws i v z r w) (hr : Res w0 a n cap zb X v z r w R e w') : Bk gR #[.int .i64 0, .bool false] 87 w' := hr.bk h.rb.bk h.rb.x h.rb.o
/-- The start: three boxes behind the world at the call. -/
theorem Fx.start {w W : World} (hst : St w0 a n cap i v z r w) (hX : ∀ k, X k → k < w.heap.size) (h1 : Bk w.heap.size cN 60 W) (h2 : Bk (w.heap.size + 1) cP 26 W) (h3 : Bk (w.heap.size + 1 + 1) #[.int .i64 0, .bool false] 87 W) (hB : Below w.heap.size w W) : Fx w0 a n cap X w.heap.size cN (w.heap.size + 1) cP (w.heap.size + 1 + 1) v z r w i v z r W := by
  have m : ∀ (g : Nat) (c : Array Value) (ty : TypeId), w.heap.size ≤ g → Bk g c ty W → Mb X w0.heap.size g c ty v z r W := fun g c ty hg hb => ⟨hb, fun h => by have := hX g h; omega, Nat.lt_of_lt_of_le hst.lt hg, hst.new hg, fun j hj => by have := hst.own.lt j hj; omega⟩
  exact ⟨hst.keep hB, Ext.of (Gr.quiet hB), m _ _ _ (Nat.le_refl _) h1, m _ _ _ (by omega) h2, m _ _ _ (by omega) h3, by omega⟩
end
theorem xq_lt {b q s : Nat} (hb : b < s) (hq : q < s) : ∀ k, Xq b q k → k < s := fun k h => by rcases h with rfl | rfl <;> assumption
theorem Rw.ext {b q : Nat} {u : Value} {ks : List Int} {v v' : Value} {z z' : List (Nd × Value)} {r r' : Nat → Nat} {w w' : World} (h : Rw b q u ks v z r w) (e : Ext (X0 b) v z r w v' z' r' w') : Rw b q u ks v' z' r' w' := h.on e
theorem Rw.take {b q : Nat} {u : Value} {ks : List Int} {v : Value} {z : List (Nd × Value)} {r : Nat → Nat} {w w' : World} (h : Rw b q u ks v z r w) (e : Gr (X0 b) v v w w') : Rw b q u ks v z r w' := h.on (Ext.of e)
theorem Rw.at {b q : Nat} {u : Value} {ks : List Int} {v : Value} {z : List (Nd × Value)} {r : Nat → Nat} {w : World} (h : Rw b q u ks v z r w) (j : Nat) (y : Value) : Rw b q u ks v z r (w.setCell ⟨b, j, none⟩ y) := h.on (Ext.of (Gr.set (X := X0 b) (Gr.refl _ _ _) (.inl rfl) j y))
end Go.Proofs.YtiilpnoaocfjgaaGreatDoor.pr
