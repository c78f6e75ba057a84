/-
  The boxes of a law over a node and a position.
-/
import Derived.Test.YtldkhdoboieibaaOpenPs
import Derived.Test.YtldkhdoboieibaaNdEq
import Derived.Test.YtldkhdoboieibaaLevelOf
import Derived.Deep.RegionHeld3
namespace Go.Proofs.Ytldkhdoboieibaa.lb
open Go.ChangeShapes Go.WideShapes Go.ChangeAt Go.RowKit
open nd
set_option linter.unusedVariables false
/-- The two boxes of the arguments. -/
structure Lb (w W : World) (t : Nd) (a : Option Addr) (cap : Nat) (L : Int) (d i g s : Bool) : Prop where
  x : lv.Bx w W t.k t.op t.s t.t (.slice a t.kids.length cap)
  p : ps.Px (w.heap.size + 1) W L d i g s
  xi : Ints W.heap.size W a t.kids
theorem Lb.start (w : World) (t : Nd) (a : Option Addr) (cap : Nat) (L : Int) (d i g s : Bool) (hi : Ints w.heap.size w a t.kids) : Lb w ((w.alloc (.cells #[.int .i64 t.k, .int .i64 t.op, .string t.s, .string t.t, .slice a t.kids.length cap] 40)).alloc (.cells #[.int .i64 L, .bool d, .bool i, .bool g, .bool s] 37)) t a cap L d i g s := by
  have hx := (lv.Bx.start w t.k t.op t.s t.t (.slice a t.kids.length cap) 40).keep (lv.box_below _ (.cells #[.int .i64 L, .bool d, .bool i, .bool g, .bool s] 37))
  refine ⟨hx, ?_, (hi.keep hx.b (Nat.le_refl _)).up hx.b.size⟩
  have h := ps.Px.start (w.alloc (.cells #[.int .i64 t.k, .int .i64 t.op, .string t.s, .string t.t, .slice a t.kids.length cap] 40)) L d i g s 37
  have e : (w.alloc (.cells #[.int .i64 t.k, .int .i64 t.op, .string t.s, .string t.t, .slice a t.kids.length cap] 40)).heap.size = w.heap.size + 1 := by simp
  rw [e] at h
  exact h
theorem Lb.keep {w W : World} {t : Nd} {a : Option Addr} {cap : Nat} {L : Int} {d i g s : Bool} {w1 : World} (h : Lb w W t a cap L d i g s) (hk : Below W.heap.size W w1) : Lb w w1 t a cap L d i g s := ⟨h.x.keep hk, h.p.keep hk, (h.xi.keep hk (Nat.le_refl _)).up hk.size⟩
theorem Lb.drew {w W : World} {t : Nd} {a : Option Addr} {cap : Nat} {L : Int} {d i g s : Bool} (h : Lb w W t a cap L d i g s) : Lb w W.drew t a cap L d i g s := ⟨ps.bx_drew h.x, h.p.drew, h.xi⟩
theorem Lb.cells {w W : World} {t : Nd} {a : Option Addr} {cap : Nat} {L : Int} {d i g s : Bool} (h : Lb w W t a cap L d i g s) : (W.cell? ⟨w.heap.size, 0, none⟩ = some (.int .i64 t.k) ∧ W.cell? ⟨w.heap.size, 1, none⟩ = some (.int .i64 t.op) ∧ W.cell? ⟨w.heap.size, 2, none⟩ = some (.string t.s) ∧ W.cell? ⟨w.heap.size, 3, none⟩ = some (.string t.t) ∧ W.cell? ⟨w.heap.size, 4, none⟩ = some (.slice a t.kids.length cap) ∧ W.cell? ⟨w.heap.size + 1, 0, none⟩ = some (.int .i64 L) ∧ W.cell? ⟨w.heap.size + 1, 1, none⟩ = some (.bool d) ∧ W.cell? ⟨w.heap.size + 1, 2, none⟩ = some (.bool i) ∧ W.cell? ⟨w.heap.size + 1, 3, none⟩ = some (.bool g) ∧ W.cell? ⟨w.heap.size + 1, 4, none⟩ = some (.bool s)) ∧ Lb w W t a cap L d i g s :=
  ⟨⟨h.x.c0, h.x.c1, h.x.c2, h.x.c3, h.x.c4, h.p.c0, h.p.c1, h.p.c2, h.p.c3, h.p.c4⟩, h⟩
/-- And the node's copy. -/
structure Fb (w v W : World) (t : Nd) (a : Option Addr) (cap b : Nat) (L : Int) (d i g s : Bool) : Prop where
  l : Lb w W t a cap L d i g s
  y : lv.Bx v W t.k t.op t.s t.t (.slice (some ⟨b, 0, none⟩) t.kids.length t.kids.length)
  yi : Ints W.heap.size W (some ⟨b, 0, none⟩) t.kids
theorem Fb.keep {w v W : World} {t : Nd} {a : Option Addr} {cap b : Nat} {L : Int} {d i g s : Bool} {w1 : World} (h : Fb w v W t a cap b L d i g s) (hk : Below W.heap.size W w1) : Fb w v w1 t a cap b L d i g s := ⟨h.l.keep hk, h.y.keep hk, (h.yi.keep hk (Nat.le_refl _)).up hk.size⟩
theorem Fb.drew {w v W : World} {t : Nd} {a : Option Addr} {cap b : Nat} {L : Int} {d i g s : Bool} (h : Fb w v W t a cap b L d i g s) : Fb w v W.drew t a cap b L d i g s := ⟨h.l.drew, ps.bx_drew h.y, h.yi⟩
theorem Fb.cells {w v W : World} {t : Nd} {a : Option Addr} {cap b : Nat} {L : Int} {d i g s : Bool} (h : Fb w v W t a cap b L d i g s) : (W.cell? ⟨w.heap.size, 0, none⟩ = some (.int .i64 t.k) ∧ W.cell? ⟨w.heap.size, 1, none⟩ = some (.int .i64 t.op) ∧ W.cell? ⟨w.heap.size, 2, none⟩ = some (.string t.s) ∧ W.cell? ⟨w.heap.size, 3, none⟩ = some (.string t.t) ∧ W.cell? ⟨w.heap.size, 4, none⟩ = some (.slice a t.kids.length cap) ∧ W.cell? ⟨w.heap.size + 1, 0, none⟩ = some (.int .i64 L) ∧ W.cell? ⟨w.heap.size + 1, 1, none⟩ = some (.bool d) ∧ W.cell? ⟨w.heap.size + 1, 2, none⟩ = some (.bool i) ∧ W.cell? ⟨w.heap.size + 1, 3, none⟩ = some (.bool g) ∧ W.cell? ⟨w.heap.size + 1, 4, none⟩ = some (.bool s) ∧ W.cell? ⟨v.heap.size, 0, none⟩ = some (.int .i64 t.k) ∧ W.cell? ⟨v.heap.size, 1, none⟩ = some (.int .i64 t.op) ∧ W.cell? ⟨v.heap.size, 2, none⟩ = some (.string t.s) ∧ W.cell? ⟨v.heap.size, 3, none⟩ = some (.string t.t) ∧ W.cell? ⟨v.heap.size, 4, none⟩ = some (.slice (some ⟨b, 0, none⟩) t.kids.length t.kids.length)) ∧ Fb w v W t a cap b L d i g s :=
  ⟨⟨h.l.x.c0, h.l.x.c1, h.l.x.c2, h.l.x.c3, h.l.x.c4, h.l.p.c0, h.l.p.c1, h.l.p.c2, h.l.p.c3, h.l.p.c4, h.y.c0, h.y.c1, h.y.c2, h.y.c3, h.y.c4⟩, h⟩
theorem on {w W : World} {k op : Int} {s t : ByteArray} {v : Value} {a : Option Addr} {l : List Int} (h : Ints w.heap.size w a l) (x : lv.Bx w W k op s t v) : Ints W.heap.size W a l :=
  (h.keep x.b (Nat.le_refl _)).up x.b.size
end Go.Proofs.Ytldkhdoboieibaa.lb
