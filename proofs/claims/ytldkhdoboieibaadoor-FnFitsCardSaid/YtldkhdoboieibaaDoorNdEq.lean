/-
  Rows of integers, nodes and lists of nodes compared: laws.eqIntS, spec.l6Ints, slices.Equal at []int, laws.eqNode, laws.eqNodeS: contracts ('decide (l = m)').
-/
import Derived.Test.YtldkhdoboieibaaDoorNdTo
import Derived.Lib.QuietBelow
namespace Go.Proofs.YtldkhdoboieibaaDoor.nd
open Go.ChangeShapes Go.WideShapes Go.ChangeAt Go.RowKit
set_option linter.unusedVariables false

theorem eq_facts {x c : Int} (h : x = c) : (x == c) = true ∧ (x != c) = false := by subst h; simp
theorem ne_facts {x c : Int} (h : ¬ x = c) : (x == c) = false ∧ (x != c) = true := by simp [h]
theorem str_eq {x y : ByteArray} (h : x = y) : (x.toList == y.toList) = true ∧ (x.toList != y.toList) = false := by subst h; simp
theorem str_ne {x y : ByteArray} (h : ¬ x = y) : (x.toList == y.toList) = false ∧ (x.toList != y.toList) = true := by
  have : (x.toList == y.toList) = false := by
    rw [beq_eq_false_iff_ne, ByteArray.toList_eq, ByteArray.toList_eq]
    intro e
    exact h (ByteArray.ext (Array.toList_inj.1 e))
  exact ⟨this, by rw [bne, this]; rfl⟩
theorem take_step {α : Type} {l m : List α} {I : Nat} (h : I < l.length) (hlen : l.length = m.length) (ht : l.take I = m.take I) (he : l[I] = m[I]'(hlen ▸ h)) : l.take (I + 1) = m.take (I + 1) := by
  rw [List.take_succ_eq_append_getElem h, List.take_succ_eq_append_getElem (hlen ▸ h), ht, he]
theorem at_ne {α : Type} {l m : List α} {I : Nat} (h : I < l.length) (hlen : l.length = m.length) (he : ¬ l[I] = m[I]'(hlen ▸ h)) : ¬ l = m := by
  intro e; subst e; exact he rfl
theorem take_all {α : Type} {l m : List α} {I : Nat} (h : I = l.length) (hlen : l.length = m.length) (ht : l.take I = m.take I) : l = m := by
  rw [List.take_of_length_le (by omega), List.take_of_length_le (by omega)] at ht
  exact ht
theorem below_two (w : World) (a b : Obj) : Below w.heap.size w ((w.alloc a).alloc b) := ((Below.refl _ _).alloc (Nat.le_refl _) _).alloc (by simp) _

def RelEqI (B : Nat) (W : World) (l m : List Int) (i : Value) (wr : World) : Prop :=
  ∃ I q : Nat, I ≤ l.length ∧ i = .int .i64 (I : Int) ∧ wr = W.drewN q ∧ l.take I = m.take I
theorem drewN_zero (w : World) : w = w.drewN 0 := by cases w; rfl

theorem nd_ne {x y : Nd} (h : ¬ (x.k = y.k ∧ x.op = y.op ∧ x.s = y.s ∧ x.t = y.t ∧ x.kids = y.kids)) : decide (x = y) = false := decide_eq_false (fun e => h (by subst e; exact ⟨rfl, rfl, rfl, rfl, rfl⟩))
theorem nd_eq {x y : Nd} (h : x.k = y.k ∧ x.op = y.op ∧ x.s = y.s ∧ x.t = y.t) : decide (x = y) = decide (x.kids = y.kids) := by
  obtain ⟨k, op, s, t, l⟩ := x
  obtain ⟨k', op', s', t', l'⟩ := y
  obtain ⟨h1, h2, h3, h4⟩ := h
  simp only at h1 h2 h3 h4
  subst h1 h2 h3 h4
  simp
/-! ### Two lists of nodes -/
/-- Two nodes' cells and rows, and nothing below B has turned. -/
structure Two (B : Nat) (w : World) (b o : Nat) (x : Nd) (a : Option Addr) (cap : Nat) (b' o' : Nat) (y : Nd) (a' : Option Addr) (cap' : Nat) (W : World) : Prop where
  x5 : Five W b o x a cap
  y5 : Five W b' o' y a' cap'
  xi : Ints B W a x.kids
  yi : Ints B W a' y.kids
  bel : Below B w W
  le : B ≤ W.heap.size
theorem Two.drew {B : Nat} {w W : World} {b o b' o' : Nat} {x y : Nd} {a a' : Option Addr} {cap cap' : Nat} (h : Two B w b o x a cap b' o' y a' cap' W) : Two B w b o x a cap b' o' y a' cap' W.drew :=
  ⟨h.x5, h.y5, h.xi, h.yi, h.bel.drew, h.le⟩
theorem Two.keep {B : Nat} {w W w1 : World} {b o b' o' : Nat} {x y : Nd} {a a' : Option Addr} {cap cap' : Nat} (hb : b < B) (hb' : b' < B) (h : Two B w b o x a cap b' o' y a' cap' W) (hk : Below W.heap.size W w1) : Two B w b o x a cap b' o' y a' cap' w1 :=
  ⟨h.x5.keep hk (Nat.lt_of_lt_of_le hb h.le), h.y5.keep hk (Nat.lt_of_lt_of_le hb' h.le), h.xi.keep hk h.le, h.yi.keep hk h.le, h.bel.trans (hk.mono h.le), Nat.le_trans h.le hk.size⟩
theorem two_start {B : Nat} {w W : World} {b o b' o' : Nat} {x y : Nd} {a a' : Option Addr} {cap cap' : Nat} (h : Two B w b o x a cap b' o' y a' cap' W) :
    (W.cell? ⟨b, o, none⟩ = some (.int .i64 x.k) ∧ W.cell? ⟨b, o + 1, none⟩ = some (.int .i64 x.op) ∧ W.cell? ⟨b, o + 2, none⟩ = some (.string x.s) ∧ W.cell? ⟨b, o + 3, none⟩ = some (.string x.t) ∧ W.cell? ⟨b, o + 4, none⟩ = some (.slice a x.kids.length cap) ∧ W.cell? ⟨b', o', none⟩ = some (.int .i64 y.k) ∧ W.cell? ⟨b', o' + 1, none⟩ = some (.int .i64 y.op) ∧ W.cell? ⟨b', o' + 2, none⟩ = some (.string y.s) ∧ W.cell? ⟨b', o' + 3, none⟩ = some (.string y.t) ∧ W.cell? ⟨b', o' + 4, none⟩ = some (.slice a' y.kids.length cap')) ∧ Two B w b o x a cap b' o' y a' cap' W :=
  ⟨⟨h.x5.1, h.x5.2.1, h.x5.2.2.1, h.x5.2.2.2.1, h.x5.2.2.2.2, h.y5.1, h.y5.2.1, h.y5.2.2.1, h.y5.2.2.2.1, h.y5.2.2.2.2⟩, h⟩
def RelEqN (B : Nat) (W : World) (l m : List Nd) (i : Value) (wr : World) : Prop :=
  ∃ I : Nat, I ≤ l.length ∧ i = .int .i64 (I : Int) ∧ Below B W wr ∧ l.take I = m.take I

end Go.Proofs.YtldkhdoboieibaaDoor.nd
