/-
  Nodes in memory: rows of integers ('Ints'), lists of nodes with their kids' rows ('Lies'); laws.szNodeS and what it calls: contracts.
-/
import Derived.Test.YtagonpjkohidkaaGreatDoorRows
import Derived.Test.YtagonpjkohidkaaGreatDoorBase
import Derived.WalkKit
import Derived.ProofKit
import Derived.OpenShut
import Derived.ShutString
import Derived.ChangeOld
import Derived.Below
import Derived.WalkSpells
import Derived.WalkLawsBesides
import Derived.BigQuiet
import Derived.RegionTactic
import Derived.Deep.QuietTactic
import Derived.Deep.MidRow
import Derived.Deep.RegionHeld3
namespace Go.Proofs.YtagonpjkohidkaaGreatDoor.nd
open Go.ChangeShapes Go.WideShapes Go.ChangeAt Go.RowKit
set_option linter.unusedVariables false

structure Nd where
  k : Int
  op : Int
  s : ByteArray
  t : ByteArray
  kids : List Int
instance : Inhabited Nd := ⟨⟨0, 0, ⟨#[]⟩, ⟨#[]⟩, []⟩⟩
instance : DecidableEq Nd := fun x y =>
  if h : x.k = y.k ∧ x.op = y.op ∧ x.s = y.s ∧ x.t = y.t ∧ x.kids = y.kids then isTrue (by cases x; cases y; simp_all) else isFalse (fun e => h (by subst e; exact ⟨rfl, rfl, rfl, rfl, rfl⟩))

/-- A row of integers, below block B. -/
def Ints (B : Nat) (w : World) (a : Option Addr) (l : List Int) : Prop :=
  l = [] ∨ ∃ b o, a = some ⟨b, o, none⟩ ∧ b < B ∧ ∀ i (h : i < l.length), w.cell? ⟨b, o + i, none⟩ = some (.int .i64 l[i])
theorem Ints.keep {B B' : Nat} {w w' : World} {a : Option Addr} {l : List Int} (h : Ints B w a l) (hb : Below B' w w') (hB : B ≤ B') : Ints B w' a l := by
  rcases h with h | ⟨b, o, rfl, hlt, hc⟩
  · exact .inl h
  · exact .inr ⟨b, o, rfl, hlt, fun i hi => (hb.cell (p := ⟨b, o + i, none⟩) (Nat.lt_of_lt_of_le hlt hB)).trans (hc i hi)⟩
theorem Ints.up {B B' : Nat} {w : World} {a : Option Addr} {l : List Int} (h : Ints B w a l) (hB : B ≤ B') : Ints B' w a l := by
  rcases h with h | ⟨b, o, rfl, hlt, hc⟩
  · exact .inl h
  · exact .inr ⟨b, o, rfl, by omega, hc⟩
theorem ints_at {B : Nat} {w : World} {a : Option Addr} {l : List Int} {I : Nat} (h : Ints B w a l) (hI : I < l.length) : ∃ b o, a = some ⟨b, o, none⟩ ∧ b < B ∧ ∀ i (h : i < l.length), w.cell? ⟨b, o + i, none⟩ = some (.int .i64 l[i]) := by
  rcases h with h | h
  · rw [h] at hI; simp at hI
  · exact h

/-- The five cells of a node. -/
def Five (w : World) (b o : Nat) (n : Nd) (a : Option Addr) (cap : Nat) : Prop :=
  w.cell? ⟨b, o, none⟩ = some (.int .i64 n.k) ∧ w.cell? ⟨b, o + 1, none⟩ = some (.int .i64 n.op) ∧ w.cell? ⟨b, o + 2, none⟩ = some (.string n.s) ∧ w.cell? ⟨b, o + 3, none⟩ = some (.string n.t) ∧ w.cell? ⟨b, o + 4, none⟩ = some (.slice a n.kids.length cap)
theorem Five.keep {B b o : Nat} {w w' : World} {n : Nd} {a : Option Addr} {cap : Nat} (h : Five w b o n a cap) (hb : Below B w w') (hB : b < B) : Five w' b o n a cap :=
  ⟨(hb.cell (p := ⟨b, o, none⟩) hB).trans h.1, (hb.cell (p := ⟨b, o + 1, none⟩) hB).trans h.2.1, (hb.cell (p := ⟨b, o + 2, none⟩) hB).trans h.2.2.1, (hb.cell (p := ⟨b, o + 3, none⟩) hB).trans h.2.2.2.1, (hb.cell (p := ⟨b, o + 4, none⟩) hB).trans h.2.2.2.2⟩
def At (B : Nat) (w : World) (b o : Nat) (n : Nd) : Prop := ∃ a cap, Five w b o n a cap ∧ Ints B w a n.kids
theorem At.keep {B B' b o : Nat} {w w' : World} {n : Nd} (h : At B w b o n) (hb : Below B' w w') (hB : B ≤ B') (hlt : b < B') : At B w' b o n := by
  obtain ⟨a, cap, h5, hi⟩ := h
  exact ⟨a, cap, h5.keep hb hlt, hi.keep hb hB⟩
theorem At.up {B B' b o : Nat} {w : World} {n : Nd} (h : At B w b o n) (hB : B ≤ B') : At B' w b o n := by
  obtain ⟨a, cap, h5, hi⟩ := h
  exact ⟨a, cap, h5, hi.up hB⟩
/-- The nodes l lie in w, below block B, at a slice's address. -/
def Lies (B : Nat) (w : World) (a : Option Addr) (l : List Nd) : Prop :=
  l = [] ∨ ∃ b o, a = some ⟨b, o, none⟩ ∧ b < B ∧ ∀ i (h : i < l.length), At B w b (o + i * 5) l[i]
theorem Lies.keep {B B' : Nat} {w w' : World} {a : Option Addr} {l : List Nd} (h : Lies B w a l) (hb : Below B' w w') (hB : B ≤ B') : Lies B w' a l := by
  rcases h with h | ⟨b, o, rfl, hlt, hc⟩
  · exact .inl h
  · exact .inr ⟨b, o, rfl, hlt, fun i hi => (hc i hi).keep hb hB (Nat.lt_of_lt_of_le hlt hB)⟩
theorem Lies.up {B B' : Nat} {w : World} {a : Option Addr} {l : List Nd} (h : Lies B w a l) (hB : B ≤ B') : Lies B' w a l := by
  rcases h with h | ⟨b, o, rfl, hlt, hc⟩
  · exact .inl h
  · exact .inr ⟨b, o, rfl, by omega, fun i hi => (hc i hi).up hB⟩
theorem Lies.on {B : Nat} {w w' : World} {a : Option Addr} {l : List Nd} (h : Lies B w a l) (hb : Below B w w') (hB : B ≤ w.heap.size) : Lies w'.heap.size w' a l :=
  (h.keep hb (Nat.le_refl _)).up (Nat.le_trans hB hb.size)
theorem lies_at {B : Nat} {w : World} {a : Option Addr} {l : List Nd} {I : Nat} (h : Lies B w a l) (hI : I < l.length) : ∃ b o, a = some ⟨b, o, none⟩ ∧ b < B ∧ ∀ i (h : i < l.length), At B w b (o + i * 5) l[i] := by
  rcases h with h | h
  · rw [h] at hI; simp at hI
  · exact h

/-! ### Sizes -/
def Nd.sz (n : Nd) : Nat := n.s.size + n.t.size + n.kids.length
def tot : List Nd → Nat
  | [] => 0
  | t :: l => t.sz + tot l
theorem tot_append (l m : List Nd) : tot (l ++ m) = tot l + tot m := by
  induction l with
  | nil => simp [tot]
  | cons t l ih => simp only [List.cons_append, tot, ih]; omega
theorem tot_step {l : List Nd} {I : Nat} (h : I < l.length) : tot (l.take (I + 1)) = tot (l.take I) + l[I].sz := by
  rw [List.take_succ_eq_append_getElem h, tot_append]
  simp [tot]
theorem tot_le (l : List Nd) (I : Nat) : tot (l.take I) ≤ tot l := by
  have := tot_append (l.take I) (l.drop I)
  rw [List.take_append_drop] at this
  omega
theorem sz_le {l : List Nd} {I : Nat} (h : I < l.length) : l[I].sz ≤ tot l := by
  have := tot_step h
  have := tot_le l (I + 1)
  omega
/-- No field is longer than a machine's memory. -/
def Nd.fit (n : Nd) : Prop := n.s.size ≤ maxLen ∧ n.t.size ≤ maxLen ∧ n.kids.length ≤ maxLen

/-- What is left of a budget. -/
def leftI (n : Nat) (x : Int) : Int := if (n : Int) ≤ x then x - n else -1
theorem left_yes {n : Nat} {x : Int} (h : (n : Int) ≤ x) : leftI n x = x - n := if_pos h
theorem left_no {n : Nat} {x : Int} (h : ¬ (n : Int) ≤ x) : leftI n x = -1 := if_neg h

def RelSz (B : Nat) (W : World) (l : List Nd) (x0 : Int) (m i : Value) (wr : World) : Prop :=
  ∃ (I : Nat) (X : Int), I ≤ l.length ∧ i = .int .i64 (I : Int) ∧ m = .int .i64 X ∧ 0 ≤ X ∧ x0 = X + l.length + tot (l.take I) ∧ Below B W wr
def sz (l : List Nd) (x : Int) : Int := leftI (l.length + tot l) x

end Go.Proofs.YtagonpjkohidkaaGreatDoor.nd
