/-
  spec.l6Part, spec.Part: contracts.
-/
import Derived.Test.YtckeepjfbpphaaaGreatDoorShiftSpec
namespace Go.Proofs.YtckeepjfbpphaaaGreatDoor.nd
open Go.ChangeShapes Go.WideShapes Go.ChangeAt Go.RowKit
set_option linter.unusedVariables false

theorem KidV.down {B B' : Nat} {w : World} {r : Nat} {v : Value} {l : List Int} (h : KidV B w r v l) (hB : B' ≤ B) : KidV B' w r v l := by
  rcases h with h | ⟨cap, e1, e2, e3⟩
  · exact .inl h
  · exact .inr ⟨cap, e1, e2, Nat.le_trans hB e3.1, e3.2⟩
theorem PT.up {B B' : Nat} {v : Value} {z : List (Nd × Value)} {r : Nat → Nat} {w : World} (h : PT B v z r w) (hB : B' ≤ B) : PT B' v z r w :=
  ⟨⟨h.own.1, h.own.2.elim .inl (fun ⟨g, cap, cur, hv, hg, r⟩ => .inr ⟨g, cap, cur, hv, Nat.le_trans hB hg, r⟩)⟩, fun i hi => (h.kid i hi).down hB, h.off, h.asc, h.lt⟩
/-- A part of a list of nodes, where it lies. -/
theorem Lies.sub {B : Nat} {w : World} {b o : Nat} {l : List Nd} (h : Lies B w (some ⟨b, o, none⟩) l) (S m : Nat) (hm : S + m ≤ l.length) : Lies B w (some ⟨b, o + S * 5, none⟩) ((l.drop S).take m) := by
  by_cases h0 : m = 0
  · exact .inl (by rw [h0]; simp)
  obtain ⟨b', o', e, hb, hc⟩ := lies_at h (I := S) (by omega)
  injection e with e
  injection e with e1 e2 _
  subst e1 e2
  refine .inr ⟨b, o + S * 5, rfl, hb, fun i hi => ?_⟩
  simp at hi
  have := hc (S + i) (by omega)
  rw [show o + S * 5 + i * 5 = o + (S + i) * 5 by omega]
  simpa using this
/-- What the region holds. -/
structure LP (W3 : World) (w : World) : Prop where
  bel : Below W3.heap.size W3 w
  le : W3.heap.size ≤ w.heap.size
theorem lp_start {W3 w : World} {b o : Nat} {S : Nat} (h : w.cell? ⟨b, o, none⟩ = some (.int .i64 (S : Int))) (hl : LP W3 w) : w.cell? ⟨b, o, none⟩ = some (.int .i64 (S : Int)) ∧ LP W3 w := ⟨h, hl⟩
theorem lp_drew {W3 w : World} {b o : Nat} {S : Nat} (h : w.cell? ⟨b, o, none⟩ = some (.int .i64 (S : Int)) ∧ LP W3 w) : w.drew.cell? ⟨b, o, none⟩ = some (.int .i64 (S : Int)) ∧ LP W3 w.drew := ⟨h.1, h.2.bel.drew, h.2.le⟩
theorem lp_keep {W3 w w1 : World} {b o : Nat} {S : Nat} (hb : b < W3.heap.size) (h : w.cell? ⟨b, o, none⟩ = some (.int .i64 (S : Int)) ∧ LP W3 w) (hk : Below w.heap.size w w1) : w1.cell? ⟨b, o, none⟩ = some (.int .i64 (S : Int)) ∧ LP W3 w1 :=
  ⟨(hk.cell (p := ⟨b, o, none⟩) (Nat.lt_of_lt_of_le hb h.2.le)).trans h.1, h.2.bel.trans (hk.mono h.2.le), Nat.le_trans h.2.le hk.size⟩

end Go.Proofs.YtckeepjfbpphaaaGreatDoor.nd
