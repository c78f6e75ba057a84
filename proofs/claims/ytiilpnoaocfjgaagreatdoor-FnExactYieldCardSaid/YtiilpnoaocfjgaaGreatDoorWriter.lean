/-
  impl's tokenWriter in memory ('St': its box, the tokens written so far; 'Gr': what a call that writes leaves as it was); add, symbol, kid, target, list: contracts.
-/
import Derived.Test.YtiilpnoaocfjgaaGreatDoorTokMath
import Derived.Test.YtiilpnoaocfjgaaGreatDoorOwn2
import Derived.Test.YtiilpnoaocfjgaaGreatDoorSpell
import Derived.Deep.RegionHeld3
namespace Go.Proofs.YtiilpnoaocfjgaaGreatDoor.tw
open Go.ChangeShapes Go.WideShapes Go.ChangeAt Go.RowKit
open tk (Tk)
open own (wpList_append_tok2)
open nd (Nd)
open ps (Ps B5 posOk kidI top)
open spell (Held)
open et
set_option linter.unusedVariables false
set_option maxRecDepth 20000

/-- The writer's box, the first block behind w0; its tokens lie behind it. -/
structure St (w0 : World) (a : Option Addr) (n cap : Nat) (fv v : Value) (ts : List Tk) (w : World) : Prop where
  bel : Below w0.heap.size w0 w
  box : w.heap[w0.heap.size]? = some (.cells #[.slice a n cap, fv, v] 113 (0, 0))
  own : own.Own (w0.heap.size + 1) v ts w
/-- What a call that writes leaves: every block but the writer's and the tokens'. -/
structure Gr (b : Nat) (v v' : Value) (w w' : World) : Prop where
  size : w.heap.size ≤ w'.heap.size
  keep : ∀ k, k < w.heap.size → k ≠ b → some k ≠ v.ownBlock → w'.heap[k]? = w.heap[k]?
  own : v'.ownBlock = v.ownBlock ∨ ∃ g, v'.ownBlock = some g ∧ w.heap.size ≤ g
theorem Gr.refl (b : Nat) (v : Value) (w : World) : Gr b v v w w := ⟨Nat.le_refl _, fun _ _ _ _ => rfl, .inl rfl⟩
theorem Gr.ne {b : Nat} {v v' : Value} {w w' : World} (h : Gr b v v' w w') {k : Nat} (hk : k < w.heap.size) (hn : some k ≠ v.ownBlock) : some k ≠ v'.ownBlock := by
  rcases h.own with e | ⟨g, e, hg⟩
  · rw [e]; exact hn
  · rw [e]; intro e2; injection e2 with e2; omega
theorem Gr.trans {b : Nat} {v v1 v2 : Value} {w w1 w2 : World} (h : Gr b v v1 w w1) (k : Gr b v1 v2 w1 w2) : Gr b v v2 w w2 := by
  refine ⟨Nat.le_trans h.size k.size, fun j hj hb hn => (k.keep j (Nat.lt_of_lt_of_le hj h.size) hb (h.ne hj hn)).trans (h.keep j hj hb hn), ?_⟩
  rcases k.own with e | ⟨g, e, hg⟩
  · rw [e]; exact h.own
  · exact .inr ⟨g, e, Nat.le_trans h.size hg⟩
theorem Gr.quiet {b : Nat} {v : Value} {w w' : World} (h : Below w.heap.size w w') : Gr b v v w w' := ⟨h.size, fun k hk _ _ => h.block k hk, .inl rfl⟩

section
variable {w0 : World} {a : Option Addr} {n cap : Nat} {fv v : Value} {ts : List Tk} {w w' : World}
theorem St.lt (h : St w0 a n cap fv v ts w) : w0.heap.size < w.heap.size := by
  rcases Nat.lt_or_ge w0.heap.size w.heap.size with h' | h'
  · exact h'
  · have := h.box; rw [Array.getElem?_eq_none h'] at this; cases this
theorem St.keep (h : St w0 a n cap fv v ts w) (hb : Below w.heap.size w w') : St w0 a n cap fv v ts w' :=
  ⟨h.bel.trans (hb.mono h.bel.size), (hb.block _ h.lt).trans h.box, h.own.keep hb (Nat.le_refl _)⟩
theorem St.alloc (h : St w0 a n cap fv v ts w) (o : Obj) : St w0 a n cap fv v ts (w.alloc o) := h.keep ((Below.refl _ _).alloc (Nat.le_refl _) _)
theorem St.drew (h : St w0 a n cap fv v ts w) : St w0 a n cap fv v ts w.drew := h.keep ((Below.refl _ _).drew)
theorem St.c (h : St w0 a n cap fv v ts w) : w.cell? ⟨w0.heap.size, 0, none⟩ = some (.slice a n cap) ∧ w.cell? ⟨w0.heap.size, 1, none⟩ = some fv ∧ w.cell? ⟨w0.heap.size, 2, none⟩ = some v :=
  ⟨by rw [cell_of_row w _ 0 _ _ _ h.box]; rfl, by rw [cell_of_row w _ 1 _ _ _ h.box]; rfl, by rw [cell_of_row w _ 2 _ _ _ h.box]; rfl⟩
theorem St.f (h : St w0 a n cap fv v ts w) (j : Nat) : w.frozen? ⟨w0.heap.size, j, none⟩ = false := frozen_of_row w _ j _ _ h.box
theorem St.not_box (h : St w0 a n cap fv v ts w) : some w0.heap.size ≠ v.ownBlock := fun e => by have := (World.ownsRow.lt h.own _ e.symm).1; omega
theorem St.held (h : St w0 a n cap fv v ts w) (hh : Held w0) : Held w := hh.below h.bel
theorem St.new (h : St w0 a n cap fv v ts w) {g : Nat} (hg : w.heap.size ≤ g) : some g ≠ v.ownBlock := fun e => by have := (World.ownsRow.lt h.own _ e.symm).2; omega
end

/-- What a call answers that writes T behind ts. -/
def Put (w0 : World) (a : Option Addr) (n cap : Nat) (fv v : Value) (ts T : List Tk) (w : World) (e : Ending) (w' : World) : Prop :=
  e = .returned (.tuple #[]) ∧ ∃ v', St w0 a n cap fv v' (ts ++ T) w' ∧ Gr w0.heap.size v v' w w'

set_option maxHeartbeats 800000 in
theorem add_any {w0 : World} {a : Option Addr} {n cap : Nat} {fv v : Value} {ts : List Tk} (k : Int) (s : ByteArray) (w : World) (hl : ts.length ≤ 1048576) (hst : St w0 a n cap fv v ts w) :
    Calls Tryz.prog 238 #[.pointer (some ⟨w0.heap.size, 0, none⟩), .int .i64 k, .string s] w (Put w0 a n cap fv v ts [⟨k, s, 0⟩] w) := by
  have HS := Lib.hid hst
  obtain ⟨c0, c1, c2⟩ := hst.c
  have hf : ∀ W : World, Below (w0.heap.size + 1) w W → W.frozen? ⟨w0.heap.size, 2, none⟩ = false ∧ ∃ u, W.cell? ⟨w0.heap.size, 2, none⟩ = some u := fun W hb => by
    have hbx := (hb.block _ (Nat.lt_succ_self _)).trans HS.out.box
    exact ⟨frozen_of_row W _ 2 _ _ hbx, v, by rw [cell_of_row W _ 2 _ _ _ hbx]; rfl⟩
  have HF := Lib.hid hf
  clear hst hf
  go_enter Tryz.func238, Tryz.ntmps238
  go_wp2_with (first | (at_builtin; refine wpList_append_tok2 w ⟨k, s, 0⟩ rfl _ _ rfl (w0.heap.size + 1) _ ts rfl HS.out.own rfl ?n1 ?n2 ?n3))
  case n1 => exact hl
  case n2 => exact HS.out.lt
  case n3 =>
    intro g c w2 own2 b2 g2 hor
    obtain ⟨f2, u2, d2⟩ := HF.out w2 b2
    have HO := Lib.hid own2
    have HB := Lib.hid b2
    have HG := Lib.hid g2
    have HR := Lib.hid hor
    clear own2 b2 g2 hor
    go_wp2
    go_end0
    refine ⟨rfl, .slice (some ⟨g, 0, none⟩) (ts.length + 1) c, ⟨?_, ?_, ?_⟩, ⟨?_, ?_, ?_⟩⟩
    · exact (HS.out.bel.trans (HB.out.mono (Nat.le_succ _))).setCell (Nat.le_refl _) _
    · exact heap_setCell_same _ _ 2 _ _ _ ((HB.out.block _ (Nat.lt_succ_self _)).trans HS.out.box)
    · exact ownsRow_setCell_below HO.out (a := ⟨w0.heap.size, 2, none⟩) (Nat.lt_succ_self _) _
    · simpa using HB.out.size
    · intro j hj hb hn
      rw [heap_setCell_other _ _ j _ hb]
      exact HG.out.block j hj hn
    · rcases HR.out with e | e
      · exact .inl (by rw [e]; rfl)
      · exact .inr ⟨g, rfl, e⟩

theorem symbol_any {w0 : World} {a : Option Addr} {n cap : Nat} {fv v : Value} {ts : List Tk} (hh : Held w0) (k : Int) (w : World) (hl : ts.length ≤ 1048576) (hst : St w0 a n cap fv v ts w) :
    Calls Tryz.prog 152 #[.pointer (some ⟨w0.heap.size, 0, none⟩), .int .i64 k] w (Put w0 a n cap fv v ts [tok k] w) := by
  have HS := Lib.hid hst
  have HH := Lib.hid (hst.held hh)
  clear hst hh
  go_enter Tryz.func152, Tryz.ntmps152
  go_wp2_with fail
  refine (spell.impl_spell k w HH.out).mono ?_
  rintro e w1 ⟨rfl, rfl⟩
  go_wp2_with fail
  refine (add_any k (spell.spell k) w hl HS.out).mono ?_
  rintro e w2 ⟨rfl, hp⟩
  have HP := Lib.hid hp
  clear hp
  go_wp2
  go_end0
  exact ⟨rfl, HP.out⟩
end Go.Proofs.YtiilpnoaocfjgaaGreatDoor.tw
