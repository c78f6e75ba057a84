/-
  impl's tokenWriter in memory ('St': its box, the tokens written so far; 'Gr': what a call that writes leaves as it was); add, symbol, kid, target, list: contracts.
  impl's tokenWriter: misfits, wantsFull, kid, target: contracts.
  impl's tokenWriter: list: contract.
  impl's tokenWriter: the methods for each kind of expression: contracts.
  impl's tokenWriter: expr, as ExprTokens and as FullTokens make it: contracts.
  impl's tokenWriter: methodOf, unenclosed: contracts.
  impl.ExprTokens, impl.FullTokens: the tokens that the mathematics names, in memory of the call's own: contracts.
-/
import Derived.Test.YtdikohegclooiaaGreatDoorTokMath
import Derived.Test.YtdikohegclooiaaGreatDoorOwn2
import Derived.Test.YtdikohegclooiaaGreatDoorSpell
import Derived.Deep.RegionHeld3
import Derived.Test.YtdikohegclooiaaGreatDoorKidI
namespace Go.Proofs.YtdikohegclooiaaGreatDoor.tw
open Go.ChangeShapes Go.WideShapes Go.ChangeAt Go.RowKit
open tk (Tk)
open own (wpList_append_tok2)
open nd (Nd)
open ps (Ps B5 posOk kidI top)
open spell (Held)
open et
set_option linter.unusedVariables false
set_option maxRecDepth 20000

/-- The writer's box, the first block behind w0; its tokens lie behind it. -/
structure St (w0 : World) (a : Option Addr) (n cap : Nat) (fv v : Value) (ts : List Tk) (w : World) : Prop where
  bel : Below w0.heap.size w0 w
  box : w.heap[w0.heap.size]? = some (.cells #[.slice a n cap, fv, v] 52 (0, 0))
  own : own.Own (w0.heap.size + 1) v ts w
/-- What a call that writes leaves: every block but the writer's and the tokens'. -/
structure Gr (b : Nat) (v v' : Value) (w w' : World) : Prop where
  size : w.heap.size ≤ w'.heap.size
  keep : ∀ k, k < w.heap.size → k ≠ b → some k ≠ v.ownBlock → w'.heap[k]? = w.heap[k]?
  own : v'.ownBlock = v.ownBlock ∨ ∃ g, v'.ownBlock = some g ∧ w.heap.size ≤ g
theorem Gr.refl (b : Nat) (v : Value) (w : World) : Gr b v v w w := ⟨Nat.le_refl _, fun _ _ _ _ => rfl, .inl rfl⟩
theorem Gr.ne {b : Nat} {v v' : Value} {w w' : World} (h : Gr b v v' w w') {k : Nat} (hk : k < w.heap.size) (hn : some k ≠ v.ownBlock) : some k ≠ v'.ownBlock := by
  rcases h.own with e | ⟨g, e, hg⟩
  · rw [e]; exact hn
  · rw [e]; intro e2; injection e2 with e2; omega
theorem Gr.trans {b : Nat} {v v1 v2 : Value} {w w1 w2 : World} (h : Gr b v v1 w w1) (k : Gr b v1 v2 w1 w2) : Gr b v v2 w w2 := by
  refine ⟨Nat.le_trans h.size k.size, fun j hj hb hn => (k.keep j (Nat.lt_of_lt_of_le hj h.size) hb (h.ne hj hn)).trans (h.keep j hj hb hn), ?_⟩
  rcases k.own with e | ⟨g, e, hg⟩
  · rw [e]; exact h.own
  · exact .inr ⟨g, e, Nat.le_trans h.size hg⟩
theorem Gr.quiet {b : Nat} {v : Value} {w w' : World} (h : Below w.heap.size w w') : Gr b v v w w' := ⟨h.size, fun k hk _ _ => h.block k hk, .inl rfl⟩

section
variable {w0 : World} {a : Option Addr} {n cap : Nat} {fv v : Value} {ts : List Tk} {w w' : World}
theorem St.lt (h : St w0 a n cap fv v ts w) : w0.heap.size < w.heap.size := by
  rcases Nat.lt_or_ge w0.heap.size w.heap.size with h' | h'
  · exact h'
  · have := h.box; rw [Array.getElem?_eq_none h'] at this; cases this
theorem St.keep (h : St w0 a n cap fv v ts w) (hb : Below w.heap.size w w') : St w0 a n cap fv v ts w' :=
  ⟨h.bel.trans (hb.mono h.bel.size), (hb.block _ h.lt).trans h.box, h.own.keep hb (Nat.le_refl _)⟩
theorem St.alloc (h : St w0 a n cap fv v ts w) (o : Obj) : St w0 a n cap fv v ts (w.alloc o) := h.keep ((Below.refl _ _).alloc (Nat.le_refl _) _)
theorem St.drew (h : St w0 a n cap fv v ts w) : St w0 a n cap fv v ts w.drew := h.keep ((Below.refl _ _).drew)
theorem St.c (h : St w0 a n cap fv v ts w) : w.cell? ⟨w0.heap.size, 0, none⟩ = some (.slice a n cap) ∧ w.cell? ⟨w0.heap.size, 1, none⟩ = some fv ∧ w.cell? ⟨w0.heap.size, 2, none⟩ = some v :=
  ⟨by rw [cell_of_row w _ 0 _ _ _ h.box]; rfl, by rw [cell_of_row w _ 1 _ _ _ h.box]; rfl, by rw [cell_of_row w _ 2 _ _ _ h.box]; rfl⟩
theorem St.f (h : St w0 a n cap fv v ts w) (j : Nat) : w.frozen? ⟨w0.heap.size, j, none⟩ = false := frozen_of_row w _ j _ _ h.box
theorem St.not_box (h : St w0 a n cap fv v ts w) : some w0.heap.size ≠ v.ownBlock := fun e => by have := (World.ownsRow.lt h.own _ e.symm).1; omega
theorem St.held (h : St w0 a n cap fv v ts w) (hh : Held w0) : Held w := hh.below h.bel
theorem St.new (h : St w0 a n cap fv v ts w) {g : Nat} (hg : w.heap.size ≤ g) : some g ≠ v.ownBlock := fun e => by have := (World.ownsRow.lt h.own _ e.symm).2; omega
end

/-- What a call answers that writes T behind ts. -/
def Put (w0 : World) (a : Option Addr) (n cap : Nat) (fv v : Value) (ts T : List Tk) (w : World) (e : Ending) (w' : World) : Prop :=
  e = .returned (.tuple #[]) ∧ ∃ v', St w0 a n cap fv v' (ts ++ T) w' ∧ Gr w0.heap.size v v' w w'

set_option maxHeartbeats 800000 in
theorem add_any {w0 : World} {a : Option Addr} {n cap : Nat} {fv v : Value} {ts : List Tk} (k : Int) (s : ByteArray) (w : World) (hl : ts.length ≤ 1048576) (hst : St w0 a n cap fv v ts w) :
    Calls Tryz.prog 67 #[.pointer (some ⟨w0.heap.size, 0, none⟩), .int .i64 k, .string s] w (Put w0 a n cap fv v ts [⟨k, s, 0⟩] w) := by
  have HS := Lib.hid hst
  obtain ⟨c0, c1, c2⟩ := hst.c
  have hf : ∀ W : World, Below (w0.heap.size + 1) w W → W.frozen? ⟨w0.heap.size, 2, none⟩ = false ∧ ∃ u, W.cell? ⟨w0.heap.size, 2, none⟩ = some u := fun W hb => by
    have hbx := (hb.block _ (Nat.lt_succ_self _)).trans HS.out.box
    exact ⟨frozen_of_row W _ 2 _ _ hbx, v, by rw [cell_of_row W _ 2 _ _ _ hbx]; rfl⟩
  have HF := Lib.hid hf
  clear hst hf
  go_enter Tryz.func67, Tryz.ntmps67
  go_wp2_with (first | (at_builtin; refine wpList_append_tok2 w ⟨k, s, 0⟩ rfl _ _ rfl (w0.heap.size + 1) _ ts rfl HS.out.own rfl ?n1 ?n2 ?n3))
  case n1 => exact hl
  case n2 => exact HS.out.lt
  case n3 =>
    intro g c w2 own2 b2 g2 hor
    obtain ⟨f2, u2, d2⟩ := HF.out w2 b2
    have HO := Lib.hid own2
    have HB := Lib.hid b2
    have HG := Lib.hid g2
    have HR := Lib.hid hor
    clear own2 b2 g2 hor
    go_wp2
    go_end0
    refine ⟨rfl, .slice (some ⟨g, 0, none⟩) (ts.length + 1) c, ⟨?_, ?_, ?_⟩, ⟨?_, ?_, ?_⟩⟩
    · exact (HS.out.bel.trans (HB.out.mono (Nat.le_succ _))).setCell (Nat.le_refl _) _
    · exact heap_setCell_same _ _ 2 _ _ _ ((HB.out.block _ (Nat.lt_succ_self _)).trans HS.out.box)
    · exact ownsRow_setCell_below HO.out (a := ⟨w0.heap.size, 2, none⟩) (Nat.lt_succ_self _) _
    · simpa using HB.out.size
    · intro j hj hb hn
      rw [heap_setCell_other _ _ j _ hb]
      exact HG.out.block j hj hn
    · rcases HR.out with e | e
      · exact .inl (by rw [e]; rfl)
      · exact .inr ⟨g, rfl, e⟩

theorem symbol_any {w0 : World} {a : Option Addr} {n cap : Nat} {fv v : Value} {ts : List Tk} (hh : Held w0) (k : Int) (w : World) (hl : ts.length ≤ 1048576) (hst : St w0 a n cap fv v ts w) :
    Calls Tryz.prog 46 #[.pointer (some ⟨w0.heap.size, 0, none⟩), .int .i64 k] w (Put w0 a n cap fv v ts [tok k] w) := by
  have HS := Lib.hid hst
  have HH := Lib.hid (hst.held hh)
  clear hst hh
  go_enter Tryz.func46, Tryz.ntmps46
  go_wp2_with fail
  refine (spell.impl_spell k w HH.out).mono ?_
  rintro e w1 ⟨rfl, rfl⟩
  go_wp2_with fail
  refine (add_any k (spell.spell k) w hl HS.out).mono ?_
  rintro e w2 ⟨rfl, hp⟩
  have HP := Lib.hid hp
  clear hp
  go_wp2
  go_end0
  exact ⟨rfl, HP.out⟩
end Go.Proofs.YtdikohegclooiaaGreatDoor.tw

namespace Go.Proofs.YtdikohegclooiaaGreatDoor.tw
open Go.ChangeShapes Go.WideShapes Go.ChangeAt Go.RowKit
open tk (Tk)
open own
open nd (Nd Ints)
open ps (Ps posOk kidI top)
open spell (Held)
open et
set_option linter.unusedVariables false
set_option linter.unusedSimpArgs false
set_option maxRecDepth 20000

/-- A node and a position in their boxes. -/
structure Fm (b : Nat) (n : Nd) (ak : Option Addr) (ck : Nat) (p : Ps) (gn gp : Nat) (v : Value) (w : World) : Prop where
  n : w.heap[gn]? = some (.cells #[.int .i64 n.k, .int .i64 n.op, .string n.s, .string n.t, .slice ak n.kids.length ck] 45 (0, 0))
  p : w.heap[gp]? = some (.cells #[.int .i64 p.l, .bool p.d, .bool p.i, .bool p.g, .bool p.s] 30 (0, 0))
  fn : gn ≠ b ∧ some gn ≠ v.ownBlock
  fp : gp ≠ b ∧ some gp ≠ v.ownBlock
theorem undrew {B : Nat} {W w1 : World} (h : Below B W.drew w1) : Below B W w1 := ⟨h.os, h.tape, h.output, h.size, h.block⟩
theorem cell_drew {w : World} {x : Addr} {u : Value} (h : w.cell? x = some u) : w.drew.cell? x = some u := h
theorem lt_of {w : World} {g : Nat} {o : Obj} (h : w.heap[g]? = some o) : g < w.heap.size := by
  rcases Nat.lt_or_ge g w.heap.size with h' | h'
  · exact h'
  · rw [Array.getElem?_eq_none h'] at h; cases h
section
variable {b : Nat} {n : Nd} {ak : Option Addr} {ck : Nat} {p : Ps} {gn gp : Nat} {v v' : Value} {w w' : World}
theorem Fm.on (h : Fm b n ak ck p gn gp v w) (g : Gr b v v' w w') : Fm b n ak ck p gn gp v' w' :=
  ⟨(g.keep _ (lt_of h.n) h.fn.1 h.fn.2).trans h.n, (g.keep _ (lt_of h.p) h.fp.1 h.fp.2).trans h.p, ⟨h.fn.1, g.ne (lt_of h.n) h.fn.2⟩, ⟨h.fp.1, g.ne (lt_of h.p) h.fp.2⟩⟩
theorem Fm.drew (h : Fm b n ak ck p gn gp v w) : Fm b n ak ck p gn gp v w.drew := ⟨h.n, h.p, h.fn, h.fp⟩
theorem Fm.c (h : Fm b n ak ck p gn gp v w) : w.cell? ⟨gn, 0, none⟩ = some (.int .i64 n.k) ∧ w.cell? ⟨gn, 1, none⟩ = some (.int .i64 n.op) ∧ w.cell? ⟨gn, 2, none⟩ = some (.string n.s) ∧ w.cell? ⟨gn, 3, none⟩ = some (.string n.t) ∧ w.cell? ⟨gn, 4, none⟩ = some (.slice ak n.kids.length ck) ∧ w.cell? ⟨gp, 0, none⟩ = some (.int .i64 p.l) ∧ w.cell? ⟨gp, 1, none⟩ = some (.bool p.d) ∧ w.cell? ⟨gp, 2, none⟩ = some (.bool p.i) ∧ w.cell? ⟨gp, 3, none⟩ = some (.bool p.g) ∧ w.cell? ⟨gp, 4, none⟩ = some (.bool p.s) := by
  refine ⟨?_, ?_, ?_, ?_, ?_, ?_, ?_, ?_, ?_, ?_⟩
  · rw [cell_of_row w gn 0 _ _ _ h.n]; rfl
  · rw [cell_of_row w gn 1 _ _ _ h.n]; rfl
  · rw [cell_of_row w gn 2 _ _ _ h.n]; rfl
  · rw [cell_of_row w gn 3 _ _ _ h.n]; rfl
  · rw [cell_of_row w gn 4 _ _ _ h.n]; rfl
  · rw [cell_of_row w gp 0 _ _ _ h.p]; rfl
  · rw [cell_of_row w gp 1 _ _ _ h.p]; rfl
  · rw [cell_of_row w gp 2 _ _ _ h.p]; rfl
  · rw [cell_of_row w gp 3 _ _ _ h.p]; rfl
  · rw [cell_of_row w gp 4 _ _ _ h.p]; rfl

theorem Fm.start {w0 : World} {a : Option Addr} {m cap : Nat} {fv : Value} {ts : List Tk} (h : St w0 a m cap fv v ts w) (n : Nd) (ak : Option Addr) (ck : Nat) (p : Ps) :
    Fm w0.heap.size n ak ck p w.heap.size (w.heap.size + 1) v ((w.alloc (.cells #[.int .i64 n.k, .int .i64 n.op, .string n.s, .string n.t, .slice ak n.kids.length ck] 45)).alloc (.cells #[.int .i64 p.l, .bool p.d, .bool p.i, .bool p.g, .bool p.s] 30)) ∧ St w0 a m cap fv v ts ((w.alloc (.cells #[.int .i64 n.k, .int .i64 n.op, .string n.s, .string n.t, .slice ak n.kids.length ck] 45)).alloc (.cells #[.int .i64 p.l, .bool p.d, .bool p.i, .bool p.g, .bool p.s] 30)) ∧ Gr w0.heap.size v v w ((w.alloc (.cells #[.int .i64 n.k, .int .i64 n.op, .string n.s, .string n.t, .slice ak n.kids.length ck] 45)).alloc (.cells #[.int .i64 p.l, .bool p.d, .bool p.i, .bool p.g, .bool p.s] 30)) := by
  have hl := h.lt
  have hb : Below w.heap.size w ((w.alloc (.cells #[.int .i64 n.k, .int .i64 n.op, .string n.s, .string n.t, .slice ak n.kids.length ck] 45)).alloc (.cells #[.int .i64 p.l, .bool p.d, .bool p.i, .bool p.g, .bool p.s] 30)) := ((Below.refl _ _).alloc (Nat.le_refl _) _).alloc (by simp) _
  refine ⟨⟨?_, ?_, ⟨by omega, h.new (Nat.le_refl _)⟩, ⟨by omega, h.new (Nat.le_succ _)⟩⟩, h.keep hb, Gr.quiet hb⟩
  · rw [Below.heap_alloc _ _ _ (by simp)]
    exact heap_alloc_new w _
  · have := heap_alloc_new (w.alloc (.cells #[.int .i64 n.k, .int .i64 n.op, .string n.s, .string n.t, .slice ak n.kids.length ck] 45)) (.cells #[.int .i64 p.l, .bool p.d, .bool p.i, .bool p.g, .bool p.s] 30)
    simpa using this
end

theorem Fm.keepQ {b : Nat} {n : Nd} {ak : Option Addr} {ck : Nat} {p : Ps} {gn gp : Nat} {v : Value} {w w' : World} (h : Fm b n ak ck p gn gp v w) (hb : Below w.heap.size w w') : Fm b n ak ck p gn gp v w' := h.on (Gr.quiet hb)

theorem misfits_any (n : Nd) (ak : Option Addr) (ck : Nat) (p : Ps) (w : World) :
    Calls Tryz.prog 24 #[.agg #[.int .i64 n.k, .int .i64 n.op, .string n.s, .string n.t, .slice ak n.kids.length ck], .agg #[.int .i64 p.l, .bool p.d, .bool p.i, .bool p.g, .bool p.s]] w fun e w' => e = .returned (.bool (mis n p)) ∧ Below w.heap.size w w' := by
  go_enter Tryz.func24, Tryz.ntmps24
  go_wp2_with fail
  refine (ps.impl_fits n.k n.op p.l n.s n.t ak n.kids.length ck p.d p.i p.g p.s _).mono ?_
  rintro e w1 ⟨rfl, b1⟩
  have B1 := Lib.hid (show Below w.heap.size w w1 from (((Below.refl w.heap.size w).alloc (Nat.le_refl _) _).alloc (by simp) _).trans (b1.mono (by simp; omega)))
  clear b1
  go_wp2
  go_ret
  exact ⟨rfl, B1.out⟩

theorem full_any (n : Nd) (ak : Option Addr) (ck : Nat) (p : Ps) (w : World) :
    Calls Tryz.prog 31 #[.agg #[.int .i64 n.k, .int .i64 n.op, .string n.s, .string n.t, .slice ak n.kids.length ck], .agg #[.int .i64 p.l, .bool p.d, .bool p.i, .bool p.g, .bool p.s]] w fun e w' => e = .returned (.bool (full n p)) ∧ Below w.heap.size w w' := by
  obtain ⟨V, hV⟩ : ∃ V, lv.levelOf n.k n.op = V := ⟨_, rfl⟩
  have HV := Lib.hid hV
  have HX := Lib.hid (Fm.c (b := w.heap.size + 2) (v := .slice none 0 0) (n := n) (ak := ak) (ck := ck) (p := p) (gn := w.heap.size) (gp := w.heap.size + 1) (w := (w.alloc (.cells #[.int .i64 n.k, .int .i64 n.op, .string n.s, .string n.t, .slice ak n.kids.length ck] 45)).alloc (.cells #[.int .i64 p.l, .bool p.d, .bool p.i, .bool p.g, .bool p.s] 30)) ⟨by rw [Below.heap_alloc _ _ _ (by simp)]; exact heap_alloc_new w _, by have := heap_alloc_new (w.alloc (.cells #[.int .i64 n.k, .int .i64 n.op, .string n.s, .string n.t, .slice ak n.kids.length ck] 45)) (.cells #[.int .i64 p.l, .bool p.d, .bool p.i, .bool p.g, .bool p.s] 30); simpa using this, ⟨by omega, by intro e; cases e⟩, ⟨by omega, by intro e; cases e⟩⟩)
  have HK := Lib.hid (show ∀ w1, Below ((w.alloc (.cells #[.int .i64 n.k, .int .i64 n.op, .string n.s, .string n.t, .slice ak n.kids.length ck] 45)).alloc (.cells #[.int .i64 p.l, .bool p.d, .bool p.i, .bool p.g, .bool p.s] 30)).heap.size ((w.alloc (.cells #[.int .i64 n.k, .int .i64 n.op, .string n.s, .string n.t, .slice ak n.kids.length ck] 45)).alloc (.cells #[.int .i64 p.l, .bool p.d, .bool p.i, .bool p.g, .bool p.s] 30)) w1 → w1.cell? ⟨w.heap.size, 0, none⟩ = some (.int .i64 n.k) ∧ Below w.heap.size w w1 from fun w1 hb => ⟨(hb.cell (p := ⟨w.heap.size, 0, none⟩) (by simp; omega)).trans HX.out.1, (((Below.refl w.heap.size w).alloc (Nat.le_refl _) _).alloc (by simp) _).trans (hb.mono (by simp; omega))⟩)
  by_cases h15 : V = 15
  · have HE := Lib.hid (show full n p = (n.k == 4) by unfold full; rw [HV.out, h15]; rfl)
    subst h15
    clear hV
    go_enter Tryz.func31, Tryz.ntmps31
    go_wp2_with fail
    refine (lv.impl_level n.k n.op n.s n.t ak n.kids.length ck _).mono ?_
    rw [HV.out]
    rintro e w1 ⟨rfl, b1⟩
    obtain ⟨c0, B1⟩ := HK.out w1 b1
    have HB1 := Lib.hid B1
    clear b1 B1
    go_wp2
    all_goals
      go_ret
      exact ⟨by rw [HE.out]; rfl, HB1.out⟩
  · have HE := Lib.hid (show full n p = true by unfold full; rw [HV.out]; simp [h15])
    obtain ⟨e15, e15'⟩ := rt.ne_facts h15
    clear hV h15
    go_enter Tryz.func31, Tryz.ntmps31
    go_wp2_with fail
    refine (lv.impl_level n.k n.op n.s n.t ak n.kids.length ck _).mono ?_
    rw [HV.out]
    rintro e w1 ⟨rfl, b1⟩
    obtain ⟨c0, B1⟩ := HK.out w1 b1
    have HB1 := Lib.hid B1
    clear b1 B1
    go_wp2
    all_goals
      go_ret
      exact ⟨by rw [HE.out]; rfl, HB1.out⟩

/-- What a call of F answers at node i: the tokens T. -/
def CallE (F : FuncId) (w0 : World) (a : Option Addr) (m cap : Nat) (fv : Value) (i : Nat) (R : Ps → List Tk) : Prop :=
  ∀ (q : Ps), posOk q.l q.d = true → ∀ (v : Value) (ts : List Tk) (w : World), St w0 a m cap fv v ts w → ts.length + (R q).length ≤ 1048576 →
    Calls Tryz.prog F #[.pointer (some ⟨w0.heap.size, 0, none⟩), .int .i64 (i : Int), .agg #[.int .i64 q.l, .bool q.d, .bool q.i, .bool q.g, .bool q.s]] w (Put w0 a m cap fv v ts (R q) w)
theorem kid_cell {n : Nd} {ak : Option Addr} {w0 w : World} (hi : Ints w0.heap.size w0 ak n.kids) (hb : Below w0.heap.size w0 w) {K : Nat} (hK : K < n.kids.length) (hk : n.kids.getD K 0 = (kd n K : Int)) :
    ∃ bk ok, ak = some ⟨bk, ok, none⟩ ∧ bk < w0.heap.size ∧ w.cell? ⟨bk, ok + K, none⟩ = some (.int .i64 (kd n K : Int)) := by
  obtain ⟨bk, ok, e, hlt, hc⟩ := nd.ints_at hi hK
  refine ⟨bk, ok, e, hlt, ?_⟩
  rw [hb.cell (p := ⟨bk, ok + K, none⟩) hlt, hc K hK, ← hk, List.getD_eq_getElem?_getD, List.getElem?_eq_getElem hK]
  rfl

set_option maxHeartbeats 1600000 in
theorem kid_any {w0 : World} {a : Option Addr} {m cap : Nat} {fv : Value} {F : Nat → Ps → List Tk} {v : Value} {ts : List Tk} (n : Nd) (ak : Option Addr) (ck : Nat) (p : Ps) (K : Nat) (hK : K < n.kids.length) (w : World) (hp : posOk p.l p.d = true) (hq : posOk (kp n K p).l (kp n K p).d = true) (hn : n.kids.length ≤ 1048576) (hkd : n.kids.getD K 0 = (kd n K : Int)) (hi : Ints w0.heap.size w0 ak n.kids)
    (hE : CallE 25 w0 a m cap fv (kd n K) (F (kd n K))) (hst : St w0 a m cap fv v ts w) (hl : ts.length + (F (kd n K) (kp n K p)).length ≤ 1048576) :
    Calls Tryz.prog 119 #[.pointer (some ⟨w0.heap.size, 0, none⟩), .agg #[.int .i64 n.k, .int .i64 n.op, .string n.s, .string n.t, .slice ak n.kids.length ck], .int .i64 (K : Int), .agg #[.int .i64 p.l, .bool p.d, .bool p.i, .bool p.g, .bool p.s]] w (Put w0 a m cap fv v ts (F (kd n K) (kp n K p)) w) := by
  obtain ⟨X0, S0, G0⟩ := Fm.start hst n ak ck p
  obtain ⟨bk, ok, rfl, hbk, hkc⟩ := kid_cell (w := (w.alloc (.cells #[.int .i64 n.k, .int .i64 n.op, .string n.s, .string n.t, .slice ak n.kids.length ck] 45)).alloc (.cells #[.int .i64 p.l, .bool p.d, .bool p.i, .bool p.g, .bool p.s] 30)) hi S0.bel hK hkd
  have HX := Lib.hid X0
  have HS := Lib.hid S0
  have HG := Lib.hid G0
  have HE := Lib.hid hE
  have HL := Lib.hid hl
  have HQ := Lib.hid hq
  have hlt0 := hst.lt
  have Y0 := Lib.hid (And.intro X0.drew.c (cell_drew hkc))
  have HN := Lib.hid hn
  have hk1 : (0 : Int) ≤ (n.kids.length : Int) := by omega
  have hk2 : ((K : Int)) < (n.kids.length : Int) := by omega
  have HKB := Lib.hid (show ∀ w1 : World, Below ((w.alloc (.cells #[.int .i64 n.k, .int .i64 n.op, .string n.s, .string n.t, .slice (some ⟨bk, ok, none⟩) n.kids.length ck] 45)).alloc (.cells #[.int .i64 p.l, .bool p.d, .bool p.i, .bool p.g, .bool p.s] 30)).heap.size ((w.alloc (.cells #[.int .i64 n.k, .int .i64 n.op, .string n.s, .string n.t, .slice (some ⟨bk, ok, none⟩) n.kids.length ck] 45)).alloc (.cells #[.int .i64 p.l, .bool p.d, .bool p.i, .bool p.g, .bool p.s] 30)) w1 → w1.cell? ⟨bk, ok + K, none⟩ = some (.int .i64 (kd n K : Int)) from fun w1 hb => (hb.cell (p := ⟨bk, ok + K, none⟩) (by simp; omega)).trans hkc)
  have HPS := Lib.hid (show ∀ W, Calls Tryz.prog 145 #[.agg #[.int .i64 n.k, .int .i64 n.op, .string n.s, .string n.t, .slice (some ⟨bk, ok, none⟩) n.kids.length ck], .int .i64 (K : Int), .agg #[.int .i64 p.l, .bool p.d, .bool p.i, .bool p.g, .bool p.s]] W fun e w' => e = .returned (.agg #[.int .i64 (kp n K p).l, .bool (kp n K p).d, .bool (kp n K p).i, .bool (kp n K p).g, .bool (kp n K p).s]) ∧ Below W.heap.size W w' from fun W => ps.impl_kidPos n.k n.op n.s n.t _ n.kids.length ck (K : Int) p.l p.d p.i p.g p.s W hn)
  clear X0 S0 G0 hE hst hl hq hkc hi
  obtain ⟨W0, hW0⟩ : ∃ W, W = (w.alloc (.cells #[.int .i64 n.k, .int .i64 n.op, .string n.s, .string n.t, .slice (some ⟨bk, ok, none⟩) n.kids.length ck] 45)).alloc (.cells #[.int .i64 p.l, .bool p.d, .bool p.i, .bool p.g, .bool p.s] 30) := ⟨_, rfl⟩
  go_enter Tryz.func119, Tryz.ntmps119
  go_wp2_with fail
  rw [← hW0] at HX HS HG Y0 HKB ⊢
  clear hW0
  go_region_held3 (fun w' => (w'.cell? ⟨w.heap.size, 0, none⟩ = some (.int .i64 n.k) ∧ w'.cell? ⟨w.heap.size, 1, none⟩ = some (.int .i64 n.op) ∧ w'.cell? ⟨w.heap.size, 2, none⟩ = some (.string n.s) ∧ w'.cell? ⟨w.heap.size, 3, none⟩ = some (.string n.t) ∧ w'.cell? ⟨w.heap.size, 4, none⟩ = some (.slice (some ⟨bk, ok, none⟩) n.kids.length ck) ∧ w'.cell? ⟨(w.heap.size + 1), 0, none⟩ = some (.int .i64 p.l) ∧ w'.cell? ⟨(w.heap.size + 1), 1, none⟩ = some (.bool p.d) ∧ w'.cell? ⟨(w.heap.size + 1), 2, none⟩ = some (.bool p.i) ∧ w'.cell? ⟨(w.heap.size + 1), 3, none⟩ = some (.bool p.g) ∧ w'.cell? ⟨(w.heap.size + 1), 4, none⟩ = some (.bool p.s)) ∧ w'.cell? ⟨bk, ok + K, none⟩ = some (.int .i64 (kd n K : Int)))
    (first | with_reducible exact Y0.out | with_reducible exact Y1.out | with_reducible exact Y2.out)
    (first | (go_at_call 145; refine (HPS.out _).mono ?_; rintro e w1 ⟨rfl, b1⟩; have X1 := Lib.hid (HX.out.keepQ (undrew b1)); have S1 := Lib.hid (HS.out.keep (undrew b1)); have K1 := Lib.hid (HKB.out _ (undrew b1)); have Y1 := Lib.hid (And.intro X1.out.c K1.out); have G1 := Lib.hid (Gr.trans HG.out (Gr.quiet (undrew b1))); clear b1) | (go_at_call 25; refine (HE.out _ HQ.out _ _ _ S1.out HL.out).mono ?_; rintro e w2 ⟨rfl, hput⟩; obtain ⟨v2, s2, g2⟩ := hput; have X2 := Lib.hid (X1.out.on g2); have S2 := Lib.hid s2; have G2 := Lib.hid (G1.out.trans g2); have Y2 := Lib.hid (And.intro X2.out.c ((s2.bel.cell (p := ⟨bk, ok + K, none⟩) hbk).trans ((S1.out.bel.cell (p := ⟨bk, ok + K, none⟩) hbk).symm.trans K1.out))); clear s2 g2))
  go_wp2
  go_end0
  exact ⟨rfl, v2, S2.out, G2.out⟩

set_option maxHeartbeats 1600000 in
theorem target_any {w0 : World} {a : Option Addr} {m cap : Nat} {fv : Value} {F : Nat → Ps → List Tk} {v : Value} {ts : List Tk} (n : Nd) (ak : Option Addr) (ck : Nat) (p : Ps) (hK : 0 < n.kids.length) (w : World) (hp : posOk p.l p.d = true) (hq : posOk (kp n 0 p).l (kp n 0 p).d = true) (hn : n.kids.length ≤ 1048576) (hkd : n.kids.getD 0 0 = (kd n 0 : Int)) (hi : Ints w0.heap.size w0 ak n.kids)
    (hE : CallE 45 w0 a m cap fv (kd n 0) (F (kd n 0))) (hst : St w0 a m cap fv v ts w) (hl : ts.length + (F (kd n 0) (kp n 0 p)).length ≤ 1048576) :
    Calls Tryz.prog 120 #[.pointer (some ⟨w0.heap.size, 0, none⟩), .agg #[.int .i64 n.k, .int .i64 n.op, .string n.s, .string n.t, .slice ak n.kids.length ck], .agg #[.int .i64 p.l, .bool p.d, .bool p.i, .bool p.g, .bool p.s]] w (Put w0 a m cap fv v ts (F (kd n 0) (kp n 0 p)) w) := by
  obtain ⟨X0, S0, G0⟩ := Fm.start hst n ak ck p
  obtain ⟨bk, ok, rfl, hbk, hkc⟩ := kid_cell (w := (w.alloc (.cells #[.int .i64 n.k, .int .i64 n.op, .string n.s, .string n.t, .slice ak n.kids.length ck] 45)).alloc (.cells #[.int .i64 p.l, .bool p.d, .bool p.i, .bool p.g, .bool p.s] 30)) hi S0.bel hK hkd
  rw [Nat.add_zero] at hkc
  have HX := Lib.hid X0
  have HS := Lib.hid S0
  have HG := Lib.hid G0
  have HE := Lib.hid hE
  have HL := Lib.hid hl
  have HQ := Lib.hid hq
  have hlt0 := hst.lt
  have Y0 := Lib.hid (And.intro X0.drew.c (cell_drew hkc))
  have HN := Lib.hid hn
  have hk1 : (0 : Int) ≤ (n.kids.length : Int) := by omega
  have hk2 : ((0 : Int)) < (n.kids.length : Int) := by omega
  have HKB := Lib.hid (show ∀ w1 : World, Below ((w.alloc (.cells #[.int .i64 n.k, .int .i64 n.op, .string n.s, .string n.t, .slice (some ⟨bk, ok, none⟩) n.kids.length ck] 45)).alloc (.cells #[.int .i64 p.l, .bool p.d, .bool p.i, .bool p.g, .bool p.s] 30)).heap.size ((w.alloc (.cells #[.int .i64 n.k, .int .i64 n.op, .string n.s, .string n.t, .slice (some ⟨bk, ok, none⟩) n.kids.length ck] 45)).alloc (.cells #[.int .i64 p.l, .bool p.d, .bool p.i, .bool p.g, .bool p.s] 30)) w1 → w1.cell? ⟨bk, ok, none⟩ = some (.int .i64 (kd n 0 : Int)) from fun w1 hb => (hb.cell (p := ⟨bk, ok, none⟩) (by simp; omega)).trans hkc)
  have HPS := Lib.hid (show ∀ W, Calls Tryz.prog 145 #[.agg #[.int .i64 n.k, .int .i64 n.op, .string n.s, .string n.t, .slice (some ⟨bk, ok, none⟩) n.kids.length ck], .int .i64 0, .agg #[.int .i64 p.l, .bool p.d, .bool p.i, .bool p.g, .bool p.s]] W fun e w' => e = .returned (.agg #[.int .i64 (kp n 0 p).l, .bool (kp n 0 p).d, .bool (kp n 0 p).i, .bool (kp n 0 p).g, .bool (kp n 0 p).s]) ∧ Below W.heap.size W w' from fun W => ps.impl_kidPos n.k n.op n.s n.t _ n.kids.length ck 0 p.l p.d p.i p.g p.s W hn)
  clear X0 S0 G0 hE hst hl hq hkc hi
  obtain ⟨W0, hW0⟩ : ∃ W, W = (w.alloc (.cells #[.int .i64 n.k, .int .i64 n.op, .string n.s, .string n.t, .slice (some ⟨bk, ok, none⟩) n.kids.length ck] 45)).alloc (.cells #[.int .i64 p.l, .bool p.d, .bool p.i, .bool p.g, .bool p.s] 30) := ⟨_, rfl⟩
  go_enter Tryz.func120, Tryz.ntmps120
  go_wp2_with fail
  rw [← hW0] at HX HS HG Y0 HKB ⊢
  clear hW0
  go_region_held3 (fun w' => (w'.cell? ⟨w.heap.size, 0, none⟩ = some (.int .i64 n.k) ∧ w'.cell? ⟨w.heap.size, 1, none⟩ = some (.int .i64 n.op) ∧ w'.cell? ⟨w.heap.size, 2, none⟩ = some (.string n.s) ∧ w'.cell? ⟨w.heap.size, 3, none⟩ = some (.string n.t) ∧ w'.cell? ⟨w.heap.size, 4, none⟩ = some (.slice (some ⟨bk, ok, none⟩) n.kids.length ck) ∧ w'.cell? ⟨(w.heap.size + 1), 0, none⟩ = some (.int .i64 p.l) ∧ w'.cell? ⟨(w.heap.size + 1), 1, none⟩ = some (.bool p.d) ∧ w'.cell? ⟨(w.heap.size + 1), 2, none⟩ = some (.bool p.i) ∧ w'.cell? ⟨(w.heap.size + 1), 3, none⟩ = some (.bool p.g) ∧ w'.cell? ⟨(w.heap.size + 1), 4, none⟩ = some (.bool p.s)) ∧ w'.cell? ⟨bk, ok, none⟩ = some (.int .i64 (kd n 0 : Int)))
    (first | with_reducible exact Y0.out | with_reducible exact Y1.out | with_reducible exact Y2.out)
    (first | (go_at_call 145; refine (HPS.out _).mono ?_; rintro e w1 ⟨rfl, b1⟩; have X1 := Lib.hid (HX.out.keepQ (undrew b1)); have S1 := Lib.hid (HS.out.keep (undrew b1)); have K1 := Lib.hid (HKB.out _ (undrew b1)); have Y1 := Lib.hid (And.intro X1.out.c K1.out); have G1 := Lib.hid (Gr.trans HG.out (Gr.quiet (undrew b1))); clear b1) | (go_at_call 45; refine (HE.out _ HQ.out _ _ _ S1.out HL.out).mono ?_; rintro e w2 ⟨rfl, hput⟩; obtain ⟨v2, s2, g2⟩ := hput; have X2 := Lib.hid (X1.out.on g2); have S2 := Lib.hid s2; have G2 := Lib.hid (G1.out.trans g2); have Y2 := Lib.hid (And.intro X2.out.c ((s2.bel.cell (p := ⟨bk, ok, none⟩) hbk).trans ((S1.out.bel.cell (p := ⟨bk, ok, none⟩) hbk).symm.trans K1.out))); clear s2 g2))
  go_wp2
  go_end0
  exact ⟨rfl, v2, S2.out, G2.out⟩
end Go.Proofs.YtdikohegclooiaaGreatDoor.tw

namespace Go.Proofs.YtdikohegclooiaaGreatDoor.tw
open Go.ChangeShapes Go.WideShapes Go.ChangeAt Go.RowKit
open tk (Tk)
open own
open nd (Nd Ints)
open ps (Ps posOk kidI top)
open spell (Held)
open et
set_option linter.unusedVariables false
set_option maxRecDepth 20000

theorem lst_succ (E : Nat → Ps → List Tk) (n : Nd) (J : Nat) : lst E n (J + 1) = lst E n J ++ (if J = 0 then [] else [tok 36]) ++ E (kd n J) top := rfl
theorem lst_le (E : Nat → Ps → List Tk) (n : Nd) (J : Nat) : ∀ d, (lst E n J).length ≤ (lst E n (J + d)).length := by
  intro d
  induction d with
  | zero => exact Nat.le_refl _
  | succ d ih =>
    refine Nat.le_trans ih ?_
    rw [← Nat.add_assoc, lst_succ, List.length_append, List.length_append]
    omega
theorem lst_to (E : Nat → Ps → List Tk) (n : Nd) {J K : Nat} (h : J ≤ K) : (lst E n J).length ≤ (lst E n K).length := by
  obtain ⟨d, rfl⟩ : ∃ d, K = J + d := ⟨K - J, by omega⟩
  exact lst_le E n J d
def RelLi (w0 : World) (a : Option Addr) (m cap : Nat) (fv v : Value) (ts : List Tk) (E : Nat → Ps → List Tk) (n : Nd) (f : Int) (w : World) (i : Value) (wr : World) : Prop :=
  ∃ (J : Nat) (v' : Value), J ≤ n.kids.length ∧ i = .int .i64 (J : Int) ∧ St w0 a m cap fv v' (ts ++ (tok f :: lst E n J)) wr ∧ Gr w0.heap.size v v' w wr

set_option maxHeartbeats 1600000 in
theorem list_any {w0 : World} {a : Option Addr} {m cap : Nat} {fv : Value} {E : Nat → Ps → List Tk} {v : Value} {ts : List Tk} (n : Nd) (ak : Option Addr) (ck : Nat) (f g : Int) (w : World) (hh : Held w0) (hn : n.kids.length ≤ 1048576) (hkd : ∀ K, K < n.kids.length → n.kids.getD K 0 = (kd n K : Int)) (hi : Ints w0.heap.size w0 ak n.kids)
    (hE : ∀ K, K < n.kids.length → CallE 25 w0 a m cap fv (kd n K) (E (kd n K))) (hst : St w0 a m cap fv v ts w) (hl : ts.length + (brack E n f g).length ≤ 1048576) :
    Calls Tryz.prog 118 #[.pointer (some ⟨w0.heap.size, 0, none⟩), .agg #[.int .i64 n.k, .int .i64 n.op, .string n.s, .string n.t, .slice ak n.kids.length ck], .int .i64 f, .int .i64 g] w (Put w0 a m cap fv v ts (brack E n f g) w) := by
  have HH := Lib.hid hh
  have HKD := Lib.hid hkd
  have HI := Lib.hid hi
  have HE := Lib.hid hE
  have hl2 : ts.length + (lst E n n.kids.length).length + 2 ≤ 1048576 := by
    simp only [brack, List.length_cons, List.length_append, List.length_nil] at hl
    omega
  have HL := Lib.hid hl2
  have HS := Lib.hid (hst.alloc (.cells #[.int .i64 n.k, .int .i64 n.op, .string n.s, .string n.t, .slice ak n.kids.length ck] 45))
  have HG := Lib.hid (show Gr w0.heap.size v v w (w.alloc (.cells #[.int .i64 n.k, .int .i64 n.op, .string n.s, .string n.t, .slice ak n.kids.length ck] 45)) from Gr.quiet ((Below.refl _ _).alloc (Nat.le_refl _) _))
  have HB := Lib.hid (show ∀ v' w', Gr w0.heap.size v v' (w.alloc (.cells #[.int .i64 n.k, .int .i64 n.op, .string n.s, .string n.t, .slice ak n.kids.length ck] 45)) w' → w'.cell? ⟨w.heap.size, 4, none⟩ = some (.slice ak n.kids.length ck) from fun v' w' hg => by
    have hx := hg.keep w.heap.size (by simp) (by have := hst.lt; omega) (hst.new (Nat.le_refl _))
    rw [cell_of_row w' _ 4 _ _ _ (hx.trans (heap_alloc_new w (.cells #[.int .i64 n.k, .int .i64 n.op, .string n.s, .string n.t, .slice ak n.kids.length ck] 45)))]; rfl)
  obtain ⟨nk, hnk⟩ : ∃ nk, n.kids.length = nk := ⟨_, rfl⟩
  have HNK := Lib.hid hnk
  rw [hnk] at HL HS HG HB hn
  rw [hnk]
  clear hh hkd hi hE hl hl2 hst hnk
  go_enter Tryz.func118, Tryz.ntmps118
  go_wp2_with fail
  refine (symbol_any HH.out f _ (by have := HL.out; omega) HS.out).mono ?_
  rintro e w1 ⟨rfl, v1, s1, g1⟩
  have S1 := Lib.hid s1
  have G1 := Lib.hid (HG.out.trans g1)
  have c4 := HB.out v1 w1 g1
  clear s1 g1
  go_wp2
  go_loopw [16] (fun i wr => RelLi w0 a m cap fv v ts E n f w i wr) (fun i _ => nk - (intOf i).toNat)
  case atStart => exact ⟨0, v1, by omega, rfl, S1.out, G1.out⟩
  case round =>
    obtain ⟨J, v2, hJ, rfl, s2, g2⟩ := hrel
    have S2 := Lib.hid s2
    have G2 := Lib.hid g2
    rw [HNK.out] at hJ
    clear s2 g2
    by_cases hlt : J < nk
    · have hltk : J < n.kids.length := by have := HNK.out; omega
      obtain ⟨bk, ok, rfl, hbk, hkc⟩ := kid_cell HI.out S2.out.bel hltk (HKD.out J hltk)
      have hle := lst_to E n (show J + 1 ≤ n.kids.length by omega)
      rw [lst_succ, List.length_append, List.length_append, HNK.out] at hle
      have hi1 : (J : Int) < (nk : Int) := by omega
      have HEJ := Lib.hid (HE.out J hltk)
      by_cases h0 : J = 0
      · subst h0
        have HL1 := Lib.hid (show (ts ++ (tok f :: lst E n 0)).length + (E (kd n 0) top).length ≤ 1048576 by have := HL.out; simp only [List.length_cons, List.length_append] at *; omega)
        simp only [Nat.add_zero] at hkc
        clear hle
        go_wp2_with fail
        refine (ps.impl_top _).mono ?_
        rintro e w3 ⟨rfl, b3⟩
        have S3 := Lib.hid (S2.out.keep b3)
        have G3 := Lib.hid (G2.out.trans (Gr.quiet b3))
        clear b3
        go_wp2_with fail
        refine (HEJ.out top top_ok _ _ _ S3.out HL1.out).mono ?_
        rintro e w4 ⟨rfl, v4, s4, g4⟩
        have S4 := Lib.hid s4
        have G4 := Lib.hid (G3.out.trans g4)
        clear s4 g4
        go_wp2
        go_roundw
        case rel =>
          refine ⟨1, v4, by omega, rfl, ?_, G4.out⟩
          have := S4.out
          rw [lst_succ]
          simpa only [List.append_assoc, List.cons_append, List.nil_append, if_pos, lst] using this
        case measure => simp [intOf]; omega
      · have hj0 : (0 : Int) < (J : Int) := by omega
        rw [if_neg h0] at hle
        have HL0 := Lib.hid (show (ts ++ (tok f :: lst E n J)).length ≤ 1048576 by have := HL.out; simp only [List.length_cons, List.length_append] at *; omega)
        have HL1 := Lib.hid (show ((ts ++ (tok f :: lst E n J)) ++ [tok 36]).length + (E (kd n J) top).length ≤ 1048576 by have := HL.out; simp only [List.length_cons, List.length_append, List.length_nil] at *; omega)
        clear hle
        go_wp2_with fail
        refine (symbol_any HH.out 36 _ HL0.out S2.out).mono ?_
        rintro e w3 ⟨rfl, v3, s3, g3⟩
        have S3 := Lib.hid s3
        have G3 := Lib.hid (G2.out.trans g3)
        clear s3 g3
        go_wp2_with fail
        refine (ps.impl_top _).mono ?_
        rintro e w4 ⟨rfl, b4⟩
        have S4 := Lib.hid (S3.out.keep b4)
        have G4 := Lib.hid (G3.out.trans (Gr.quiet b4))
        clear b4
        go_wp2_with fail
        refine (HEJ.out top top_ok _ _ _ S4.out HL1.out).mono ?_
        rintro e w5 ⟨rfl, v5, s5, g5⟩
        have S5 := Lib.hid s5
        have G5 := Lib.hid (G4.out.trans g5)
        clear s5 g5
        go_wp2
        go_roundw
        case rel =>
          refine ⟨J + 1, v5, by omega, by go_num, ?_, G5.out⟩
          have := S5.out
          rw [lst_succ, if_neg h0]
          simpa only [List.append_assoc, List.cons_append, List.nil_append] using this
        case measure => simp [intOf]; omega
    · obtain rfl : J = nk := by omega
      have HL1 := Lib.hid (show (ts ++ (tok f :: lst E n J)).length ≤ 1048576 by have := HL.out; simp only [List.length_cons, List.length_append] at *; omega)
      go_wp2_with fail
      refine (symbol_any HH.out g _ HL1.out S2.out).mono ?_
      rintro e w3 ⟨rfl, v3, s3, g3⟩
      have S3 := Lib.hid s3
      have G3 := Lib.hid (G2.out.trans g3)
      clear s3 g3
      go_wp2
      go_end0
      refine ⟨rfl, v3, ?_, G3.out⟩
      have := S3.out
      unfold brack
      rw [HNK.out]
      simpa only [List.append_assoc, List.cons_append, List.nil_append] using this
end Go.Proofs.YtdikohegclooiaaGreatDoor.tw

namespace Go.Proofs.YtdikohegclooiaaGreatDoor.tw
open Go.ChangeShapes Go.WideShapes Go.ChangeAt Go.RowKit
open tk (Tk)
open own
open nd (Nd Ints)
open ps (Ps posOk kidI top)
open spell (Held)
open et
set_option linter.unusedVariables false
set_option linter.unusedSimpArgs false
set_option maxRecDepth 20000

theorem kid_lit {w0 : World} {a : Option Addr} {m cap : Nat} {fv : Value} {F : Nat → Ps → List Tk} {v : Value} {ts : List Tk} (n : Nd) (ak : Option Addr) (ck : Nat) (p : Ps) (K : Nat) (Ki : Int) (hKi : Ki = (K : Int)) (hK : K < n.kids.length) (w : World) (hp : posOk p.l p.d = true) (hq : posOk (kp n K p).l (kp n K p).d = true) (hn : n.kids.length ≤ 1048576) (hkd : n.kids.getD K 0 = (kd n K : Int)) (hi : Ints w0.heap.size w0 ak n.kids)
    (hE : CallE 25 w0 a m cap fv (kd n K) (F (kd n K))) (hst : St w0 a m cap fv v ts w) (hl : ts.length + (F (kd n K) (kp n Ki p)).length ≤ 1048576) :
    Calls Tryz.prog 119 #[.pointer (some ⟨w0.heap.size, 0, none⟩), .agg #[.int .i64 n.k, .int .i64 n.op, .string n.s, .string n.t, .slice ak n.kids.length ck], .int .i64 Ki, .agg #[.int .i64 p.l, .bool p.d, .bool p.i, .bool p.g, .bool p.s]] w (Put w0 a m cap fv v ts (F (kd n K) (kp n Ki p)) w) := by
  subst hKi
  exact kid_any n ak ck p K hK w hp hq hn hkd hi hE hst hl

/-- What a method is given: a node of a right tree, a valid position, the contracts for its kids. -/
structure Giv (w0 : World) (a : Option Addr) (m cap : Nat) (fv : Value) (l : List Nd) (i : Nat) (n : Nd) (ak : Option Addr) (p : Ps) (E U : Nat → Ps → List Tk) : Prop where
  held : Held w0
  good : et.Good l i n
  row : Ints w0.heap.size w0 ak n.kids
  pos : posOk p.l p.d = true
  e : ∀ K, K < n.kids.length → CallE 25 w0 a m cap fv (kd n K) (E (kd n K))
  u : 0 < n.kids.length → CallE 45 w0 a m cap fv (kd n 0) (U (kd n 0))
theorem Giv.kp {w0 : World} {a : Option Addr} {m cap : Nat} {fv : Value} {l : List Nd} {i : Nat} {n : Nd} {ak : Option Addr} {p : Ps} {E U : Nat → Ps → List Tk} (h : Giv w0 a m cap fv l i n ak p E U) {K : Nat} (hK : K < n.kids.length) : posOk (et.kp n K p).l (et.kp n K p).d = true := (kp_ok h.good h.pos hK).1
theorem Giv.kd {w0 : World} {a : Option Addr} {m cap : Nat} {fv : Value} {l : List Nd} {i : Nat} {n : Nd} {ak : Option Addr} {p : Ps} {E U : Nat → Ps → List Tk} (h : Giv w0 a m cap fv l i n ak p E U) {K : Nat} (hK : K < n.kids.length) : n.kids.getD K 0 = (et.kd n K : Int) := (h.good.kids K hK).2.1
theorem Giv.len {w0 : World} {a : Option Addr} {m cap : Nat} {fv : Value} {l : List Nd} {i : Nat} {n : Nd} {ak : Option Addr} {p : Ps} {E U : Nat → Ps → List Tk} (h : Giv w0 a m cap fv l i n ak p E U) : n.kids.length ≤ 1048576 := by have := h.good.most; omega

set_option maxHeartbeats 1600000 in
theorem m_name {w0 : World} {a : Option Addr} {m cap : Nat} {fv : Value} {l : List Nd} {i : Nat} {E U : Nat → Ps → List Tk} {v : Value} {ts : List Tk} (n : Nd) (ak : Option Addr) (ck : Nat) (p : Ps) (w : World) (hc : n.k = 1) (hv : Giv w0 a m cap fv l i n ak p E U) (hst : St w0 a m cap fv v ts w) (hl : ts.length + (body E U n p).length ≤ 1048576) :
    Calls Tryz.prog 100 #[.pointer (some ⟨w0.heap.size, 0, none⟩), .agg #[.int .i64 n.k, .int .i64 n.op, .string n.s, .string n.t, .slice ak n.kids.length ck], .agg #[.int .i64 p.l, .bool p.d, .bool p.i, .bool p.g, .bool p.s]] w (Put w0 a m cap fv v ts (body E U n p) w) := by
  obtain ⟨x0, s0, g0⟩ := Fm.start hst n ak ck p
  obtain ⟨c0, c1, c2, c3, c4, d0, d1, d2, d3, d4⟩ := x0.c
  have X0 := Lib.hid x0
  have S0 := Lib.hid s0
  have G0 := Lib.hid g0
  have HV := Lib.hid hv
  rw [body_1 hc] at hl ⊢
  clear x0 s0 g0 hv hst hc
  try simp only [List.length_append, List.length_cons, List.length_nil] at hl
  have L0 := Lib.hid (show (ts).length + ([nam 6 n.s]).length ≤ 1048576 by (try simp only [List.length_append, List.length_cons, List.length_nil]); omega)
  clear hl
  go_enter Tryz.func100, Tryz.ntmps100
  go_wp2_with fail
  refine (add_any 6 n.s _ (by have := L0.out; omega) S0.out).mono ?_
  rintro e w1 ⟨rfl, v1, s1, g1⟩
  have X1 := Lib.hid (X0.out.on g1)
  have S1 := Lib.hid s1
  have G1 := Lib.hid (G0.out.trans g1)
  clear c0 c1 c2 c3 c4 d0 d1 d2 d3 d4 s1 g1
  go_wp2
  go_end0
  refine ⟨rfl, v1, ?_, G1.out⟩
  have := S1.out
  first | exact this | simpa only [List.append_assoc, List.cons_append, List.nil_append, nam] using this

set_option maxHeartbeats 1600000 in
theorem m_number {w0 : World} {a : Option Addr} {m cap : Nat} {fv : Value} {l : List Nd} {i : Nat} {E U : Nat → Ps → List Tk} {v : Value} {ts : List Tk} (n : Nd) (ak : Option Addr) (ck : Nat) (p : Ps) (w : World) (hc : n.k = 2) (hv : Giv w0 a m cap fv l i n ak p E U) (hst : St w0 a m cap fv v ts w) (hl : ts.length + (body E U n p).length ≤ 1048576) :
    Calls Tryz.prog 86 #[.pointer (some ⟨w0.heap.size, 0, none⟩), .agg #[.int .i64 n.k, .int .i64 n.op, .string n.s, .string n.t, .slice ak n.kids.length ck], .agg #[.int .i64 p.l, .bool p.d, .bool p.i, .bool p.g, .bool p.s]] w (Put w0 a m cap fv v ts (body E U n p) w) := by
  obtain ⟨x0, s0, g0⟩ := Fm.start hst n ak ck p
  obtain ⟨c0, c1, c2, c3, c4, d0, d1, d2, d3, d4⟩ := x0.c
  have X0 := Lib.hid x0
  have S0 := Lib.hid s0
  have G0 := Lib.hid g0
  have HV := Lib.hid hv
  rw [body_2 hc] at hl ⊢
  clear x0 s0 g0 hv hst hc
  try simp only [List.length_append, List.length_cons, List.length_nil] at hl
  have L0 := Lib.hid (show (ts).length + ([nam 3 n.s]).length ≤ 1048576 by (try simp only [List.length_append, List.length_cons, List.length_nil]); omega)
  clear hl
  go_enter Tryz.func86, Tryz.ntmps86
  go_wp2_with fail
  refine (add_any 3 n.s _ (by have := L0.out; omega) S0.out).mono ?_
  rintro e w1 ⟨rfl, v1, s1, g1⟩
  have X1 := Lib.hid (X0.out.on g1)
  have S1 := Lib.hid s1
  have G1 := Lib.hid (G0.out.trans g1)
  clear c0 c1 c2 c3 c4 d0 d1 d2 d3 d4 s1 g1
  go_wp2
  go_end0
  refine ⟨rfl, v1, ?_, G1.out⟩
  have := S1.out
  first | exact this | simpa only [List.append_assoc, List.cons_append, List.nil_append, nam] using this

set_option maxHeartbeats 1600000 in
theorem m_str {w0 : World} {a : Option Addr} {m cap : Nat} {fv : Value} {l : List Nd} {i : Nat} {E U : Nat → Ps → List Tk} {v : Value} {ts : List Tk} (n : Nd) (ak : Option Addr) (ck : Nat) (p : Ps) (w : World) (hc : n.k = 3) (hv : Giv w0 a m cap fv l i n ak p E U) (hst : St w0 a m cap fv v ts w) (hl : ts.length + (body E U n p).length ≤ 1048576) :
    Calls Tryz.prog 87 #[.pointer (some ⟨w0.heap.size, 0, none⟩), .agg #[.int .i64 n.k, .int .i64 n.op, .string n.s, .string n.t, .slice ak n.kids.length ck], .agg #[.int .i64 p.l, .bool p.d, .bool p.i, .bool p.g, .bool p.s]] w (Put w0 a m cap fv v ts (body E U n p) w) := by
  obtain ⟨x0, s0, g0⟩ := Fm.start hst n ak ck p
  obtain ⟨c0, c1, c2, c3, c4, d0, d1, d2, d3, d4⟩ := x0.c
  have X0 := Lib.hid x0
  have S0 := Lib.hid s0
  have G0 := Lib.hid g0
  have HV := Lib.hid hv
  rw [body_3 hc] at hl ⊢
  clear x0 s0 g0 hv hst hc
  try simp only [List.length_append, List.length_cons, List.length_nil] at hl
  have L0 := Lib.hid (show (ts).length + ([nam 4 n.s]).length ≤ 1048576 by (try simp only [List.length_append, List.length_cons, List.length_nil]); omega)
  clear hl
  go_enter Tryz.func87, Tryz.ntmps87
  go_wp2_with fail
  refine (add_any 4 n.s _ (by have := L0.out; omega) S0.out).mono ?_
  rintro e w1 ⟨rfl, v1, s1, g1⟩
  have X1 := Lib.hid (X0.out.on g1)
  have S1 := Lib.hid s1
  have G1 := Lib.hid (G0.out.trans g1)
  clear c0 c1 c2 c3 c4 d0 d1 d2 d3 d4 s1 g1
  go_wp2
  go_end0
  refine ⟨rfl, v1, ?_, G1.out⟩
  have := S1.out
  first | exact this | simpa only [List.append_assoc, List.cons_append, List.nil_append, nam] using this

set_option maxHeartbeats 1600000 in
theorem m_ere {w0 : World} {a : Option Addr} {m cap : Nat} {fv : Value} {l : List Nd} {i : Nat} {E U : Nat → Ps → List Tk} {v : Value} {ts : List Tk} (n : Nd) (ak : Option Addr) (ck : Nat) (p : Ps) (w : World) (hc : n.k = 4) (hv : Giv w0 a m cap fv l i n ak p E U) (hst : St w0 a m cap fv v ts w) (hl : ts.length + (body E U n p).length ≤ 1048576) :
    Calls Tryz.prog 88 #[.pointer (some ⟨w0.heap.size, 0, none⟩), .agg #[.int .i64 n.k, .int .i64 n.op, .string n.s, .string n.t, .slice ak n.kids.length ck], .agg #[.int .i64 p.l, .bool p.d, .bool p.i, .bool p.g, .bool p.s]] w (Put w0 a m cap fv v ts (body E U n p) w) := by
  obtain ⟨x0, s0, g0⟩ := Fm.start hst n ak ck p
  obtain ⟨c0, c1, c2, c3, c4, d0, d1, d2, d3, d4⟩ := x0.c
  have X0 := Lib.hid x0
  have S0 := Lib.hid s0
  have G0 := Lib.hid g0
  have HV := Lib.hid hv
  rw [body_4 hc] at hl ⊢
  clear x0 s0 g0 hv hst hc
  try simp only [List.length_append, List.length_cons, List.length_nil] at hl
  have L0 := Lib.hid (show (ts).length + ([nam 5 n.s]).length ≤ 1048576 by (try simp only [List.length_append, List.length_cons, List.length_nil]); omega)
  clear hl
  go_enter Tryz.func88, Tryz.ntmps88
  go_wp2_with fail
  refine (add_any 5 n.s _ (by have := L0.out; omega) S0.out).mono ?_
  rintro e w1 ⟨rfl, v1, s1, g1⟩
  have X1 := Lib.hid (X0.out.on g1)
  have S1 := Lib.hid s1
  have G1 := Lib.hid (G0.out.trans g1)
  clear c0 c1 c2 c3 c4 d0 d1 d2 d3 d4 s1 g1
  go_wp2
  go_end0
  refine ⟨rfl, v1, ?_, G1.out⟩
  have := S1.out
  first | exact this | simpa only [List.append_assoc, List.cons_append, List.nil_append, nam] using this

set_option maxHeartbeats 1600000 in
theorem m_index {w0 : World} {a : Option Addr} {m cap : Nat} {fv : Value} {l : List Nd} {i : Nat} {E U : Nat → Ps → List Tk} {v : Value} {ts : List Tk} (n : Nd) (ak : Option Addr) (ck : Nat) (p : Ps) (w : World) (hc : n.k = 5) (hv : Giv w0 a m cap fv l i n ak p E U) (hst : St w0 a m cap fv v ts w) (hl : ts.length + (body E U n p).length ≤ 1048576) :
    Calls Tryz.prog 89 #[.pointer (some ⟨w0.heap.size, 0, none⟩), .agg #[.int .i64 n.k, .int .i64 n.op, .string n.s, .string n.t, .slice ak n.kids.length ck], .agg #[.int .i64 p.l, .bool p.d, .bool p.i, .bool p.g, .bool p.s]] w (Put w0 a m cap fv v ts (body E U n p) w) := by
  obtain ⟨x0, s0, g0⟩ := Fm.start hst n ak ck p
  obtain ⟨c0, c1, c2, c3, c4, d0, d1, d2, d3, d4⟩ := x0.c
  have X0 := Lib.hid x0
  have S0 := Lib.hid s0
  have G0 := Lib.hid g0
  have HV := Lib.hid hv
  rw [body_5 hc] at hl ⊢
  clear x0 s0 g0 hv hst hc
  try simp only [List.length_append, List.length_cons, List.length_nil] at hl
  have L0 := Lib.hid (show (ts).length + ([nam 6 n.s]).length ≤ 1048576 by (try simp only [List.length_append, List.length_cons, List.length_nil]); omega)
  have L1 := Lib.hid (show (ts ++ [nam 6 n.s]).length + (brack E n 34 35).length ≤ 1048576 by (try simp only [List.length_append, List.length_cons, List.length_nil]); omega)
  clear hl
  go_enter Tryz.func89, Tryz.ntmps89
  go_wp2_with fail
  refine (add_any 6 n.s _ (by have := L0.out; omega) S0.out).mono ?_
  rintro e w1 ⟨rfl, v1, s1, g1⟩
  have X1 := Lib.hid (X0.out.on g1)
  have S1 := Lib.hid s1
  have G1 := Lib.hid (G0.out.trans g1)
  clear c0 c1 c2 c3 c4 d0 d1 d2 d3 d4 s1 g1
  obtain ⟨c0, c1, c2, c3, c4, d0, d1, d2, d3, d4⟩ := X1.out.c
  go_wp2_with fail
  refine (list_any (E := E) n ak ck 34 35 _ HV.out.held HV.out.len (fun K hK => HV.out.kd hK) HV.out.row HV.out.e S1.out L1.out).mono ?_
  rintro e w2 ⟨rfl, v2, s2, g2⟩
  have X2 := Lib.hid (X1.out.on g2)
  have S2 := Lib.hid s2
  have G2 := Lib.hid (G1.out.trans g2)
  clear c0 c1 c2 c3 c4 d0 d1 d2 d3 d4 s2 g2
  go_wp2
  go_end0
  refine ⟨rfl, v2, ?_, G2.out⟩
  have := S2.out
  first | exact this | simpa only [List.append_assoc, List.cons_append, List.nil_append, nam] using this

set_option maxHeartbeats 1600000 in
theorem m_field {w0 : World} {a : Option Addr} {m cap : Nat} {fv : Value} {l : List Nd} {i : Nat} {E U : Nat → Ps → List Tk} {v : Value} {ts : List Tk} (n : Nd) (ak : Option Addr) (ck : Nat) (p : Ps) (w : World) (hc : n.k = 6) (hv : Giv w0 a m cap fv l i n ak p E U) (hst : St w0 a m cap fv v ts w) (hl : ts.length + (body E U n p).length ≤ 1048576) :
    Calls Tryz.prog 90 #[.pointer (some ⟨w0.heap.size, 0, none⟩), .agg #[.int .i64 n.k, .int .i64 n.op, .string n.s, .string n.t, .slice ak n.kids.length ck], .agg #[.int .i64 p.l, .bool p.d, .bool p.i, .bool p.g, .bool p.s]] w (Put w0 a m cap fv v ts (body E U n p) w) := by
  obtain ⟨x0, s0, g0⟩ := Fm.start hst n ak ck p
  obtain ⟨c0, c1, c2, c3, c4, d0, d1, d2, d3, d4⟩ := x0.c
  have X0 := Lib.hid x0
  have S0 := Lib.hid s0
  have G0 := Lib.hid g0
  have HV := Lib.hid hv
  have HK := Lib.hid (show n.kids.length = 1 from hv.good.one (.inl hc))
  rw [body_6 hc] at hl ⊢
  clear x0 s0 g0 hv hst hc
  try simp only [List.length_append, List.length_cons, List.length_nil] at hl
  have L0 := Lib.hid (show (ts).length + ([tok 68]).length ≤ 1048576 by (try simp only [List.length_append, List.length_cons, List.length_nil]); omega)
  have L1 := Lib.hid (show (ts ++ [tok 68]).length + (E (kd n 0) (kp n 0 p)).length ≤ 1048576 by (try simp only [List.length_append, List.length_cons, List.length_nil]); omega)
  clear hl
  go_enter Tryz.func90, Tryz.ntmps90
  go_wp2_with fail
  refine (symbol_any HV.out.held 68 _ (by have := L0.out; omega) S0.out).mono ?_
  rintro e w1 ⟨rfl, v1, s1, g1⟩
  have X1 := Lib.hid (X0.out.on g1)
  have S1 := Lib.hid s1
  have G1 := Lib.hid (G0.out.trans g1)
  clear c0 c1 c2 c3 c4 d0 d1 d2 d3 d4 s1 g1
  obtain ⟨c0, c1, c2, c3, c4, d0, d1, d2, d3, d4⟩ := X1.out.c
  go_wp2_with fail
  refine (kid_lit (F := E) n ak ck p 0 0 rfl (by have := HK.out; omega) _ HV.out.pos (HV.out.kp (by have := HK.out; omega)) HV.out.len (HV.out.kd (by have := HK.out; omega)) HV.out.row (HV.out.e 0 (by have := HK.out; omega)) S1.out L1.out).mono ?_
  rintro e w2 ⟨rfl, v2, s2, g2⟩
  have X2 := Lib.hid (X1.out.on g2)
  have S2 := Lib.hid s2
  have G2 := Lib.hid (G1.out.trans g2)
  clear c0 c1 c2 c3 c4 d0 d1 d2 d3 d4 s2 g2
  go_wp2
  go_end0
  refine ⟨rfl, v2, ?_, G2.out⟩
  have := S2.out
  first | exact this | simpa only [List.append_assoc, List.cons_append, List.nil_append, nam] using this

set_option maxHeartbeats 1600000 in
theorem m_call {w0 : World} {a : Option Addr} {m cap : Nat} {fv : Value} {l : List Nd} {i : Nat} {E U : Nat → Ps → List Tk} {v : Value} {ts : List Tk} (n : Nd) (ak : Option Addr) (ck : Nat) (p : Ps) (w : World) (hc : n.k = 7) (hv : Giv w0 a m cap fv l i n ak p E U) (hst : St w0 a m cap fv v ts w) (hl : ts.length + (body E U n p).length ≤ 1048576) :
    Calls Tryz.prog 91 #[.pointer (some ⟨w0.heap.size, 0, none⟩), .agg #[.int .i64 n.k, .int .i64 n.op, .string n.s, .string n.t, .slice ak n.kids.length ck], .agg #[.int .i64 p.l, .bool p.d, .bool p.i, .bool p.g, .bool p.s]] w (Put w0 a m cap fv v ts (body E U n p) w) := by
  obtain ⟨x0, s0, g0⟩ := Fm.start hst n ak ck p
  obtain ⟨c0, c1, c2, c3, c4, d0, d1, d2, d3, d4⟩ := x0.c
  have X0 := Lib.hid x0
  have S0 := Lib.hid s0
  have G0 := Lib.hid g0
  have HV := Lib.hid hv
  rw [body_7 hc] at hl ⊢
  clear x0 s0 g0 hv hst hc
  try simp only [List.length_append, List.length_cons, List.length_nil] at hl
  have L0 := Lib.hid (show (ts).length + ([nam 7 n.s]).length ≤ 1048576 by (try simp only [List.length_append, List.length_cons, List.length_nil]); omega)
  have L1 := Lib.hid (show (ts ++ [nam 7 n.s]).length + (brack E n 32 33).length ≤ 1048576 by (try simp only [List.length_append, List.length_cons, List.length_nil]); omega)
  clear hl
  go_enter Tryz.func91, Tryz.ntmps91
  go_wp2_with fail
  refine (add_any 7 n.s _ (by have := L0.out; omega) S0.out).mono ?_
  rintro e w1 ⟨rfl, v1, s1, g1⟩
  have X1 := Lib.hid (X0.out.on g1)
  have S1 := Lib.hid s1
  have G1 := Lib.hid (G0.out.trans g1)
  clear c0 c1 c2 c3 c4 d0 d1 d2 d3 d4 s1 g1
  obtain ⟨c0, c1, c2, c3, c4, d0, d1, d2, d3, d4⟩ := X1.out.c
  go_wp2_with fail
  refine (list_any (E := E) n ak ck 32 33 _ HV.out.held HV.out.len (fun K hK => HV.out.kd hK) HV.out.row HV.out.e S1.out L1.out).mono ?_
  rintro e w2 ⟨rfl, v2, s2, g2⟩
  have X2 := Lib.hid (X1.out.on g2)
  have S2 := Lib.hid s2
  have G2 := Lib.hid (G1.out.trans g2)
  clear c0 c1 c2 c3 c4 d0 d1 d2 d3 d4 s2 g2
  go_wp2
  go_end0
  refine ⟨rfl, v2, ?_, G2.out⟩
  have := S2.out
  first | exact this | simpa only [List.append_assoc, List.cons_append, List.nil_append, nam] using this

set_option maxHeartbeats 1600000 in
theorem m_builtin {w0 : World} {a : Option Addr} {m cap : Nat} {fv : Value} {l : List Nd} {i : Nat} {E U : Nat → Ps → List Tk} {v : Value} {ts : List Tk} (n : Nd) (ak : Option Addr) (ck : Nat) (p : Ps) (w : World) (hc : n.k = 8) (hv : Giv w0 a m cap fv l i n ak p E U) (hst : St w0 a m cap fv v ts w) (hl : ts.length + (body E U n p).length ≤ 1048576) :
    Calls Tryz.prog 92 #[.pointer (some ⟨w0.heap.size, 0, none⟩), .agg #[.int .i64 n.k, .int .i64 n.op, .string n.s, .string n.t, .slice ak n.kids.length ck], .agg #[.int .i64 p.l, .bool p.d, .bool p.i, .bool p.g, .bool p.s]] w (Put w0 a m cap fv v ts (body E U n p) w) := by
  obtain ⟨x0, s0, g0⟩ := Fm.start hst n ak ck p
  obtain ⟨c0, c1, c2, c3, c4, d0, d1, d2, d3, d4⟩ := x0.c
  have X0 := Lib.hid x0
  have S0 := Lib.hid s0
  have G0 := Lib.hid g0
  have HV := Lib.hid hv
  rw [body_8 hc] at hl ⊢
  clear x0 s0 g0 hv hst hc
  try simp only [List.length_append, List.length_cons, List.length_nil] at hl
  have L0 := Lib.hid (show (ts).length + ([nam 8 n.s]).length ≤ 1048576 by (try simp only [List.length_append, List.length_cons, List.length_nil]); omega)
  have L1 := Lib.hid (show (ts ++ [nam 8 n.s]).length + (brack E n 32 33).length ≤ 1048576 by (try simp only [List.length_append, List.length_cons, List.length_nil]); omega)
  clear hl
  go_enter Tryz.func92, Tryz.ntmps92
  go_wp2_with fail
  refine (add_any 8 n.s _ (by have := L0.out; omega) S0.out).mono ?_
  rintro e w1 ⟨rfl, v1, s1, g1⟩
  have X1 := Lib.hid (X0.out.on g1)
  have S1 := Lib.hid s1
  have G1 := Lib.hid (G0.out.trans g1)
  clear c0 c1 c2 c3 c4 d0 d1 d2 d3 d4 s1 g1
  obtain ⟨c0, c1, c2, c3, c4, d0, d1, d2, d3, d4⟩ := X1.out.c
  go_wp2_with fail
  refine (list_any (E := E) n ak ck 32 33 _ HV.out.held HV.out.len (fun K hK => HV.out.kd hK) HV.out.row HV.out.e S1.out L1.out).mono ?_
  rintro e w2 ⟨rfl, v2, s2, g2⟩
  have X2 := Lib.hid (X1.out.on g2)
  have S2 := Lib.hid s2
  have G2 := Lib.hid (G1.out.trans g2)
  clear c0 c1 c2 c3 c4 d0 d1 d2 d3 d4 s2 g2
  go_wp2
  go_end0
  refine ⟨rfl, v2, ?_, G2.out⟩
  have := S2.out
  first | exact this | simpa only [List.append_assoc, List.cons_append, List.nil_append, nam] using this

set_option maxHeartbeats 1600000 in
theorem m_pre {w0 : World} {a : Option Addr} {m cap : Nat} {fv : Value} {l : List Nd} {i : Nat} {E U : Nat → Ps → List Tk} {v : Value} {ts : List Tk} (n : Nd) (ak : Option Addr) (ck : Nat) (p : Ps) (w : World) (hc : n.k = 9) (hv : Giv w0 a m cap fv l i n ak p E U) (hst : St w0 a m cap fv v ts w) (hl : ts.length + (body E U n p).length ≤ 1048576) :
    Calls Tryz.prog 93 #[.pointer (some ⟨w0.heap.size, 0, none⟩), .agg #[.int .i64 n.k, .int .i64 n.op, .string n.s, .string n.t, .slice ak n.kids.length ck], .agg #[.int .i64 p.l, .bool p.d, .bool p.i, .bool p.g, .bool p.s]] w (Put w0 a m cap fv v ts (body E U n p) w) := by
  obtain ⟨x0, s0, g0⟩ := Fm.start hst n ak ck p
  obtain ⟨c0, c1, c2, c3, c4, d0, d1, d2, d3, d4⟩ := x0.c
  have X0 := Lib.hid x0
  have S0 := Lib.hid s0
  have G0 := Lib.hid g0
  have HV := Lib.hid hv
  have HK := Lib.hid (show n.kids.length = 1 from hv.good.one (.inr (.inl hc)))
  rw [body_9 hc] at hl ⊢
  clear x0 s0 g0 hv hst hc
  try simp only [List.length_append, List.length_cons, List.length_nil] at hl
  have L0 := Lib.hid (show (ts).length + ([tok n.op]).length ≤ 1048576 by (try simp only [List.length_append, List.length_cons, List.length_nil]); omega)
  have L1 := Lib.hid (show (ts ++ [tok n.op]).length + (U (kd n 0) (kp n 0 p)).length ≤ 1048576 by (try simp only [List.length_append, List.length_cons, List.length_nil]); omega)
  clear hl
  go_enter Tryz.func93, Tryz.ntmps93
  go_wp2_with fail
  refine (symbol_any HV.out.held n.op _ (by have := L0.out; omega) S0.out).mono ?_
  rintro e w1 ⟨rfl, v1, s1, g1⟩
  have X1 := Lib.hid (X0.out.on g1)
  have S1 := Lib.hid s1
  have G1 := Lib.hid (G0.out.trans g1)
  clear c0 c1 c2 c3 c4 d0 d1 d2 d3 d4 s1 g1
  obtain ⟨c0, c1, c2, c3, c4, d0, d1, d2, d3, d4⟩ := X1.out.c
  go_wp2_with fail
  refine (target_any (F := U) n ak ck p (by have := HK.out; omega) _ HV.out.pos (HV.out.kp (K := 0) (by have := HK.out; omega)) HV.out.len (HV.out.kd (by have := HK.out; omega)) HV.out.row (HV.out.u (by have := HK.out; omega)) S1.out L1.out).mono ?_
  rintro e w2 ⟨rfl, v2, s2, g2⟩
  have X2 := Lib.hid (X1.out.on g2)
  have S2 := Lib.hid s2
  have G2 := Lib.hid (G1.out.trans g2)
  clear c0 c1 c2 c3 c4 d0 d1 d2 d3 d4 s2 g2
  go_wp2
  go_end0
  refine ⟨rfl, v2, ?_, G2.out⟩
  have := S2.out
  first | exact this | simpa only [List.append_assoc, List.cons_append, List.nil_append, nam] using this

set_option maxHeartbeats 1600000 in
theorem m_post {w0 : World} {a : Option Addr} {m cap : Nat} {fv : Value} {l : List Nd} {i : Nat} {E U : Nat → Ps → List Tk} {v : Value} {ts : List Tk} (n : Nd) (ak : Option Addr) (ck : Nat) (p : Ps) (w : World) (hc : n.k = 10) (hv : Giv w0 a m cap fv l i n ak p E U) (hst : St w0 a m cap fv v ts w) (hl : ts.length + (body E U n p).length ≤ 1048576) :
    Calls Tryz.prog 94 #[.pointer (some ⟨w0.heap.size, 0, none⟩), .agg #[.int .i64 n.k, .int .i64 n.op, .string n.s, .string n.t, .slice ak n.kids.length ck], .agg #[.int .i64 p.l, .bool p.d, .bool p.i, .bool p.g, .bool p.s]] w (Put w0 a m cap fv v ts (body E U n p) w) := by
  obtain ⟨x0, s0, g0⟩ := Fm.start hst n ak ck p
  obtain ⟨c0, c1, c2, c3, c4, d0, d1, d2, d3, d4⟩ := x0.c
  have X0 := Lib.hid x0
  have S0 := Lib.hid s0
  have G0 := Lib.hid g0
  have HV := Lib.hid hv
  have HK := Lib.hid (show n.kids.length = 1 from hv.good.one (.inr (.inr (.inl hc))))
  rw [body_10 hc] at hl ⊢
  clear x0 s0 g0 hv hst hc
  try simp only [List.length_append, List.length_cons, List.length_nil] at hl
  have L0 := Lib.hid (show (ts).length + (U (kd n 0) (kp n 0 p)).length ≤ 1048576 by (try simp only [List.length_append, List.length_cons, List.length_nil]); omega)
  have L1 := Lib.hid (show (ts ++ U (kd n 0) (kp n 0 p)).length + ([tok n.op]).length ≤ 1048576 by (try simp only [List.length_append, List.length_cons, List.length_nil]); omega)
  clear hl
  go_enter Tryz.func94, Tryz.ntmps94
  go_wp2_with fail
  refine (target_any (F := U) n ak ck p (by have := HK.out; omega) _ HV.out.pos (HV.out.kp (K := 0) (by have := HK.out; omega)) HV.out.len (HV.out.kd (by have := HK.out; omega)) HV.out.row (HV.out.u (by have := HK.out; omega)) S0.out L0.out).mono ?_
  rintro e w1 ⟨rfl, v1, s1, g1⟩
  have X1 := Lib.hid (X0.out.on g1)
  have S1 := Lib.hid s1
  have G1 := Lib.hid (G0.out.trans g1)
  clear c0 c1 c2 c3 c4 d0 d1 d2 d3 d4 s1 g1
  obtain ⟨c0, c1, c2, c3, c4, d0, d1, d2, d3, d4⟩ := X1.out.c
  go_wp2_with fail
  refine (symbol_any HV.out.held n.op _ (by have := L1.out; omega) S1.out).mono ?_
  rintro e w2 ⟨rfl, v2, s2, g2⟩
  have X2 := Lib.hid (X1.out.on g2)
  have S2 := Lib.hid s2
  have G2 := Lib.hid (G1.out.trans g2)
  clear c0 c1 c2 c3 c4 d0 d1 d2 d3 d4 s2 g2
  go_wp2
  go_end0
  refine ⟨rfl, v2, ?_, G2.out⟩
  have := S2.out
  first | exact this | simpa only [List.append_assoc, List.cons_append, List.nil_append, nam] using this

set_option maxHeartbeats 1600000 in
theorem m_unary {w0 : World} {a : Option Addr} {m cap : Nat} {fv : Value} {l : List Nd} {i : Nat} {E U : Nat → Ps → List Tk} {v : Value} {ts : List Tk} (n : Nd) (ak : Option Addr) (ck : Nat) (p : Ps) (w : World) (hc : n.k = 11) (hv : Giv w0 a m cap fv l i n ak p E U) (hst : St w0 a m cap fv v ts w) (hl : ts.length + (body E U n p).length ≤ 1048576) :
    Calls Tryz.prog 95 #[.pointer (some ⟨w0.heap.size, 0, none⟩), .agg #[.int .i64 n.k, .int .i64 n.op, .string n.s, .string n.t, .slice ak n.kids.length ck], .agg #[.int .i64 p.l, .bool p.d, .bool p.i, .bool p.g, .bool p.s]] w (Put w0 a m cap fv v ts (body E U n p) w) := by
  obtain ⟨x0, s0, g0⟩ := Fm.start hst n ak ck p
  obtain ⟨c0, c1, c2, c3, c4, d0, d1, d2, d3, d4⟩ := x0.c
  have X0 := Lib.hid x0
  have S0 := Lib.hid s0
  have G0 := Lib.hid g0
  have HV := Lib.hid hv
  have HK := Lib.hid (show n.kids.length = 1 from hv.good.one (.inr (.inr (.inr hc))))
  rw [body_11 hc] at hl ⊢
  clear x0 s0 g0 hv hst hc
  try simp only [List.length_append, List.length_cons, List.length_nil] at hl
  have L0 := Lib.hid (show (ts).length + ([tok n.op]).length ≤ 1048576 by (try simp only [List.length_append, List.length_cons, List.length_nil]); omega)
  have L1 := Lib.hid (show (ts ++ [tok n.op]).length + (E (kd n 0) (kp n 0 p)).length ≤ 1048576 by (try simp only [List.length_append, List.length_cons, List.length_nil]); omega)
  clear hl
  go_enter Tryz.func95, Tryz.ntmps95
  go_wp2_with fail
  refine (symbol_any HV.out.held n.op _ (by have := L0.out; omega) S0.out).mono ?_
  rintro e w1 ⟨rfl, v1, s1, g1⟩
  have X1 := Lib.hid (X0.out.on g1)
  have S1 := Lib.hid s1
  have G1 := Lib.hid (G0.out.trans g1)
  clear c0 c1 c2 c3 c4 d0 d1 d2 d3 d4 s1 g1
  obtain ⟨c0, c1, c2, c3, c4, d0, d1, d2, d3, d4⟩ := X1.out.c
  go_wp2_with fail
  refine (kid_lit (F := E) n ak ck p 0 0 rfl (by have := HK.out; omega) _ HV.out.pos (HV.out.kp (by have := HK.out; omega)) HV.out.len (HV.out.kd (by have := HK.out; omega)) HV.out.row (HV.out.e 0 (by have := HK.out; omega)) S1.out L1.out).mono ?_
  rintro e w2 ⟨rfl, v2, s2, g2⟩
  have X2 := Lib.hid (X1.out.on g2)
  have S2 := Lib.hid s2
  have G2 := Lib.hid (G1.out.trans g2)
  clear c0 c1 c2 c3 c4 d0 d1 d2 d3 d4 s2 g2
  go_wp2
  go_end0
  refine ⟨rfl, v2, ?_, G2.out⟩
  have := S2.out
  first | exact this | simpa only [List.append_assoc, List.cons_append, List.nil_append, nam] using this

set_option maxHeartbeats 1600000 in
theorem m_binary {w0 : World} {a : Option Addr} {m cap : Nat} {fv : Value} {l : List Nd} {i : Nat} {E U : Nat → Ps → List Tk} {v : Value} {ts : List Tk} (n : Nd) (ak : Option Addr) (ck : Nat) (p : Ps) (w : World) (hc : n.k = 12) (hv : Giv w0 a m cap fv l i n ak p E U) (hst : St w0 a m cap fv v ts w) (hl : ts.length + (body E U n p).length ≤ 1048576) :
    Calls Tryz.prog 96 #[.pointer (some ⟨w0.heap.size, 0, none⟩), .agg #[.int .i64 n.k, .int .i64 n.op, .string n.s, .string n.t, .slice ak n.kids.length ck], .agg #[.int .i64 p.l, .bool p.d, .bool p.i, .bool p.g, .bool p.s]] w (Put w0 a m cap fv v ts (body E U n p) w) := by
  obtain ⟨x0, s0, g0⟩ := Fm.start hst n ak ck p
  obtain ⟨c0, c1, c2, c3, c4, d0, d1, d2, d3, d4⟩ := x0.c
  have X0 := Lib.hid x0
  have S0 := Lib.hid s0
  have G0 := Lib.hid g0
  have HV := Lib.hid hv
  have HK := Lib.hid (show n.kids.length = 2 from hv.good.two (.inl hc))
  rw [body_12 hc] at hl ⊢
  clear x0 s0 g0 hv hst hc
  by_cases hq : n.op = 99
  · rw [if_pos hq] at hl ⊢
    obtain ⟨q1, q2⟩ := rt.eq_facts hq
    try simp only [List.length_append, List.length_cons, List.length_nil] at hl
    have L0 := Lib.hid (show (ts).length + (E (kd n 0) (kp n 0 p)).length ≤ 1048576 by (try simp only [List.length_append, List.length_cons, List.length_nil]); omega)
    have L1 := Lib.hid (show (ts ++ E (kd n 0) (kp n 0 p)).length + (E (kd n 1) (kp n 1 p)).length ≤ 1048576 by (try simp only [List.length_append, List.length_cons, List.length_nil]); omega)
    clear hl hq
    go_enter Tryz.func96, Tryz.ntmps96
    go_wp2_with fail
    refine (kid_lit (F := E) n ak ck p 0 0 rfl (by have := HK.out; omega) _ HV.out.pos (HV.out.kp (by have := HK.out; omega)) HV.out.len (HV.out.kd (by have := HK.out; omega)) HV.out.row (HV.out.e 0 (by have := HK.out; omega)) S0.out L0.out).mono ?_
    rintro e w1 ⟨rfl, v1, s1, g1⟩
    have X1 := Lib.hid (X0.out.on g1)
    have S1 := Lib.hid s1
    have G1 := Lib.hid (G0.out.trans g1)
    clear c0 c1 c2 c3 c4 d0 d1 d2 d3 d4 s1 g1
    obtain ⟨c0, c1, c2, c3, c4, d0, d1, d2, d3, d4⟩ := X1.out.c
    go_wp2_with fail
    refine (kid_lit (F := E) n ak ck p 1 1 rfl (by have := HK.out; omega) _ HV.out.pos (HV.out.kp (by have := HK.out; omega)) HV.out.len (HV.out.kd (by have := HK.out; omega)) HV.out.row (HV.out.e 1 (by have := HK.out; omega)) S1.out L1.out).mono ?_
    rintro e w2 ⟨rfl, v2, s2, g2⟩
    have X2 := Lib.hid (X1.out.on g2)
    have S2 := Lib.hid s2
    have G2 := Lib.hid (G1.out.trans g2)
    clear c0 c1 c2 c3 c4 d0 d1 d2 d3 d4 s2 g2
    go_wp2
    go_end0
    refine ⟨rfl, v2, ?_, G2.out⟩
    have := S2.out
    first | exact this | simpa only [List.append_assoc, List.cons_append, List.nil_append, nam] using this
  · rw [if_neg hq] at hl ⊢
    obtain ⟨q1, q2⟩ := rt.ne_facts hq
    try simp only [List.length_append, List.length_cons, List.length_nil] at hl
    have L0 := Lib.hid (show (ts).length + (E (kd n 0) (kp n 0 p)).length ≤ 1048576 by (try simp only [List.length_append, List.length_cons, List.length_nil]); omega)
    have L1 := Lib.hid (show (ts ++ E (kd n 0) (kp n 0 p)).length + ([tok n.op]).length ≤ 1048576 by (try simp only [List.length_append, List.length_cons, List.length_nil]); omega)
    have L2 := Lib.hid (show (ts ++ E (kd n 0) (kp n 0 p) ++ [tok n.op]).length + (E (kd n 1) (kp n 1 p)).length ≤ 1048576 by (try simp only [List.length_append, List.length_cons, List.length_nil]); omega)
    clear hl hq
    go_enter Tryz.func96, Tryz.ntmps96
    go_wp2_with fail
    refine (kid_lit (F := E) n ak ck p 0 0 rfl (by have := HK.out; omega) _ HV.out.pos (HV.out.kp (by have := HK.out; omega)) HV.out.len (HV.out.kd (by have := HK.out; omega)) HV.out.row (HV.out.e 0 (by have := HK.out; omega)) S0.out L0.out).mono ?_
    rintro e w1 ⟨rfl, v1, s1, g1⟩
    have X1 := Lib.hid (X0.out.on g1)
    have S1 := Lib.hid s1
    have G1 := Lib.hid (G0.out.trans g1)
    clear c0 c1 c2 c3 c4 d0 d1 d2 d3 d4 s1 g1
    obtain ⟨c0, c1, c2, c3, c4, d0, d1, d2, d3, d4⟩ := X1.out.c
    go_wp2_with fail
    refine (symbol_any HV.out.held n.op _ (by have := L1.out; omega) S1.out).mono ?_
    rintro e w2 ⟨rfl, v2, s2, g2⟩
    have X2 := Lib.hid (X1.out.on g2)
    have S2 := Lib.hid s2
    have G2 := Lib.hid (G1.out.trans g2)
    clear c0 c1 c2 c3 c4 d0 d1 d2 d3 d4 s2 g2
    obtain ⟨c0, c1, c2, c3, c4, d0, d1, d2, d3, d4⟩ := X2.out.c
    go_wp2_with fail
    refine (kid_lit (F := E) n ak ck p 1 1 rfl (by have := HK.out; omega) _ HV.out.pos (HV.out.kp (by have := HK.out; omega)) HV.out.len (HV.out.kd (by have := HK.out; omega)) HV.out.row (HV.out.e 1 (by have := HK.out; omega)) S2.out L2.out).mono ?_
    rintro e w3 ⟨rfl, v3, s3, g3⟩
    have X3 := Lib.hid (X2.out.on g3)
    have S3 := Lib.hid s3
    have G3 := Lib.hid (G2.out.trans g3)
    clear c0 c1 c2 c3 c4 d0 d1 d2 d3 d4 s3 g3
    go_wp2
    go_end0
    refine ⟨rfl, v3, ?_, G3.out⟩
    have := S3.out
    first | exact this | simpa only [List.append_assoc, List.cons_append, List.nil_append, nam] using this

set_option maxHeartbeats 1600000 in
theorem m_in {w0 : World} {a : Option Addr} {m cap : Nat} {fv : Value} {l : List Nd} {i : Nat} {E U : Nat → Ps → List Tk} {v : Value} {ts : List Tk} (n : Nd) (ak : Option Addr) (ck : Nat) (p : Ps) (w : World) (hc : n.k = 13) (hv : Giv w0 a m cap fv l i n ak p E U) (hst : St w0 a m cap fv v ts w) (hl : ts.length + (body E U n p).length ≤ 1048576) :
    Calls Tryz.prog 97 #[.pointer (some ⟨w0.heap.size, 0, none⟩), .agg #[.int .i64 n.k, .int .i64 n.op, .string n.s, .string n.t, .slice ak n.kids.length ck], .agg #[.int .i64 p.l, .bool p.d, .bool p.i, .bool p.g, .bool p.s]] w (Put w0 a m cap fv v ts (body E U n p) w) := by
  obtain ⟨x0, s0, g0⟩ := Fm.start hst n ak ck p
  obtain ⟨c0, c1, c2, c3, c4, d0, d1, d2, d3, d4⟩ := x0.c
  have X0 := Lib.hid x0
  have S0 := Lib.hid s0
  have G0 := Lib.hid g0
  have HV := Lib.hid hv
  have HK := Lib.hid (hv.good.least (.inr hc))
  rw [body_13 hc] at hl ⊢
  clear x0 s0 g0 hv hst hc
  by_cases hq : 1 < n.kids.length
  · rw [if_pos hq] at hl ⊢
    have q1 : (1 : Int) < (n.kids.length : Int) := by omega
    have q3 : n.kids.length ≤ 1048576 := HV.out.len
    try simp only [List.length_append, List.length_cons, List.length_nil] at hl
    have L0 := Lib.hid (show (ts).length + (brack E n 32 33).length ≤ 1048576 by (try simp only [List.length_append, List.length_cons, List.length_nil]); omega)
    have L1 := Lib.hid (show (ts ++ brack E n 32 33).length + ([tok 24]).length ≤ 1048576 by (try simp only [List.length_append, List.length_cons, List.length_nil]); omega)
    have L2 := Lib.hid (show (ts ++ brack E n 32 33 ++ [tok 24]).length + ([nam 6 n.s]).length ≤ 1048576 by (try simp only [List.length_append, List.length_cons, List.length_nil]); omega)
    clear hl hq
    go_enter Tryz.func97, Tryz.ntmps97
    go_wp2_with fail
    refine (list_any (E := E) n ak ck 32 33 _ HV.out.held HV.out.len (fun K hK => HV.out.kd hK) HV.out.row HV.out.e S0.out L0.out).mono ?_
    rintro e w1 ⟨rfl, v1, s1, g1⟩
    have X1 := Lib.hid (X0.out.on g1)
    have S1 := Lib.hid s1
    have G1 := Lib.hid (G0.out.trans g1)
    clear c0 c1 c2 c3 c4 d0 d1 d2 d3 d4 s1 g1
    obtain ⟨c0, c1, c2, c3, c4, d0, d1, d2, d3, d4⟩ := X1.out.c
    go_wp2_with fail
    refine (symbol_any HV.out.held 24 _ (by have := L1.out; omega) S1.out).mono ?_
    rintro e w2 ⟨rfl, v2, s2, g2⟩
    have X2 := Lib.hid (X1.out.on g2)
    have S2 := Lib.hid s2
    have G2 := Lib.hid (G1.out.trans g2)
    clear c0 c1 c2 c3 c4 d0 d1 d2 d3 d4 s2 g2
    obtain ⟨c0, c1, c2, c3, c4, d0, d1, d2, d3, d4⟩ := X2.out.c
    go_wp2_with fail
    refine (add_any 6 n.s _ (by have := L2.out; omega) S2.out).mono ?_
    rintro e w3 ⟨rfl, v3, s3, g3⟩
    have X3 := Lib.hid (X2.out.on g3)
    have S3 := Lib.hid s3
    have G3 := Lib.hid (G2.out.trans g3)
    clear c0 c1 c2 c3 c4 d0 d1 d2 d3 d4 s3 g3
    go_wp2
    go_end0
    refine ⟨rfl, v3, ?_, G3.out⟩
    have := S3.out
    first | exact this | simpa only [List.append_assoc, List.cons_append, List.nil_append, nam] using this
  · rw [if_neg hq] at hl ⊢
    have q1 : ¬ (1 : Int) < (n.kids.length : Int) := by omega
    have q3 : n.kids.length ≤ 1048576 := HV.out.len
    try simp only [List.length_append, List.length_cons, List.length_nil] at hl
    have L0 := Lib.hid (show (ts).length + (E (kd n 0) (kp n 0 p)).length ≤ 1048576 by (try simp only [List.length_append, List.length_cons, List.length_nil]); omega)
    have L1 := Lib.hid (show (ts ++ E (kd n 0) (kp n 0 p)).length + ([tok 24]).length ≤ 1048576 by (try simp only [List.length_append, List.length_cons, List.length_nil]); omega)
    have L2 := Lib.hid (show (ts ++ E (kd n 0) (kp n 0 p) ++ [tok 24]).length + ([nam 6 n.s]).length ≤ 1048576 by (try simp only [List.length_append, List.length_cons, List.length_nil]); omega)
    clear hl hq
    go_enter Tryz.func97, Tryz.ntmps97
    go_wp2_with fail
    refine (kid_lit (F := E) n ak ck p 0 0 rfl (by have := HK.out; omega) _ HV.out.pos (HV.out.kp (by have := HK.out; omega)) HV.out.len (HV.out.kd (by have := HK.out; omega)) HV.out.row (HV.out.e 0 (by have := HK.out; omega)) S0.out L0.out).mono ?_
    rintro e w1 ⟨rfl, v1, s1, g1⟩
    have X1 := Lib.hid (X0.out.on g1)
    have S1 := Lib.hid s1
    have G1 := Lib.hid (G0.out.trans g1)
    clear c0 c1 c2 c3 c4 d0 d1 d2 d3 d4 s1 g1
    obtain ⟨c0, c1, c2, c3, c4, d0, d1, d2, d3, d4⟩ := X1.out.c
    go_wp2_with fail
    refine (symbol_any HV.out.held 24 _ (by have := L1.out; omega) S1.out).mono ?_
    rintro e w2 ⟨rfl, v2, s2, g2⟩
    have X2 := Lib.hid (X1.out.on g2)
    have S2 := Lib.hid s2
    have G2 := Lib.hid (G1.out.trans g2)
    clear c0 c1 c2 c3 c4 d0 d1 d2 d3 d4 s2 g2
    obtain ⟨c0, c1, c2, c3, c4, d0, d1, d2, d3, d4⟩ := X2.out.c
    go_wp2_with fail
    refine (add_any 6 n.s _ (by have := L2.out; omega) S2.out).mono ?_
    rintro e w3 ⟨rfl, v3, s3, g3⟩
    have X3 := Lib.hid (X2.out.on g3)
    have S3 := Lib.hid s3
    have G3 := Lib.hid (G2.out.trans g3)
    clear c0 c1 c2 c3 c4 d0 d1 d2 d3 d4 s3 g3
    go_wp2
    go_end0
    refine ⟨rfl, v3, ?_, G3.out⟩
    have := S3.out
    first | exact this | simpa only [List.append_assoc, List.cons_append, List.nil_append, nam] using this

set_option maxHeartbeats 1600000 in
theorem m_cond {w0 : World} {a : Option Addr} {m cap : Nat} {fv : Value} {l : List Nd} {i : Nat} {E U : Nat → Ps → List Tk} {v : Value} {ts : List Tk} (n : Nd) (ak : Option Addr) (ck : Nat) (p : Ps) (w : World) (hc : n.k = 14) (hv : Giv w0 a m cap fv l i n ak p E U) (hst : St w0 a m cap fv v ts w) (hl : ts.length + (body E U n p).length ≤ 1048576) :
    Calls Tryz.prog 98 #[.pointer (some ⟨w0.heap.size, 0, none⟩), .agg #[.int .i64 n.k, .int .i64 n.op, .string n.s, .string n.t, .slice ak n.kids.length ck], .agg #[.int .i64 p.l, .bool p.d, .bool p.i, .bool p.g, .bool p.s]] w (Put w0 a m cap fv v ts (body E U n p) w) := by
  obtain ⟨x0, s0, g0⟩ := Fm.start hst n ak ck p
  obtain ⟨c0, c1, c2, c3, c4, d0, d1, d2, d3, d4⟩ := x0.c
  have X0 := Lib.hid x0
  have S0 := Lib.hid s0
  have G0 := Lib.hid g0
  have HV := Lib.hid hv
  have HK := Lib.hid (show n.kids.length = 3 from hv.good.three hc)
  rw [body_14 hc] at hl ⊢
  clear x0 s0 g0 hv hst hc
  try simp only [List.length_append, List.length_cons, List.length_nil] at hl
  have L0 := Lib.hid (show (ts).length + (E (kd n 0) (kp n 0 p)).length ≤ 1048576 by (try simp only [List.length_append, List.length_cons, List.length_nil]); omega)
  have L1 := Lib.hid (show (ts ++ E (kd n 0) (kp n 0 p)).length + ([tok 65]).length ≤ 1048576 by (try simp only [List.length_append, List.length_cons, List.length_nil]); omega)
  have L2 := Lib.hid (show (ts ++ E (kd n 0) (kp n 0 p) ++ [tok 65]).length + (E (kd n 1) (kp n 1 p)).length ≤ 1048576 by (try simp only [List.length_append, List.length_cons, List.length_nil]); omega)
  have L3 := Lib.hid (show (ts ++ E (kd n 0) (kp n 0 p) ++ [tok 65] ++ E (kd n 1) (kp n 1 p)).length + ([tok 66]).length ≤ 1048576 by (try simp only [List.length_append, List.length_cons, List.length_nil]); omega)
  have L4 := Lib.hid (show (ts ++ E (kd n 0) (kp n 0 p) ++ [tok 65] ++ E (kd n 1) (kp n 1 p) ++ [tok 66]).length + (E (kd n 2) (kp n 2 p)).length ≤ 1048576 by (try simp only [List.length_append, List.length_cons, List.length_nil]); omega)
  clear hl
  go_enter Tryz.func98, Tryz.ntmps98
  go_wp2_with fail
  refine (kid_lit (F := E) n ak ck p 0 0 rfl (by have := HK.out; omega) _ HV.out.pos (HV.out.kp (by have := HK.out; omega)) HV.out.len (HV.out.kd (by have := HK.out; omega)) HV.out.row (HV.out.e 0 (by have := HK.out; omega)) S0.out L0.out).mono ?_
  rintro e w1 ⟨rfl, v1, s1, g1⟩
  have X1 := Lib.hid (X0.out.on g1)
  have S1 := Lib.hid s1
  have G1 := Lib.hid (G0.out.trans g1)
  clear c0 c1 c2 c3 c4 d0 d1 d2 d3 d4 s1 g1
  obtain ⟨c0, c1, c2, c3, c4, d0, d1, d2, d3, d4⟩ := X1.out.c
  go_wp2_with fail
  refine (symbol_any HV.out.held 65 _ (by have := L1.out; omega) S1.out).mono ?_
  rintro e w2 ⟨rfl, v2, s2, g2⟩
  have X2 := Lib.hid (X1.out.on g2)
  have S2 := Lib.hid s2
  have G2 := Lib.hid (G1.out.trans g2)
  clear c0 c1 c2 c3 c4 d0 d1 d2 d3 d4 s2 g2
  obtain ⟨c0, c1, c2, c3, c4, d0, d1, d2, d3, d4⟩ := X2.out.c
  go_wp2_with fail
  refine (kid_lit (F := E) n ak ck p 1 1 rfl (by have := HK.out; omega) _ HV.out.pos (HV.out.kp (by have := HK.out; omega)) HV.out.len (HV.out.kd (by have := HK.out; omega)) HV.out.row (HV.out.e 1 (by have := HK.out; omega)) S2.out L2.out).mono ?_
  rintro e w3 ⟨rfl, v3, s3, g3⟩
  have X3 := Lib.hid (X2.out.on g3)
  have S3 := Lib.hid s3
  have G3 := Lib.hid (G2.out.trans g3)
  clear c0 c1 c2 c3 c4 d0 d1 d2 d3 d4 s3 g3
  obtain ⟨c0, c1, c2, c3, c4, d0, d1, d2, d3, d4⟩ := X3.out.c
  go_wp2_with fail
  refine (symbol_any HV.out.held 66 _ (by have := L3.out; omega) S3.out).mono ?_
  rintro e w4 ⟨rfl, v4, s4, g4⟩
  have X4 := Lib.hid (X3.out.on g4)
  have S4 := Lib.hid s4
  have G4 := Lib.hid (G3.out.trans g4)
  clear c0 c1 c2 c3 c4 d0 d1 d2 d3 d4 s4 g4
  obtain ⟨c0, c1, c2, c3, c4, d0, d1, d2, d3, d4⟩ := X4.out.c
  go_wp2_with fail
  refine (kid_lit (F := E) n ak ck p 2 2 rfl (by have := HK.out; omega) _ HV.out.pos (HV.out.kp (by have := HK.out; omega)) HV.out.len (HV.out.kd (by have := HK.out; omega)) HV.out.row (HV.out.e 2 (by have := HK.out; omega)) S4.out L4.out).mono ?_
  rintro e w5 ⟨rfl, v5, s5, g5⟩
  have X5 := Lib.hid (X4.out.on g5)
  have S5 := Lib.hid s5
  have G5 := Lib.hid (G4.out.trans g5)
  clear c0 c1 c2 c3 c4 d0 d1 d2 d3 d4 s5 g5
  go_wp2
  go_end0
  refine ⟨rfl, v5, ?_, G5.out⟩
  have := S5.out
  first | exact this | simpa only [List.append_assoc, List.cons_append, List.nil_append, nam] using this

set_option maxHeartbeats 1600000 in
theorem m_assign {w0 : World} {a : Option Addr} {m cap : Nat} {fv : Value} {l : List Nd} {i : Nat} {E U : Nat → Ps → List Tk} {v : Value} {ts : List Tk} (n : Nd) (ak : Option Addr) (ck : Nat) (p : Ps) (w : World) (hc : n.k = 15) (hv : Giv w0 a m cap fv l i n ak p E U) (hst : St w0 a m cap fv v ts w) (hl : ts.length + (body E U n p).length ≤ 1048576) :
    Calls Tryz.prog 99 #[.pointer (some ⟨w0.heap.size, 0, none⟩), .agg #[.int .i64 n.k, .int .i64 n.op, .string n.s, .string n.t, .slice ak n.kids.length ck], .agg #[.int .i64 p.l, .bool p.d, .bool p.i, .bool p.g, .bool p.s]] w (Put w0 a m cap fv v ts (body E U n p) w) := by
  obtain ⟨x0, s0, g0⟩ := Fm.start hst n ak ck p
  obtain ⟨c0, c1, c2, c3, c4, d0, d1, d2, d3, d4⟩ := x0.c
  have X0 := Lib.hid x0
  have S0 := Lib.hid s0
  have G0 := Lib.hid g0
  have HV := Lib.hid hv
  have HK := Lib.hid (show n.kids.length = 2 from hv.good.two (.inr hc))
  rw [body_15 hc] at hl ⊢
  clear x0 s0 g0 hv hst hc
  try simp only [List.length_append, List.length_cons, List.length_nil] at hl
  have L0 := Lib.hid (show (ts).length + (U (kd n 0) (kp n 0 p)).length ≤ 1048576 by (try simp only [List.length_append, List.length_cons, List.length_nil]); omega)
  have L1 := Lib.hid (show (ts ++ U (kd n 0) (kp n 0 p)).length + ([tok n.op]).length ≤ 1048576 by (try simp only [List.length_append, List.length_cons, List.length_nil]); omega)
  have L2 := Lib.hid (show (ts ++ U (kd n 0) (kp n 0 p) ++ [tok n.op]).length + (E (kd n 1) (kp n 1 p)).length ≤ 1048576 by (try simp only [List.length_append, List.length_cons, List.length_nil]); omega)
  clear hl
  go_enter Tryz.func99, Tryz.ntmps99
  go_wp2_with fail
  refine (target_any (F := U) n ak ck p (by have := HK.out; omega) _ HV.out.pos (HV.out.kp (K := 0) (by have := HK.out; omega)) HV.out.len (HV.out.kd (by have := HK.out; omega)) HV.out.row (HV.out.u (by have := HK.out; omega)) S0.out L0.out).mono ?_
  rintro e w1 ⟨rfl, v1, s1, g1⟩
  have X1 := Lib.hid (X0.out.on g1)
  have S1 := Lib.hid s1
  have G1 := Lib.hid (G0.out.trans g1)
  clear c0 c1 c2 c3 c4 d0 d1 d2 d3 d4 s1 g1
  obtain ⟨c0, c1, c2, c3, c4, d0, d1, d2, d3, d4⟩ := X1.out.c
  go_wp2_with fail
  refine (symbol_any HV.out.held n.op _ (by have := L1.out; omega) S1.out).mono ?_
  rintro e w2 ⟨rfl, v2, s2, g2⟩
  have X2 := Lib.hid (X1.out.on g2)
  have S2 := Lib.hid s2
  have G2 := Lib.hid (G1.out.trans g2)
  clear c0 c1 c2 c3 c4 d0 d1 d2 d3 d4 s2 g2
  obtain ⟨c0, c1, c2, c3, c4, d0, d1, d2, d3, d4⟩ := X2.out.c
  go_wp2_with fail
  refine (kid_lit (F := E) n ak ck p 1 1 rfl (by have := HK.out; omega) _ HV.out.pos (HV.out.kp (by have := HK.out; omega)) HV.out.len (HV.out.kd (by have := HK.out; omega)) HV.out.row (HV.out.e 1 (by have := HK.out; omega)) S2.out L2.out).mono ?_
  rintro e w3 ⟨rfl, v3, s3, g3⟩
  have X3 := Lib.hid (X2.out.on g3)
  have S3 := Lib.hid s3
  have G3 := Lib.hid (G2.out.trans g3)
  clear c0 c1 c2 c3 c4 d0 d1 d2 d3 d4 s3 g3
  go_wp2
  go_end0
  refine ⟨rfl, v3, ?_, G3.out⟩
  have := S3.out
  first | exact this | simpa only [List.append_assoc, List.cons_append, List.nil_append, nam] using this
end Go.Proofs.YtdikohegclooiaaGreatDoor.tw

namespace Go.Proofs.YtdikohegclooiaaGreatDoor.tw
open Go.ChangeShapes Go.WideShapes Go.ChangeAt Go.RowKit
open tk (Tk)
open own
open nd (Nd Ints)
open ps (Ps posOk kidI top)
open spell (Held)
open et
set_option linter.unusedVariables false
set_option maxRecDepth 20000

/-- What is read in expr: the writer's box, a node, the position. -/
structure Ex (b bl o g : Nat) (a : Option Addr) (m cap : Nat) (fv v : Value) (n : Nd) (ak : Option Addr) (ck : Nat) (q : Ps) (w : World) : Prop where
  x0 : w.cell? ⟨b, 0, none⟩ = some (.slice a m cap)
  x1 : w.cell? ⟨b, 1, none⟩ = some fv
  x2 : w.cell? ⟨b, 2, none⟩ = some v
  y0 : w.cell? ⟨bl, o, none⟩ = some (.int .i64 n.k)
  y1 : w.cell? ⟨bl, o + 1, none⟩ = some (.int .i64 n.op)
  y2 : w.cell? ⟨bl, o + 2, none⟩ = some (.string n.s)
  y3 : w.cell? ⟨bl, o + 3, none⟩ = some (.string n.t)
  y4 : w.cell? ⟨bl, o + 4, none⟩ = some (.slice ak n.kids.length ck)
  z0 : w.cell? ⟨g, 0, none⟩ = some (.int .i64 q.l)
  z1 : w.cell? ⟨g, 1, none⟩ = some (.bool q.d)
  z2 : w.cell? ⟨g, 2, none⟩ = some (.bool q.i)
  z3 : w.cell? ⟨g, 3, none⟩ = some (.bool q.g)
  z4 : w.cell? ⟨g, 4, none⟩ = some (.bool q.s)
  lt : b < w.heap.size ∧ bl < w.heap.size ∧ g < w.heap.size

section
variable {b bl o g : Nat} {a : Option Addr} {m cap : Nat} {fv v : Value} {n : Nd} {ak : Option Addr} {ck : Nat} {q : Ps} {w w' : World}
theorem Ex.c (h : Ex b bl o g a m cap fv v n ak ck q w) : w.cell? ⟨b, 0, none⟩ = some (.slice a m cap) ∧ w.cell? ⟨b, 1, none⟩ = some fv ∧ w.cell? ⟨b, 2, none⟩ = some v ∧ w.cell? ⟨bl, o, none⟩ = some (.int .i64 n.k) ∧ w.cell? ⟨bl, o + 1, none⟩ = some (.int .i64 n.op) ∧ w.cell? ⟨bl, o + 2, none⟩ = some (.string n.s) ∧ w.cell? ⟨bl, o + 3, none⟩ = some (.string n.t) ∧ w.cell? ⟨bl, o + 4, none⟩ = some (.slice ak n.kids.length ck) ∧ w.cell? ⟨g, 0, none⟩ = some (.int .i64 q.l) ∧ w.cell? ⟨g, 1, none⟩ = some (.bool q.d) ∧ w.cell? ⟨g, 2, none⟩ = some (.bool q.i) ∧ w.cell? ⟨g, 3, none⟩ = some (.bool q.g) ∧ w.cell? ⟨g, 4, none⟩ = some (.bool q.s) :=
  ⟨h.x0, h.x1, h.x2, h.y0, h.y1, h.y2, h.y3, h.y4, h.z0, h.z1, h.z2, h.z3, h.z4⟩
theorem Ex.keep (h : Ex b bl o g a m cap fv v n ak ck q w) (hb : Below w.heap.size w w') : Ex b bl o g a m cap fv v n ak ck q w' :=
  ⟨(hb.cell (p := ⟨b, 0, none⟩) h.lt.1).trans h.x0, (hb.cell (p := ⟨b, 1, none⟩) h.lt.1).trans h.x1, (hb.cell (p := ⟨b, 2, none⟩) h.lt.1).trans h.x2,
    (hb.cell (p := ⟨bl, o, none⟩) h.lt.2.1).trans h.y0, (hb.cell (p := ⟨bl, o + 1, none⟩) h.lt.2.1).trans h.y1, (hb.cell (p := ⟨bl, o + 2, none⟩) h.lt.2.1).trans h.y2, (hb.cell (p := ⟨bl, o + 3, none⟩) h.lt.2.1).trans h.y3, (hb.cell (p := ⟨bl, o + 4, none⟩) h.lt.2.1).trans h.y4,
    (hb.cell (p := ⟨g, 0, none⟩) h.lt.2.2).trans h.z0, (hb.cell (p := ⟨g, 1, none⟩) h.lt.2.2).trans h.z1, (hb.cell (p := ⟨g, 2, none⟩) h.lt.2.2).trans h.z2, (hb.cell (p := ⟨g, 3, none⟩) h.lt.2.2).trans h.z3, (hb.cell (p := ⟨g, 4, none⟩) h.lt.2.2).trans h.z4,
    ⟨Nat.lt_of_lt_of_le h.lt.1 hb.size, Nat.lt_of_lt_of_le h.lt.2.1 hb.size, Nat.lt_of_lt_of_le h.lt.2.2 hb.size⟩⟩
theorem Ex.drew (h : Ex b bl o g a m cap fv v n ak ck q w) : Ex b bl o g a m cap fv v n ak ck q w.drew := h.keep ((Below.refl _ _).drew)
end
theorem Ex.start {w0 : World} {a : Option Addr} {m cap : Nat} {fv v : Value} {ts : List Tk} {w : World} (hst : St w0 a m cap fv v ts w) {bl o : Nat} {n : Nd} {ak : Option Addr} {ck : Nat} (h5 : nd.Five w0 bl o n ak ck) (hb : bl < w0.heap.size) (q : Ps) :
    Ex w0.heap.size bl o w.heap.size a m cap fv v n ak ck q (w.alloc (.cells #[.int .i64 q.l, .bool q.d, .bool q.i, .bool q.g, .bool q.s] 30)) := by
  obtain ⟨x0, x1, x2⟩ := (hst.alloc (.cells #[.int .i64 q.l, .bool q.d, .bool q.i, .bool q.g, .bool q.s] 30)).c
  obtain ⟨y0, y1, y2, y3, y4⟩ := h5.keep (hst.alloc (.cells #[.int .i64 q.l, .bool q.d, .bool q.i, .bool q.g, .bool q.s] 30)).bel hb
  have hn := heap_alloc_new w (.cells #[.int .i64 q.l, .bool q.d, .bool q.i, .bool q.g, .bool q.s] 30)
  have := hst.lt
  exact ⟨x0, x1, x2, y0, y1, y2, y3, y4, by rw [cell_of_row _ _ 0 _ _ _ hn]; rfl, by rw [cell_of_row _ _ 1 _ _ _ hn]; rfl, by rw [cell_of_row _ _ 2 _ _ _ hn]; rfl, by rw [cell_of_row _ _ 3 _ _ _ hn]; rfl, by rw [cell_of_row _ _ 4 _ _ _ hn]; rfl, by simp; omega⟩

set_option maxHeartbeats 1600000 in
theorem expr_mis {w0 : World} {a : Option Addr} {m cap : Nat} {l : List Nd} {U : Nat → Ps → List Tk} (i : Nat) (n : Nd) (hh : Held w0) (hm : m = l.length) (hmx : m ≤ 1048576) (hi : i < m) (hn : l.getD i default = n) (hc : nd.Lies w0.heap.size w0 a l)
    (hU : CallE 45 w0 a m cap (.func (.func 24) #[] #[]) i (U i)) : CallE 25 w0 a m cap (.func (.func 24) #[] #[]) i (par mis l U i) := by
  intro q hq v ts w hst hl
  have hil : i < l.length := hm ▸ hi
  rw [getD_at hil] at hn
  obtain ⟨bl, ol, rfl, hbl, hnode⟩ := nd.lies_at hc hil
  obtain ⟨ak, ck, h5, hik⟩ := hnode i hil
  rw [hn] at h5 hik
  have hpar : par mis l U i q = if mis n q = true then tok 32 :: (U i top ++ [tok 33]) else U i q := by unfold par; rw [getD_at hil, hn]
  rw [hpar] at hl ⊢
  have X0 := Ex.start hst h5 hbl q
  have HX := Lib.hid X0
  have HS := Lib.hid (hst.alloc (.cells #[.int .i64 q.l, .bool q.d, .bool q.i, .bool q.g, .bool q.s] 30))
  have HG := Lib.hid (show Gr w0.heap.size v v w (w.alloc (.cells #[.int .i64 q.l, .bool q.d, .bool q.i, .bool q.g, .bool q.s] 30)) from Gr.quiet ((Below.refl _ _).alloc (Nat.le_refl _) _))
  have Y0 := Lib.hid X0.drew.c
  have HU := Lib.hid hU
  have HH := Lib.hid hh
  have HQ := Lib.hid hq
  obtain ⟨C, hC⟩ : ∃ C, mis n q = C := ⟨_, rfl⟩
  rw [hC] at hl ⊢
  have HC := Lib.hid hC
  have HL := Lib.hid hl
  have hk1 : (0 : Int) ≤ (i : Int) := by omega
  have hk2 : (i : Int) < (m : Int) := by omega
  clear hU hh hst hl hC X0 h5 hik hnode hc hpar hn hm hi hil hq
  obtain ⟨W0, hW0⟩ : ∃ W, W = w.alloc (.cells #[.int .i64 q.l, .bool q.d, .bool q.i, .bool q.g, .bool q.s] 30) := ⟨_, rfl⟩
  cases C
  · have HL2 := Lib.hid (show ts.length + (U i q).length ≤ 1048576 from HL.out)
    go_enter Tryz.func25, Tryz.ntmps25
    go_wp2_with fail
    rw [← hW0] at HX HS HG Y0 ⊢
    clear hW0
    go_region_held3 (fun w' => w'.cell? ⟨w0.heap.size, 0, none⟩ = some (.slice (some ⟨bl, ol, none⟩) m cap) ∧ w'.cell? ⟨w0.heap.size, 1, none⟩ = some (.func (.func 24) #[] #[]) ∧ w'.cell? ⟨w0.heap.size, 2, none⟩ = some v ∧ w'.cell? ⟨bl, ol + i * 5, none⟩ = some (.int .i64 n.k) ∧ w'.cell? ⟨bl, ol + i * 5 + 1, none⟩ = some (.int .i64 n.op) ∧ w'.cell? ⟨bl, ol + i * 5 + 2, none⟩ = some (.string n.s) ∧ w'.cell? ⟨bl, ol + i * 5 + 3, none⟩ = some (.string n.t) ∧ w'.cell? ⟨bl, ol + i * 5 + 4, none⟩ = some (.slice ak n.kids.length ck) ∧ w'.cell? ⟨w.heap.size, 0, none⟩ = some (.int .i64 q.l) ∧ w'.cell? ⟨w.heap.size, 1, none⟩ = some (.bool q.d) ∧ w'.cell? ⟨w.heap.size, 2, none⟩ = some (.bool q.i) ∧ w'.cell? ⟨w.heap.size, 3, none⟩ = some (.bool q.g) ∧ w'.cell? ⟨w.heap.size, 4, none⟩ = some (.bool q.s))
      (first | with_reducible exact Y0.out | with_reducible exact X1.out.c)
      (first | (go_at_call 24; refine (misfits_any n ak ck q _).mono ?_; rw [HC.out]; rintro e w1 ⟨rfl, b1⟩; have X1 := Lib.hid (HX.out.keep (undrew b1)); have S1 := Lib.hid (HS.out.keep (undrew b1)); have G1 := Lib.hid (HG.out.trans (Gr.quiet (undrew b1))); clear b1))
    obtain ⟨-, -, -, -, -, -, -, -, p0, p1, p2, p3, p4⟩ := X1.out.c
    go_wp2_with (go_at_call 45; refine (HU.out q HQ.out _ _ _ S1.out HL2.out).mono ?_; rintro e w2 ⟨rfl, hput⟩; have HP := Lib.hid hput; clear hput)
    go_end0
    obtain ⟨v2, s2, g2⟩ := HP.out
    exact ⟨rfl, v2, s2, G1.out.trans g2⟩
  · have HL2 := Lib.hid (show ts.length + (tok 32 :: (U i top ++ [tok 33])).length ≤ 1048576 from HL.out)
    simp only [List.length_cons, List.length_append, List.length_nil] at HL2
    go_enter Tryz.func25, Tryz.ntmps25
    go_wp2_with fail
    rw [← hW0] at HX HS HG Y0 ⊢
    clear hW0
    go_region_held3 (fun w' => w'.cell? ⟨w0.heap.size, 0, none⟩ = some (.slice (some ⟨bl, ol, none⟩) m cap) ∧ w'.cell? ⟨w0.heap.size, 1, none⟩ = some (.func (.func 24) #[] #[]) ∧ w'.cell? ⟨w0.heap.size, 2, none⟩ = some v ∧ w'.cell? ⟨bl, ol + i * 5, none⟩ = some (.int .i64 n.k) ∧ w'.cell? ⟨bl, ol + i * 5 + 1, none⟩ = some (.int .i64 n.op) ∧ w'.cell? ⟨bl, ol + i * 5 + 2, none⟩ = some (.string n.s) ∧ w'.cell? ⟨bl, ol + i * 5 + 3, none⟩ = some (.string n.t) ∧ w'.cell? ⟨bl, ol + i * 5 + 4, none⟩ = some (.slice ak n.kids.length ck) ∧ w'.cell? ⟨w.heap.size, 0, none⟩ = some (.int .i64 q.l) ∧ w'.cell? ⟨w.heap.size, 1, none⟩ = some (.bool q.d) ∧ w'.cell? ⟨w.heap.size, 2, none⟩ = some (.bool q.i) ∧ w'.cell? ⟨w.heap.size, 3, none⟩ = some (.bool q.g) ∧ w'.cell? ⟨w.heap.size, 4, none⟩ = some (.bool q.s))
      (first | with_reducible exact Y0.out | with_reducible exact X1.out.c)
      (first | (go_at_call 24; refine (misfits_any n ak ck q _).mono ?_; rw [HC.out]; rintro e w1 ⟨rfl, b1⟩; have X1 := Lib.hid (HX.out.keep (undrew b1)); have S1 := Lib.hid (HS.out.keep (undrew b1)); have G1 := Lib.hid (HG.out.trans (Gr.quiet (undrew b1))); clear b1))
    have L1 := Lib.hid (show ts.length ≤ 1048576 by have := HL2.out; omega)
    have L2 := Lib.hid (show (ts ++ [tok 32]).length + (U i top).length ≤ 1048576 by have := HL2.out; simp only [List.length_cons, List.length_append, List.length_nil]; omega)
    have L3 := Lib.hid (show (ts ++ [tok 32] ++ U i top).length ≤ 1048576 by have := HL2.out; simp only [List.length_cons, List.length_append, List.length_nil]; omega)
    go_wp2_with fail
    refine (symbol_any HH.out 32 _ L1.out S1.out).mono ?_
    rintro e w2 ⟨rfl, v2, s2, g2⟩
    have S2 := Lib.hid s2
    have G2 := Lib.hid (G1.out.trans g2)
    clear s2 g2
    go_wp2_with fail
    refine (ps.impl_top _).mono ?_
    rintro e w3 ⟨rfl, b3⟩
    have S3 := Lib.hid (S2.out.keep b3)
    have G3 := Lib.hid (G2.out.trans (Gr.quiet b3))
    clear b3
    go_wp2_with fail
    refine (HU.out top top_ok _ _ _ S3.out L2.out).mono ?_
    rintro e w4 ⟨rfl, v4, s4, g4⟩
    have S4 := Lib.hid s4
    have G4 := Lib.hid (G3.out.trans g4)
    clear s4 g4
    go_wp2_with fail
    refine (symbol_any HH.out 33 _ L3.out S4.out).mono ?_
    rintro e w5 ⟨rfl, v5, s5, g5⟩
    have S5 := Lib.hid s5
    have G5 := Lib.hid (G4.out.trans g5)
    clear s5 g5
    go_wp2
    go_end0
    refine ⟨rfl, v5, ?_, G5.out⟩
    have := S5.out
    simpa only [List.append_assoc, List.cons_append, List.nil_append, if_pos] using this

set_option maxHeartbeats 1600000 in
theorem expr_full {w0 : World} {a : Option Addr} {m cap : Nat} {l : List Nd} {U : Nat → Ps → List Tk} (i : Nat) (n : Nd) (hh : Held w0) (hm : m = l.length) (hmx : m ≤ 1048576) (hi : i < m) (hn : l.getD i default = n) (hc : nd.Lies w0.heap.size w0 a l)
    (hU : CallE 45 w0 a m cap (.func (.func 31) #[] #[]) i (U i)) : CallE 25 w0 a m cap (.func (.func 31) #[] #[]) i (par full l U i) := by
  intro q hq v ts w hst hl
  have hil : i < l.length := hm ▸ hi
  rw [getD_at hil] at hn
  obtain ⟨bl, ol, rfl, hbl, hnode⟩ := nd.lies_at hc hil
  obtain ⟨ak, ck, h5, hik⟩ := hnode i hil
  rw [hn] at h5 hik
  have hpar : par full l U i q = if full n q = true then tok 32 :: (U i top ++ [tok 33]) else U i q := by unfold par; rw [getD_at hil, hn]
  rw [hpar] at hl ⊢
  have X0 := Ex.start hst h5 hbl q
  have HX := Lib.hid X0
  have HS := Lib.hid (hst.alloc (.cells #[.int .i64 q.l, .bool q.d, .bool q.i, .bool q.g, .bool q.s] 30))
  have HG := Lib.hid (show Gr w0.heap.size v v w (w.alloc (.cells #[.int .i64 q.l, .bool q.d, .bool q.i, .bool q.g, .bool q.s] 30)) from Gr.quiet ((Below.refl _ _).alloc (Nat.le_refl _) _))
  have Y0 := Lib.hid X0.drew.c
  have HU := Lib.hid hU
  have HH := Lib.hid hh
  have HQ := Lib.hid hq
  obtain ⟨C, hC⟩ : ∃ C, full n q = C := ⟨_, rfl⟩
  rw [hC] at hl ⊢
  have HC := Lib.hid hC
  have HL := Lib.hid hl
  have hk1 : (0 : Int) ≤ (i : Int) := by omega
  have hk2 : (i : Int) < (m : Int) := by omega
  clear hU hh hst hl hC X0 h5 hik hnode hc hpar hn hm hi hil hq
  obtain ⟨W0, hW0⟩ : ∃ W, W = w.alloc (.cells #[.int .i64 q.l, .bool q.d, .bool q.i, .bool q.g, .bool q.s] 30) := ⟨_, rfl⟩
  cases C
  · have HL2 := Lib.hid (show ts.length + (U i q).length ≤ 1048576 from HL.out)
    go_enter Tryz.func25, Tryz.ntmps25
    go_wp2_with fail
    rw [← hW0] at HX HS HG Y0 ⊢
    clear hW0
    go_region_held3 (fun w' => w'.cell? ⟨w0.heap.size, 0, none⟩ = some (.slice (some ⟨bl, ol, none⟩) m cap) ∧ w'.cell? ⟨w0.heap.size, 1, none⟩ = some (.func (.func 31) #[] #[]) ∧ w'.cell? ⟨w0.heap.size, 2, none⟩ = some v ∧ w'.cell? ⟨bl, ol + i * 5, none⟩ = some (.int .i64 n.k) ∧ w'.cell? ⟨bl, ol + i * 5 + 1, none⟩ = some (.int .i64 n.op) ∧ w'.cell? ⟨bl, ol + i * 5 + 2, none⟩ = some (.string n.s) ∧ w'.cell? ⟨bl, ol + i * 5 + 3, none⟩ = some (.string n.t) ∧ w'.cell? ⟨bl, ol + i * 5 + 4, none⟩ = some (.slice ak n.kids.length ck) ∧ w'.cell? ⟨w.heap.size, 0, none⟩ = some (.int .i64 q.l) ∧ w'.cell? ⟨w.heap.size, 1, none⟩ = some (.bool q.d) ∧ w'.cell? ⟨w.heap.size, 2, none⟩ = some (.bool q.i) ∧ w'.cell? ⟨w.heap.size, 3, none⟩ = some (.bool q.g) ∧ w'.cell? ⟨w.heap.size, 4, none⟩ = some (.bool q.s))
      (first | with_reducible exact Y0.out | with_reducible exact X1.out.c)
      (first | (go_at_call 31; refine (full_any n ak ck q _).mono ?_; rw [HC.out]; rintro e w1 ⟨rfl, b1⟩; have X1 := Lib.hid (HX.out.keep (undrew b1)); have S1 := Lib.hid (HS.out.keep (undrew b1)); have G1 := Lib.hid (HG.out.trans (Gr.quiet (undrew b1))); clear b1))
    obtain ⟨-, -, -, -, -, -, -, -, p0, p1, p2, p3, p4⟩ := X1.out.c
    go_wp2_with (go_at_call 45; refine (HU.out q HQ.out _ _ _ S1.out HL2.out).mono ?_; rintro e w2 ⟨rfl, hput⟩; have HP := Lib.hid hput; clear hput)
    go_end0
    obtain ⟨v2, s2, g2⟩ := HP.out
    exact ⟨rfl, v2, s2, G1.out.trans g2⟩
  · have HL2 := Lib.hid (show ts.length + (tok 32 :: (U i top ++ [tok 33])).length ≤ 1048576 from HL.out)
    simp only [List.length_cons, List.length_append, List.length_nil] at HL2
    go_enter Tryz.func25, Tryz.ntmps25
    go_wp2_with fail
    rw [← hW0] at HX HS HG Y0 ⊢
    clear hW0
    go_region_held3 (fun w' => w'.cell? ⟨w0.heap.size, 0, none⟩ = some (.slice (some ⟨bl, ol, none⟩) m cap) ∧ w'.cell? ⟨w0.heap.size, 1, none⟩ = some (.func (.func 31) #[] #[]) ∧ w'.cell? ⟨w0.heap.size, 2, none⟩ = some v ∧ w'.cell? ⟨bl, ol + i * 5, none⟩ = some (.int .i64 n.k) ∧ w'.cell? ⟨bl, ol + i * 5 + 1, none⟩ = some (.int .i64 n.op) ∧ w'.cell? ⟨bl, ol + i * 5 + 2, none⟩ = some (.string n.s) ∧ w'.cell? ⟨bl, ol + i * 5 + 3, none⟩ = some (.string n.t) ∧ w'.cell? ⟨bl, ol + i * 5 + 4, none⟩ = some (.slice ak n.kids.length ck) ∧ w'.cell? ⟨w.heap.size, 0, none⟩ = some (.int .i64 q.l) ∧ w'.cell? ⟨w.heap.size, 1, none⟩ = some (.bool q.d) ∧ w'.cell? ⟨w.heap.size, 2, none⟩ = some (.bool q.i) ∧ w'.cell? ⟨w.heap.size, 3, none⟩ = some (.bool q.g) ∧ w'.cell? ⟨w.heap.size, 4, none⟩ = some (.bool q.s))
      (first | with_reducible exact Y0.out | with_reducible exact X1.out.c)
      (first | (go_at_call 31; refine (full_any n ak ck q _).mono ?_; rw [HC.out]; rintro e w1 ⟨rfl, b1⟩; have X1 := Lib.hid (HX.out.keep (undrew b1)); have S1 := Lib.hid (HS.out.keep (undrew b1)); have G1 := Lib.hid (HG.out.trans (Gr.quiet (undrew b1))); clear b1))
    have L1 := Lib.hid (show ts.length ≤ 1048576 by have := HL2.out; omega)
    have L2 := Lib.hid (show (ts ++ [tok 32]).length + (U i top).length ≤ 1048576 by have := HL2.out; simp only [List.length_cons, List.length_append, List.length_nil]; omega)
    have L3 := Lib.hid (show (ts ++ [tok 32] ++ U i top).length ≤ 1048576 by have := HL2.out; simp only [List.length_cons, List.length_append, List.length_nil]; omega)
    go_wp2_with fail
    refine (symbol_any HH.out 32 _ L1.out S1.out).mono ?_
    rintro e w2 ⟨rfl, v2, s2, g2⟩
    have S2 := Lib.hid s2
    have G2 := Lib.hid (G1.out.trans g2)
    clear s2 g2
    go_wp2_with fail
    refine (ps.impl_top _).mono ?_
    rintro e w3 ⟨rfl, b3⟩
    have S3 := Lib.hid (S2.out.keep b3)
    have G3 := Lib.hid (G2.out.trans (Gr.quiet b3))
    clear b3
    go_wp2_with fail
    refine (HU.out top top_ok _ _ _ S3.out L2.out).mono ?_
    rintro e w4 ⟨rfl, v4, s4, g4⟩
    have S4 := Lib.hid s4
    have G4 := Lib.hid (G3.out.trans g4)
    clear s4 g4
    go_wp2_with fail
    refine (symbol_any HH.out 33 _ L3.out S4.out).mono ?_
    rintro e w5 ⟨rfl, v5, s5, g5⟩
    have S5 := Lib.hid s5
    have G5 := Lib.hid (G4.out.trans g5)
    clear s5 g5
    go_wp2
    go_end0
    refine ⟨rfl, v5, ?_, G5.out⟩
    have := S5.out
    simpa only [List.append_assoc, List.cons_append, List.nil_append, if_pos] using this
end Go.Proofs.YtdikohegclooiaaGreatDoor.tw

namespace Go.Proofs.YtdikohegclooiaaGreatDoor.tw
open Go.ChangeShapes Go.WideShapes Go.ChangeAt Go.RowKit
open tk (Tk)
open own
open nd (Nd Ints)
open ps (Ps posOk kidI top)
open spell (Held)
open et
set_option linter.unusedVariables false
set_option linter.unusedSimpArgs false
set_option maxRecDepth 20000

theorem of_name (x : Value) (k : Int) (hk : k = 1) (w : World) : Calls Tryz.prog 66 #[x, .int .i64 k] w fun e w' => e = .returned (.func (.func 100) #[x] #[]) ∧ w = w' := by
  subst hk
  have hmf : ∀ (fn : Fn) (first cap : Array Value) (w : World), (Instr.makeFunc fn first cap).run Tryz.prog w = .ok (.func fn first cap) w := fun _ _ _ _ => rfl
  go_enter Tryz.func66, Tryz.ntmps66
  go_wp2
  go_ret
  exact ⟨rfl, rfl⟩

theorem of_number (x : Value) (k : Int) (hk : k = 2) (w : World) : Calls Tryz.prog 66 #[x, .int .i64 k] w fun e w' => e = .returned (.func (.func 86) #[x] #[]) ∧ w = w' := by
  subst hk
  have hmf : ∀ (fn : Fn) (first cap : Array Value) (w : World), (Instr.makeFunc fn first cap).run Tryz.prog w = .ok (.func fn first cap) w := fun _ _ _ _ => rfl
  go_enter Tryz.func66, Tryz.ntmps66
  go_wp2
  go_ret
  exact ⟨rfl, rfl⟩

theorem of_str (x : Value) (k : Int) (hk : k = 3) (w : World) : Calls Tryz.prog 66 #[x, .int .i64 k] w fun e w' => e = .returned (.func (.func 87) #[x] #[]) ∧ w = w' := by
  subst hk
  have hmf : ∀ (fn : Fn) (first cap : Array Value) (w : World), (Instr.makeFunc fn first cap).run Tryz.prog w = .ok (.func fn first cap) w := fun _ _ _ _ => rfl
  go_enter Tryz.func66, Tryz.ntmps66
  go_wp2
  go_ret
  exact ⟨rfl, rfl⟩

theorem of_ere (x : Value) (k : Int) (hk : k = 4) (w : World) : Calls Tryz.prog 66 #[x, .int .i64 k] w fun e w' => e = .returned (.func (.func 88) #[x] #[]) ∧ w = w' := by
  subst hk
  have hmf : ∀ (fn : Fn) (first cap : Array Value) (w : World), (Instr.makeFunc fn first cap).run Tryz.prog w = .ok (.func fn first cap) w := fun _ _ _ _ => rfl
  go_enter Tryz.func66, Tryz.ntmps66
  go_wp2
  go_ret
  exact ⟨rfl, rfl⟩

theorem of_index (x : Value) (k : Int) (hk : k = 5) (w : World) : Calls Tryz.prog 66 #[x, .int .i64 k] w fun e w' => e = .returned (.func (.func 89) #[x] #[]) ∧ w = w' := by
  subst hk
  have hmf : ∀ (fn : Fn) (first cap : Array Value) (w : World), (Instr.makeFunc fn first cap).run Tryz.prog w = .ok (.func fn first cap) w := fun _ _ _ _ => rfl
  go_enter Tryz.func66, Tryz.ntmps66
  go_wp2
  go_ret
  exact ⟨rfl, rfl⟩

theorem of_field (x : Value) (k : Int) (hk : k = 6) (w : World) : Calls Tryz.prog 66 #[x, .int .i64 k] w fun e w' => e = .returned (.func (.func 90) #[x] #[]) ∧ w = w' := by
  subst hk
  have hmf : ∀ (fn : Fn) (first cap : Array Value) (w : World), (Instr.makeFunc fn first cap).run Tryz.prog w = .ok (.func fn first cap) w := fun _ _ _ _ => rfl
  go_enter Tryz.func66, Tryz.ntmps66
  go_wp2
  go_ret
  exact ⟨rfl, rfl⟩

theorem of_call (x : Value) (k : Int) (hk : k = 7) (w : World) : Calls Tryz.prog 66 #[x, .int .i64 k] w fun e w' => e = .returned (.func (.func 91) #[x] #[]) ∧ w = w' := by
  subst hk
  have hmf : ∀ (fn : Fn) (first cap : Array Value) (w : World), (Instr.makeFunc fn first cap).run Tryz.prog w = .ok (.func fn first cap) w := fun _ _ _ _ => rfl
  go_enter Tryz.func66, Tryz.ntmps66
  go_wp2
  go_ret
  exact ⟨rfl, rfl⟩

theorem of_builtin (x : Value) (k : Int) (hk : k = 8) (w : World) : Calls Tryz.prog 66 #[x, .int .i64 k] w fun e w' => e = .returned (.func (.func 92) #[x] #[]) ∧ w = w' := by
  subst hk
  have hmf : ∀ (fn : Fn) (first cap : Array Value) (w : World), (Instr.makeFunc fn first cap).run Tryz.prog w = .ok (.func fn first cap) w := fun _ _ _ _ => rfl
  go_enter Tryz.func66, Tryz.ntmps66
  go_wp2
  go_ret
  exact ⟨rfl, rfl⟩

theorem of_pre (x : Value) (k : Int) (hk : k = 9) (w : World) : Calls Tryz.prog 66 #[x, .int .i64 k] w fun e w' => e = .returned (.func (.func 93) #[x] #[]) ∧ w = w' := by
  subst hk
  have hmf : ∀ (fn : Fn) (first cap : Array Value) (w : World), (Instr.makeFunc fn first cap).run Tryz.prog w = .ok (.func fn first cap) w := fun _ _ _ _ => rfl
  go_enter Tryz.func66, Tryz.ntmps66
  go_wp2
  go_ret
  exact ⟨rfl, rfl⟩

theorem of_post (x : Value) (k : Int) (hk : k = 10) (w : World) : Calls Tryz.prog 66 #[x, .int .i64 k] w fun e w' => e = .returned (.func (.func 94) #[x] #[]) ∧ w = w' := by
  subst hk
  have hmf : ∀ (fn : Fn) (first cap : Array Value) (w : World), (Instr.makeFunc fn first cap).run Tryz.prog w = .ok (.func fn first cap) w := fun _ _ _ _ => rfl
  go_enter Tryz.func66, Tryz.ntmps66
  go_wp2
  go_ret
  exact ⟨rfl, rfl⟩

theorem of_unary (x : Value) (k : Int) (hk : k = 11) (w : World) : Calls Tryz.prog 66 #[x, .int .i64 k] w fun e w' => e = .returned (.func (.func 95) #[x] #[]) ∧ w = w' := by
  subst hk
  have hmf : ∀ (fn : Fn) (first cap : Array Value) (w : World), (Instr.makeFunc fn first cap).run Tryz.prog w = .ok (.func fn first cap) w := fun _ _ _ _ => rfl
  go_enter Tryz.func66, Tryz.ntmps66
  go_wp2
  go_ret
  exact ⟨rfl, rfl⟩

theorem of_binary (x : Value) (k : Int) (hk : k = 12) (w : World) : Calls Tryz.prog 66 #[x, .int .i64 k] w fun e w' => e = .returned (.func (.func 96) #[x] #[]) ∧ w = w' := by
  subst hk
  have hmf : ∀ (fn : Fn) (first cap : Array Value) (w : World), (Instr.makeFunc fn first cap).run Tryz.prog w = .ok (.func fn first cap) w := fun _ _ _ _ => rfl
  go_enter Tryz.func66, Tryz.ntmps66
  go_wp2
  go_ret
  exact ⟨rfl, rfl⟩

theorem of_in (x : Value) (k : Int) (hk : k = 13) (w : World) : Calls Tryz.prog 66 #[x, .int .i64 k] w fun e w' => e = .returned (.func (.func 97) #[x] #[]) ∧ w = w' := by
  subst hk
  have hmf : ∀ (fn : Fn) (first cap : Array Value) (w : World), (Instr.makeFunc fn first cap).run Tryz.prog w = .ok (.func fn first cap) w := fun _ _ _ _ => rfl
  go_enter Tryz.func66, Tryz.ntmps66
  go_wp2
  go_ret
  exact ⟨rfl, rfl⟩

theorem of_cond (x : Value) (k : Int) (hk : k = 14) (w : World) : Calls Tryz.prog 66 #[x, .int .i64 k] w fun e w' => e = .returned (.func (.func 98) #[x] #[]) ∧ w = w' := by
  subst hk
  have hmf : ∀ (fn : Fn) (first cap : Array Value) (w : World), (Instr.makeFunc fn first cap).run Tryz.prog w = .ok (.func fn first cap) w := fun _ _ _ _ => rfl
  go_enter Tryz.func66, Tryz.ntmps66
  go_wp2
  go_ret
  exact ⟨rfl, rfl⟩

theorem of_assign (x : Value) (k : Int) (hk : k = 15) (w : World) : Calls Tryz.prog 66 #[x, .int .i64 k] w fun e w' => e = .returned (.func (.func 99) #[x] #[]) ∧ w = w' := by
  subst hk
  have hmf : ∀ (fn : Fn) (first cap : Array Value) (w : World), (Instr.makeFunc fn first cap).run Tryz.prog w = .ok (.func fn first cap) w := fun _ _ _ _ => rfl
  go_enter Tryz.func66, Tryz.ntmps66
  go_wp2
  go_ret
  exact ⟨rfl, rfl⟩

set_option maxHeartbeats 1600000 in
theorem un_name {w0 : World} {a : Option Addr} {m cap : Nat} {fv : Value} {l : List Nd} {i : Nat} {E U : Nat → Ps → List Tk} (n : Nd) (hc : n.k = 1) (hmx : m ≤ 1048576) (hi : i < m) (bl ol : Nat) (ha : a = some ⟨bl, ol, none⟩) (hbl : bl < w0.heap.size) (ak : Option Addr) (ck : Nat) (h5 : nd.Five w0 bl (ol + i * 5) n ak ck)
    (hv : ∀ p : Ps, posOk p.l p.d = true → Giv w0 a m cap fv l i n ak p E U) : CallE 45 w0 a m cap fv i (fun q => body E U n q) := by
  subst ha
  intro q hq v ts w hst hl
  have HV := Lib.hid (hv q hq)
  have X0 := Ex.start hst h5 hbl q
  obtain ⟨x0, x1, x2, y0, y1, y2, y3, y4, z0, z1, z2, z3, z4⟩ := X0.c
  have HX := Lib.hid X0
  have HS := Lib.hid (hst.alloc (.cells #[.int .i64 q.l, .bool q.d, .bool q.i, .bool q.g, .bool q.s] 30))
  have HG := Lib.hid (show Gr w0.heap.size v v w (w.alloc (.cells #[.int .i64 q.l, .bool q.d, .bool q.i, .bool q.g, .bool q.s] 30)) from Gr.quiet ((Below.refl _ _).alloc (Nat.le_refl _) _))
  have HL := Lib.hid hl
  have HC := Lib.hid hc
  have hk1 : (0 : Int) ≤ (i : Int) := by omega
  have hk2 : (i : Int) < (m : Int) := by omega
  clear hl hst hv h5 X0 hc hi hq
  go_enter Tryz.func45, Tryz.ntmps45
  go_wp2_with fail
  refine (of_name _ _ HC.out _).mono ?_
  rintro e w1 ⟨rfl, rfl⟩
  go_wp2_with fail
  refine (m_name n ak ck q _ HC.out HV.out (HS.out.alloc _) HL.out).mono ?_
  rintro e w2 ⟨rfl, v2, s2, g2⟩
  have S2 := Lib.hid s2
  have G2 := Lib.hid (HG.out.trans ((Gr.quiet ((Below.refl _ _).alloc (Nat.le_refl _) _)).trans g2))
  clear s2 g2
  go_wp2
  go_end0
  exact ⟨rfl, v2, S2.out, G2.out⟩

set_option maxHeartbeats 1600000 in
theorem un_number {w0 : World} {a : Option Addr} {m cap : Nat} {fv : Value} {l : List Nd} {i : Nat} {E U : Nat → Ps → List Tk} (n : Nd) (hc : n.k = 2) (hmx : m ≤ 1048576) (hi : i < m) (bl ol : Nat) (ha : a = some ⟨bl, ol, none⟩) (hbl : bl < w0.heap.size) (ak : Option Addr) (ck : Nat) (h5 : nd.Five w0 bl (ol + i * 5) n ak ck)
    (hv : ∀ p : Ps, posOk p.l p.d = true → Giv w0 a m cap fv l i n ak p E U) : CallE 45 w0 a m cap fv i (fun q => body E U n q) := by
  subst ha
  intro q hq v ts w hst hl
  have HV := Lib.hid (hv q hq)
  have X0 := Ex.start hst h5 hbl q
  obtain ⟨x0, x1, x2, y0, y1, y2, y3, y4, z0, z1, z2, z3, z4⟩ := X0.c
  have HX := Lib.hid X0
  have HS := Lib.hid (hst.alloc (.cells #[.int .i64 q.l, .bool q.d, .bool q.i, .bool q.g, .bool q.s] 30))
  have HG := Lib.hid (show Gr w0.heap.size v v w (w.alloc (.cells #[.int .i64 q.l, .bool q.d, .bool q.i, .bool q.g, .bool q.s] 30)) from Gr.quiet ((Below.refl _ _).alloc (Nat.le_refl _) _))
  have HL := Lib.hid hl
  have HC := Lib.hid hc
  have hk1 : (0 : Int) ≤ (i : Int) := by omega
  have hk2 : (i : Int) < (m : Int) := by omega
  clear hl hst hv h5 X0 hc hi hq
  go_enter Tryz.func45, Tryz.ntmps45
  go_wp2_with fail
  refine (of_number _ _ HC.out _).mono ?_
  rintro e w1 ⟨rfl, rfl⟩
  go_wp2_with fail
  refine (m_number n ak ck q _ HC.out HV.out (HS.out.alloc _) HL.out).mono ?_
  rintro e w2 ⟨rfl, v2, s2, g2⟩
  have S2 := Lib.hid s2
  have G2 := Lib.hid (HG.out.trans ((Gr.quiet ((Below.refl _ _).alloc (Nat.le_refl _) _)).trans g2))
  clear s2 g2
  go_wp2
  go_end0
  exact ⟨rfl, v2, S2.out, G2.out⟩

set_option maxHeartbeats 1600000 in
theorem un_str {w0 : World} {a : Option Addr} {m cap : Nat} {fv : Value} {l : List Nd} {i : Nat} {E U : Nat → Ps → List Tk} (n : Nd) (hc : n.k = 3) (hmx : m ≤ 1048576) (hi : i < m) (bl ol : Nat) (ha : a = some ⟨bl, ol, none⟩) (hbl : bl < w0.heap.size) (ak : Option Addr) (ck : Nat) (h5 : nd.Five w0 bl (ol + i * 5) n ak ck)
    (hv : ∀ p : Ps, posOk p.l p.d = true → Giv w0 a m cap fv l i n ak p E U) : CallE 45 w0 a m cap fv i (fun q => body E U n q) := by
  subst ha
  intro q hq v ts w hst hl
  have HV := Lib.hid (hv q hq)
  have X0 := Ex.start hst h5 hbl q
  obtain ⟨x0, x1, x2, y0, y1, y2, y3, y4, z0, z1, z2, z3, z4⟩ := X0.c
  have HX := Lib.hid X0
  have HS := Lib.hid (hst.alloc (.cells #[.int .i64 q.l, .bool q.d, .bool q.i, .bool q.g, .bool q.s] 30))
  have HG := Lib.hid (show Gr w0.heap.size v v w (w.alloc (.cells #[.int .i64 q.l, .bool q.d, .bool q.i, .bool q.g, .bool q.s] 30)) from Gr.quiet ((Below.refl _ _).alloc (Nat.le_refl _) _))
  have HL := Lib.hid hl
  have HC := Lib.hid hc
  have hk1 : (0 : Int) ≤ (i : Int) := by omega
  have hk2 : (i : Int) < (m : Int) := by omega
  clear hl hst hv h5 X0 hc hi hq
  go_enter Tryz.func45, Tryz.ntmps45
  go_wp2_with fail
  refine (of_str _ _ HC.out _).mono ?_
  rintro e w1 ⟨rfl, rfl⟩
  go_wp2_with fail
  refine (m_str n ak ck q _ HC.out HV.out (HS.out.alloc _) HL.out).mono ?_
  rintro e w2 ⟨rfl, v2, s2, g2⟩
  have S2 := Lib.hid s2
  have G2 := Lib.hid (HG.out.trans ((Gr.quiet ((Below.refl _ _).alloc (Nat.le_refl _) _)).trans g2))
  clear s2 g2
  go_wp2
  go_end0
  exact ⟨rfl, v2, S2.out, G2.out⟩

set_option maxHeartbeats 1600000 in
theorem un_ere {w0 : World} {a : Option Addr} {m cap : Nat} {fv : Value} {l : List Nd} {i : Nat} {E U : Nat → Ps → List Tk} (n : Nd) (hc : n.k = 4) (hmx : m ≤ 1048576) (hi : i < m) (bl ol : Nat) (ha : a = some ⟨bl, ol, none⟩) (hbl : bl < w0.heap.size) (ak : Option Addr) (ck : Nat) (h5 : nd.Five w0 bl (ol + i * 5) n ak ck)
    (hv : ∀ p : Ps, posOk p.l p.d = true → Giv w0 a m cap fv l i n ak p E U) : CallE 45 w0 a m cap fv i (fun q => body E U n q) := by
  subst ha
  intro q hq v ts w hst hl
  have HV := Lib.hid (hv q hq)
  have X0 := Ex.start hst h5 hbl q
  obtain ⟨x0, x1, x2, y0, y1, y2, y3, y4, z0, z1, z2, z3, z4⟩ := X0.c
  have HX := Lib.hid X0
  have HS := Lib.hid (hst.alloc (.cells #[.int .i64 q.l, .bool q.d, .bool q.i, .bool q.g, .bool q.s] 30))
  have HG := Lib.hid (show Gr w0.heap.size v v w (w.alloc (.cells #[.int .i64 q.l, .bool q.d, .bool q.i, .bool q.g, .bool q.s] 30)) from Gr.quiet ((Below.refl _ _).alloc (Nat.le_refl _) _))
  have HL := Lib.hid hl
  have HC := Lib.hid hc
  have hk1 : (0 : Int) ≤ (i : Int) := by omega
  have hk2 : (i : Int) < (m : Int) := by omega
  clear hl hst hv h5 X0 hc hi hq
  go_enter Tryz.func45, Tryz.ntmps45
  go_wp2_with fail
  refine (of_ere _ _ HC.out _).mono ?_
  rintro e w1 ⟨rfl, rfl⟩
  go_wp2_with fail
  refine (m_ere n ak ck q _ HC.out HV.out (HS.out.alloc _) HL.out).mono ?_
  rintro e w2 ⟨rfl, v2, s2, g2⟩
  have S2 := Lib.hid s2
  have G2 := Lib.hid (HG.out.trans ((Gr.quiet ((Below.refl _ _).alloc (Nat.le_refl _) _)).trans g2))
  clear s2 g2
  go_wp2
  go_end0
  exact ⟨rfl, v2, S2.out, G2.out⟩

set_option maxHeartbeats 1600000 in
theorem un_index {w0 : World} {a : Option Addr} {m cap : Nat} {fv : Value} {l : List Nd} {i : Nat} {E U : Nat → Ps → List Tk} (n : Nd) (hc : n.k = 5) (hmx : m ≤ 1048576) (hi : i < m) (bl ol : Nat) (ha : a = some ⟨bl, ol, none⟩) (hbl : bl < w0.heap.size) (ak : Option Addr) (ck : Nat) (h5 : nd.Five w0 bl (ol + i * 5) n ak ck)
    (hv : ∀ p : Ps, posOk p.l p.d = true → Giv w0 a m cap fv l i n ak p E U) : CallE 45 w0 a m cap fv i (fun q => body E U n q) := by
  subst ha
  intro q hq v ts w hst hl
  have HV := Lib.hid (hv q hq)
  have X0 := Ex.start hst h5 hbl q
  obtain ⟨x0, x1, x2, y0, y1, y2, y3, y4, z0, z1, z2, z3, z4⟩ := X0.c
  have HX := Lib.hid X0
  have HS := Lib.hid (hst.alloc (.cells #[.int .i64 q.l, .bool q.d, .bool q.i, .bool q.g, .bool q.s] 30))
  have HG := Lib.hid (show Gr w0.heap.size v v w (w.alloc (.cells #[.int .i64 q.l, .bool q.d, .bool q.i, .bool q.g, .bool q.s] 30)) from Gr.quiet ((Below.refl _ _).alloc (Nat.le_refl _) _))
  have HL := Lib.hid hl
  have HC := Lib.hid hc
  have hk1 : (0 : Int) ≤ (i : Int) := by omega
  have hk2 : (i : Int) < (m : Int) := by omega
  clear hl hst hv h5 X0 hc hi hq
  go_enter Tryz.func45, Tryz.ntmps45
  go_wp2_with fail
  refine (of_index _ _ HC.out _).mono ?_
  rintro e w1 ⟨rfl, rfl⟩
  go_wp2_with fail
  refine (m_index n ak ck q _ HC.out HV.out (HS.out.alloc _) HL.out).mono ?_
  rintro e w2 ⟨rfl, v2, s2, g2⟩
  have S2 := Lib.hid s2
  have G2 := Lib.hid (HG.out.trans ((Gr.quiet ((Below.refl _ _).alloc (Nat.le_refl _) _)).trans g2))
  clear s2 g2
  go_wp2
  go_end0
  exact ⟨rfl, v2, S2.out, G2.out⟩

set_option maxHeartbeats 1600000 in
theorem un_field {w0 : World} {a : Option Addr} {m cap : Nat} {fv : Value} {l : List Nd} {i : Nat} {E U : Nat → Ps → List Tk} (n : Nd) (hc : n.k = 6) (hmx : m ≤ 1048576) (hi : i < m) (bl ol : Nat) (ha : a = some ⟨bl, ol, none⟩) (hbl : bl < w0.heap.size) (ak : Option Addr) (ck : Nat) (h5 : nd.Five w0 bl (ol + i * 5) n ak ck)
    (hv : ∀ p : Ps, posOk p.l p.d = true → Giv w0 a m cap fv l i n ak p E U) : CallE 45 w0 a m cap fv i (fun q => body E U n q) := by
  subst ha
  intro q hq v ts w hst hl
  have HV := Lib.hid (hv q hq)
  have X0 := Ex.start hst h5 hbl q
  obtain ⟨x0, x1, x2, y0, y1, y2, y3, y4, z0, z1, z2, z3, z4⟩ := X0.c
  have HX := Lib.hid X0
  have HS := Lib.hid (hst.alloc (.cells #[.int .i64 q.l, .bool q.d, .bool q.i, .bool q.g, .bool q.s] 30))
  have HG := Lib.hid (show Gr w0.heap.size v v w (w.alloc (.cells #[.int .i64 q.l, .bool q.d, .bool q.i, .bool q.g, .bool q.s] 30)) from Gr.quiet ((Below.refl _ _).alloc (Nat.le_refl _) _))
  have HL := Lib.hid hl
  have HC := Lib.hid hc
  have hk1 : (0 : Int) ≤ (i : Int) := by omega
  have hk2 : (i : Int) < (m : Int) := by omega
  clear hl hst hv h5 X0 hc hi hq
  go_enter Tryz.func45, Tryz.ntmps45
  go_wp2_with fail
  refine (of_field _ _ HC.out _).mono ?_
  rintro e w1 ⟨rfl, rfl⟩
  go_wp2_with fail
  refine (m_field n ak ck q _ HC.out HV.out (HS.out.alloc _) HL.out).mono ?_
  rintro e w2 ⟨rfl, v2, s2, g2⟩
  have S2 := Lib.hid s2
  have G2 := Lib.hid (HG.out.trans ((Gr.quiet ((Below.refl _ _).alloc (Nat.le_refl _) _)).trans g2))
  clear s2 g2
  go_wp2
  go_end0
  exact ⟨rfl, v2, S2.out, G2.out⟩

set_option maxHeartbeats 1600000 in
theorem un_call {w0 : World} {a : Option Addr} {m cap : Nat} {fv : Value} {l : List Nd} {i : Nat} {E U : Nat → Ps → List Tk} (n : Nd) (hc : n.k = 7) (hmx : m ≤ 1048576) (hi : i < m) (bl ol : Nat) (ha : a = some ⟨bl, ol, none⟩) (hbl : bl < w0.heap.size) (ak : Option Addr) (ck : Nat) (h5 : nd.Five w0 bl (ol + i * 5) n ak ck)
    (hv : ∀ p : Ps, posOk p.l p.d = true → Giv w0 a m cap fv l i n ak p E U) : CallE 45 w0 a m cap fv i (fun q => body E U n q) := by
  subst ha
  intro q hq v ts w hst hl
  have HV := Lib.hid (hv q hq)
  have X0 := Ex.start hst h5 hbl q
  obtain ⟨x0, x1, x2, y0, y1, y2, y3, y4, z0, z1, z2, z3, z4⟩ := X0.c
  have HX := Lib.hid X0
  have HS := Lib.hid (hst.alloc (.cells #[.int .i64 q.l, .bool q.d, .bool q.i, .bool q.g, .bool q.s] 30))
  have HG := Lib.hid (show Gr w0.heap.size v v w (w.alloc (.cells #[.int .i64 q.l, .bool q.d, .bool q.i, .bool q.g, .bool q.s] 30)) from Gr.quiet ((Below.refl _ _).alloc (Nat.le_refl _) _))
  have HL := Lib.hid hl
  have HC := Lib.hid hc
  have hk1 : (0 : Int) ≤ (i : Int) := by omega
  have hk2 : (i : Int) < (m : Int) := by omega
  clear hl hst hv h5 X0 hc hi hq
  go_enter Tryz.func45, Tryz.ntmps45
  go_wp2_with fail
  refine (of_call _ _ HC.out _).mono ?_
  rintro e w1 ⟨rfl, rfl⟩
  go_wp2_with fail
  refine (m_call n ak ck q _ HC.out HV.out (HS.out.alloc _) HL.out).mono ?_
  rintro e w2 ⟨rfl, v2, s2, g2⟩
  have S2 := Lib.hid s2
  have G2 := Lib.hid (HG.out.trans ((Gr.quiet ((Below.refl _ _).alloc (Nat.le_refl _) _)).trans g2))
  clear s2 g2
  go_wp2
  go_end0
  exact ⟨rfl, v2, S2.out, G2.out⟩

set_option maxHeartbeats 1600000 in
theorem un_builtin {w0 : World} {a : Option Addr} {m cap : Nat} {fv : Value} {l : List Nd} {i : Nat} {E U : Nat → Ps → List Tk} (n : Nd) (hc : n.k = 8) (hmx : m ≤ 1048576) (hi : i < m) (bl ol : Nat) (ha : a = some ⟨bl, ol, none⟩) (hbl : bl < w0.heap.size) (ak : Option Addr) (ck : Nat) (h5 : nd.Five w0 bl (ol + i * 5) n ak ck)
    (hv : ∀ p : Ps, posOk p.l p.d = true → Giv w0 a m cap fv l i n ak p E U) : CallE 45 w0 a m cap fv i (fun q => body E U n q) := by
  subst ha
  intro q hq v ts w hst hl
  have HV := Lib.hid (hv q hq)
  have X0 := Ex.start hst h5 hbl q
  obtain ⟨x0, x1, x2, y0, y1, y2, y3, y4, z0, z1, z2, z3, z4⟩ := X0.c
  have HX := Lib.hid X0
  have HS := Lib.hid (hst.alloc (.cells #[.int .i64 q.l, .bool q.d, .bool q.i, .bool q.g, .bool q.s] 30))
  have HG := Lib.hid (show Gr w0.heap.size v v w (w.alloc (.cells #[.int .i64 q.l, .bool q.d, .bool q.i, .bool q.g, .bool q.s] 30)) from Gr.quiet ((Below.refl _ _).alloc (Nat.le_refl _) _))
  have HL := Lib.hid hl
  have HC := Lib.hid hc
  have hk1 : (0 : Int) ≤ (i : Int) := by omega
  have hk2 : (i : Int) < (m : Int) := by omega
  clear hl hst hv h5 X0 hc hi hq
  go_enter Tryz.func45, Tryz.ntmps45
  go_wp2_with fail
  refine (of_builtin _ _ HC.out _).mono ?_
  rintro e w1 ⟨rfl, rfl⟩
  go_wp2_with fail
  refine (m_builtin n ak ck q _ HC.out HV.out (HS.out.alloc _) HL.out).mono ?_
  rintro e w2 ⟨rfl, v2, s2, g2⟩
  have S2 := Lib.hid s2
  have G2 := Lib.hid (HG.out.trans ((Gr.quiet ((Below.refl _ _).alloc (Nat.le_refl _) _)).trans g2))
  clear s2 g2
  go_wp2
  go_end0
  exact ⟨rfl, v2, S2.out, G2.out⟩

set_option maxHeartbeats 1600000 in
theorem un_pre {w0 : World} {a : Option Addr} {m cap : Nat} {fv : Value} {l : List Nd} {i : Nat} {E U : Nat → Ps → List Tk} (n : Nd) (hc : n.k = 9) (hmx : m ≤ 1048576) (hi : i < m) (bl ol : Nat) (ha : a = some ⟨bl, ol, none⟩) (hbl : bl < w0.heap.size) (ak : Option Addr) (ck : Nat) (h5 : nd.Five w0 bl (ol + i * 5) n ak ck)
    (hv : ∀ p : Ps, posOk p.l p.d = true → Giv w0 a m cap fv l i n ak p E U) : CallE 45 w0 a m cap fv i (fun q => body E U n q) := by
  subst ha
  intro q hq v ts w hst hl
  have HV := Lib.hid (hv q hq)
  have X0 := Ex.start hst h5 hbl q
  obtain ⟨x0, x1, x2, y0, y1, y2, y3, y4, z0, z1, z2, z3, z4⟩ := X0.c
  have HX := Lib.hid X0
  have HS := Lib.hid (hst.alloc (.cells #[.int .i64 q.l, .bool q.d, .bool q.i, .bool q.g, .bool q.s] 30))
  have HG := Lib.hid (show Gr w0.heap.size v v w (w.alloc (.cells #[.int .i64 q.l, .bool q.d, .bool q.i, .bool q.g, .bool q.s] 30)) from Gr.quiet ((Below.refl _ _).alloc (Nat.le_refl _) _))
  have HL := Lib.hid hl
  have HC := Lib.hid hc
  have hk1 : (0 : Int) ≤ (i : Int) := by omega
  have hk2 : (i : Int) < (m : Int) := by omega
  clear hl hst hv h5 X0 hc hi hq
  go_enter Tryz.func45, Tryz.ntmps45
  go_wp2_with fail
  refine (of_pre _ _ HC.out _).mono ?_
  rintro e w1 ⟨rfl, rfl⟩
  go_wp2_with fail
  refine (m_pre n ak ck q _ HC.out HV.out (HS.out.alloc _) HL.out).mono ?_
  rintro e w2 ⟨rfl, v2, s2, g2⟩
  have S2 := Lib.hid s2
  have G2 := Lib.hid (HG.out.trans ((Gr.quiet ((Below.refl _ _).alloc (Nat.le_refl _) _)).trans g2))
  clear s2 g2
  go_wp2
  go_end0
  exact ⟨rfl, v2, S2.out, G2.out⟩

set_option maxHeartbeats 1600000 in
theorem un_post {w0 : World} {a : Option Addr} {m cap : Nat} {fv : Value} {l : List Nd} {i : Nat} {E U : Nat → Ps → List Tk} (n : Nd) (hc : n.k = 10) (hmx : m ≤ 1048576) (hi : i < m) (bl ol : Nat) (ha : a = some ⟨bl, ol, none⟩) (hbl : bl < w0.heap.size) (ak : Option Addr) (ck : Nat) (h5 : nd.Five w0 bl (ol + i * 5) n ak ck)
    (hv : ∀ p : Ps, posOk p.l p.d = true → Giv w0 a m cap fv l i n ak p E U) : CallE 45 w0 a m cap fv i (fun q => body E U n q) := by
  subst ha
  intro q hq v ts w hst hl
  have HV := Lib.hid (hv q hq)
  have X0 := Ex.start hst h5 hbl q
  obtain ⟨x0, x1, x2, y0, y1, y2, y3, y4, z0, z1, z2, z3, z4⟩ := X0.c
  have HX := Lib.hid X0
  have HS := Lib.hid (hst.alloc (.cells #[.int .i64 q.l, .bool q.d, .bool q.i, .bool q.g, .bool q.s] 30))
  have HG := Lib.hid (show Gr w0.heap.size v v w (w.alloc (.cells #[.int .i64 q.l, .bool q.d, .bool q.i, .bool q.g, .bool q.s] 30)) from Gr.quiet ((Below.refl _ _).alloc (Nat.le_refl _) _))
  have HL := Lib.hid hl
  have HC := Lib.hid hc
  have hk1 : (0 : Int) ≤ (i : Int) := by omega
  have hk2 : (i : Int) < (m : Int) := by omega
  clear hl hst hv h5 X0 hc hi hq
  go_enter Tryz.func45, Tryz.ntmps45
  go_wp2_with fail
  refine (of_post _ _ HC.out _).mono ?_
  rintro e w1 ⟨rfl, rfl⟩
  go_wp2_with fail
  refine (m_post n ak ck q _ HC.out HV.out (HS.out.alloc _) HL.out).mono ?_
  rintro e w2 ⟨rfl, v2, s2, g2⟩
  have S2 := Lib.hid s2
  have G2 := Lib.hid (HG.out.trans ((Gr.quiet ((Below.refl _ _).alloc (Nat.le_refl _) _)).trans g2))
  clear s2 g2
  go_wp2
  go_end0
  exact ⟨rfl, v2, S2.out, G2.out⟩

set_option maxHeartbeats 1600000 in
theorem un_unary {w0 : World} {a : Option Addr} {m cap : Nat} {fv : Value} {l : List Nd} {i : Nat} {E U : Nat → Ps → List Tk} (n : Nd) (hc : n.k = 11) (hmx : m ≤ 1048576) (hi : i < m) (bl ol : Nat) (ha : a = some ⟨bl, ol, none⟩) (hbl : bl < w0.heap.size) (ak : Option Addr) (ck : Nat) (h5 : nd.Five w0 bl (ol + i * 5) n ak ck)
    (hv : ∀ p : Ps, posOk p.l p.d = true → Giv w0 a m cap fv l i n ak p E U) : CallE 45 w0 a m cap fv i (fun q => body E U n q) := by
  subst ha
  intro q hq v ts w hst hl
  have HV := Lib.hid (hv q hq)
  have X0 := Ex.start hst h5 hbl q
  obtain ⟨x0, x1, x2, y0, y1, y2, y3, y4, z0, z1, z2, z3, z4⟩ := X0.c
  have HX := Lib.hid X0
  have HS := Lib.hid (hst.alloc (.cells #[.int .i64 q.l, .bool q.d, .bool q.i, .bool q.g, .bool q.s] 30))
  have HG := Lib.hid (show Gr w0.heap.size v v w (w.alloc (.cells #[.int .i64 q.l, .bool q.d, .bool q.i, .bool q.g, .bool q.s] 30)) from Gr.quiet ((Below.refl _ _).alloc (Nat.le_refl _) _))
  have HL := Lib.hid hl
  have HC := Lib.hid hc
  have hk1 : (0 : Int) ≤ (i : Int) := by omega
  have hk2 : (i : Int) < (m : Int) := by omega
  clear hl hst hv h5 X0 hc hi hq
  go_enter Tryz.func45, Tryz.ntmps45
  go_wp2_with fail
  refine (of_unary _ _ HC.out _).mono ?_
  rintro e w1 ⟨rfl, rfl⟩
  go_wp2_with fail
  refine (m_unary n ak ck q _ HC.out HV.out (HS.out.alloc _) HL.out).mono ?_
  rintro e w2 ⟨rfl, v2, s2, g2⟩
  have S2 := Lib.hid s2
  have G2 := Lib.hid (HG.out.trans ((Gr.quiet ((Below.refl _ _).alloc (Nat.le_refl _) _)).trans g2))
  clear s2 g2
  go_wp2
  go_end0
  exact ⟨rfl, v2, S2.out, G2.out⟩

set_option maxHeartbeats 1600000 in
theorem un_binary {w0 : World} {a : Option Addr} {m cap : Nat} {fv : Value} {l : List Nd} {i : Nat} {E U : Nat → Ps → List Tk} (n : Nd) (hc : n.k = 12) (hmx : m ≤ 1048576) (hi : i < m) (bl ol : Nat) (ha : a = some ⟨bl, ol, none⟩) (hbl : bl < w0.heap.size) (ak : Option Addr) (ck : Nat) (h5 : nd.Five w0 bl (ol + i * 5) n ak ck)
    (hv : ∀ p : Ps, posOk p.l p.d = true → Giv w0 a m cap fv l i n ak p E U) : CallE 45 w0 a m cap fv i (fun q => body E U n q) := by
  subst ha
  intro q hq v ts w hst hl
  have HV := Lib.hid (hv q hq)
  have X0 := Ex.start hst h5 hbl q
  obtain ⟨x0, x1, x2, y0, y1, y2, y3, y4, z0, z1, z2, z3, z4⟩ := X0.c
  have HX := Lib.hid X0
  have HS := Lib.hid (hst.alloc (.cells #[.int .i64 q.l, .bool q.d, .bool q.i, .bool q.g, .bool q.s] 30))
  have HG := Lib.hid (show Gr w0.heap.size v v w (w.alloc (.cells #[.int .i64 q.l, .bool q.d, .bool q.i, .bool q.g, .bool q.s] 30)) from Gr.quiet ((Below.refl _ _).alloc (Nat.le_refl _) _))
  have HL := Lib.hid hl
  have HC := Lib.hid hc
  have hk1 : (0 : Int) ≤ (i : Int) := by omega
  have hk2 : (i : Int) < (m : Int) := by omega
  clear hl hst hv h5 X0 hc hi hq
  go_enter Tryz.func45, Tryz.ntmps45
  go_wp2_with fail
  refine (of_binary _ _ HC.out _).mono ?_
  rintro e w1 ⟨rfl, rfl⟩
  go_wp2_with fail
  refine (m_binary n ak ck q _ HC.out HV.out (HS.out.alloc _) HL.out).mono ?_
  rintro e w2 ⟨rfl, v2, s2, g2⟩
  have S2 := Lib.hid s2
  have G2 := Lib.hid (HG.out.trans ((Gr.quiet ((Below.refl _ _).alloc (Nat.le_refl _) _)).trans g2))
  clear s2 g2
  go_wp2
  go_end0
  exact ⟨rfl, v2, S2.out, G2.out⟩

set_option maxHeartbeats 1600000 in
theorem un_in {w0 : World} {a : Option Addr} {m cap : Nat} {fv : Value} {l : List Nd} {i : Nat} {E U : Nat → Ps → List Tk} (n : Nd) (hc : n.k = 13) (hmx : m ≤ 1048576) (hi : i < m) (bl ol : Nat) (ha : a = some ⟨bl, ol, none⟩) (hbl : bl < w0.heap.size) (ak : Option Addr) (ck : Nat) (h5 : nd.Five w0 bl (ol + i * 5) n ak ck)
    (hv : ∀ p : Ps, posOk p.l p.d = true → Giv w0 a m cap fv l i n ak p E U) : CallE 45 w0 a m cap fv i (fun q => body E U n q) := by
  subst ha
  intro q hq v ts w hst hl
  have HV := Lib.hid (hv q hq)
  have X0 := Ex.start hst h5 hbl q
  obtain ⟨x0, x1, x2, y0, y1, y2, y3, y4, z0, z1, z2, z3, z4⟩ := X0.c
  have HX := Lib.hid X0
  have HS := Lib.hid (hst.alloc (.cells #[.int .i64 q.l, .bool q.d, .bool q.i, .bool q.g, .bool q.s] 30))
  have HG := Lib.hid (show Gr w0.heap.size v v w (w.alloc (.cells #[.int .i64 q.l, .bool q.d, .bool q.i, .bool q.g, .bool q.s] 30)) from Gr.quiet ((Below.refl _ _).alloc (Nat.le_refl _) _))
  have HL := Lib.hid hl
  have HC := Lib.hid hc
  have hk1 : (0 : Int) ≤ (i : Int) := by omega
  have hk2 : (i : Int) < (m : Int) := by omega
  clear hl hst hv h5 X0 hc hi hq
  go_enter Tryz.func45, Tryz.ntmps45
  go_wp2_with fail
  refine (of_in _ _ HC.out _).mono ?_
  rintro e w1 ⟨rfl, rfl⟩
  go_wp2_with fail
  refine (m_in n ak ck q _ HC.out HV.out (HS.out.alloc _) HL.out).mono ?_
  rintro e w2 ⟨rfl, v2, s2, g2⟩
  have S2 := Lib.hid s2
  have G2 := Lib.hid (HG.out.trans ((Gr.quiet ((Below.refl _ _).alloc (Nat.le_refl _) _)).trans g2))
  clear s2 g2
  go_wp2
  go_end0
  exact ⟨rfl, v2, S2.out, G2.out⟩

set_option maxHeartbeats 1600000 in
theorem un_cond {w0 : World} {a : Option Addr} {m cap : Nat} {fv : Value} {l : List Nd} {i : Nat} {E U : Nat → Ps → List Tk} (n : Nd) (hc : n.k = 14) (hmx : m ≤ 1048576) (hi : i < m) (bl ol : Nat) (ha : a = some ⟨bl, ol, none⟩) (hbl : bl < w0.heap.size) (ak : Option Addr) (ck : Nat) (h5 : nd.Five w0 bl (ol + i * 5) n ak ck)
    (hv : ∀ p : Ps, posOk p.l p.d = true → Giv w0 a m cap fv l i n ak p E U) : CallE 45 w0 a m cap fv i (fun q => body E U n q) := by
  subst ha
  intro q hq v ts w hst hl
  have HV := Lib.hid (hv q hq)
  have X0 := Ex.start hst h5 hbl q
  obtain ⟨x0, x1, x2, y0, y1, y2, y3, y4, z0, z1, z2, z3, z4⟩ := X0.c
  have HX := Lib.hid X0
  have HS := Lib.hid (hst.alloc (.cells #[.int .i64 q.l, .bool q.d, .bool q.i, .bool q.g, .bool q.s] 30))
  have HG := Lib.hid (show Gr w0.heap.size v v w (w.alloc (.cells #[.int .i64 q.l, .bool q.d, .bool q.i, .bool q.g, .bool q.s] 30)) from Gr.quiet ((Below.refl _ _).alloc (Nat.le_refl _) _))
  have HL := Lib.hid hl
  have HC := Lib.hid hc
  have hk1 : (0 : Int) ≤ (i : Int) := by omega
  have hk2 : (i : Int) < (m : Int) := by omega
  clear hl hst hv h5 X0 hc hi hq
  go_enter Tryz.func45, Tryz.ntmps45
  go_wp2_with fail
  refine (of_cond _ _ HC.out _).mono ?_
  rintro e w1 ⟨rfl, rfl⟩
  go_wp2_with fail
  refine (m_cond n ak ck q _ HC.out HV.out (HS.out.alloc _) HL.out).mono ?_
  rintro e w2 ⟨rfl, v2, s2, g2⟩
  have S2 := Lib.hid s2
  have G2 := Lib.hid (HG.out.trans ((Gr.quiet ((Below.refl _ _).alloc (Nat.le_refl _) _)).trans g2))
  clear s2 g2
  go_wp2
  go_end0
  exact ⟨rfl, v2, S2.out, G2.out⟩

set_option maxHeartbeats 1600000 in
theorem un_assign {w0 : World} {a : Option Addr} {m cap : Nat} {fv : Value} {l : List Nd} {i : Nat} {E U : Nat → Ps → List Tk} (n : Nd) (hc : n.k = 15) (hmx : m ≤ 1048576) (hi : i < m) (bl ol : Nat) (ha : a = some ⟨bl, ol, none⟩) (hbl : bl < w0.heap.size) (ak : Option Addr) (ck : Nat) (h5 : nd.Five w0 bl (ol + i * 5) n ak ck)
    (hv : ∀ p : Ps, posOk p.l p.d = true → Giv w0 a m cap fv l i n ak p E U) : CallE 45 w0 a m cap fv i (fun q => body E U n q) := by
  subst ha
  intro q hq v ts w hst hl
  have HV := Lib.hid (hv q hq)
  have X0 := Ex.start hst h5 hbl q
  obtain ⟨x0, x1, x2, y0, y1, y2, y3, y4, z0, z1, z2, z3, z4⟩ := X0.c
  have HX := Lib.hid X0
  have HS := Lib.hid (hst.alloc (.cells #[.int .i64 q.l, .bool q.d, .bool q.i, .bool q.g, .bool q.s] 30))
  have HG := Lib.hid (show Gr w0.heap.size v v w (w.alloc (.cells #[.int .i64 q.l, .bool q.d, .bool q.i, .bool q.g, .bool q.s] 30)) from Gr.quiet ((Below.refl _ _).alloc (Nat.le_refl _) _))
  have HL := Lib.hid hl
  have HC := Lib.hid hc
  have hk1 : (0 : Int) ≤ (i : Int) := by omega
  have hk2 : (i : Int) < (m : Int) := by omega
  clear hl hst hv h5 X0 hc hi hq
  go_enter Tryz.func45, Tryz.ntmps45
  go_wp2_with fail
  refine (of_assign _ _ HC.out _).mono ?_
  rintro e w1 ⟨rfl, rfl⟩
  go_wp2_with fail
  refine (m_assign n ak ck q _ HC.out HV.out (HS.out.alloc _) HL.out).mono ?_
  rintro e w2 ⟨rfl, v2, s2, g2⟩
  have S2 := Lib.hid s2
  have G2 := Lib.hid (HG.out.trans ((Gr.quiet ((Below.refl _ _).alloc (Nat.le_refl _) _)).trans g2))
  clear s2 g2
  go_wp2
  go_end0
  exact ⟨rfl, v2, S2.out, G2.out⟩

/-- Every kind of expression. -/
theorem un_any {w0 : World} {a : Option Addr} {m cap : Nat} {fv : Value} {l : List Nd} {i : Nat} {E U : Nat → Ps → List Tk} (n : Nd) (hg : et.Good l i n) (hmx : m ≤ 1048576) (hi : i < m) (bl ol : Nat) (ha : a = some ⟨bl, ol, none⟩) (hbl : bl < w0.heap.size) (ak : Option Addr) (ck : Nat) (h5 : nd.Five w0 bl (ol + i * 5) n ak ck)
    (hv : ∀ p : Ps, posOk p.l p.d = true → Giv w0 a m cap fv l i n ak p E U) : CallE 45 w0 a m cap fv i (fun q => body E U n q) := by
  have hr := expr_range hg.kind
  by_cases c1 : n.k = 1
  · exact un_name n c1 hmx hi bl ol ha hbl ak ck h5 hv
  by_cases c2 : n.k = 2
  · exact un_number n c2 hmx hi bl ol ha hbl ak ck h5 hv
  by_cases c3 : n.k = 3
  · exact un_str n c3 hmx hi bl ol ha hbl ak ck h5 hv
  by_cases c4 : n.k = 4
  · exact un_ere n c4 hmx hi bl ol ha hbl ak ck h5 hv
  by_cases c5 : n.k = 5
  · exact un_index n c5 hmx hi bl ol ha hbl ak ck h5 hv
  by_cases c6 : n.k = 6
  · exact un_field n c6 hmx hi bl ol ha hbl ak ck h5 hv
  by_cases c7 : n.k = 7
  · exact un_call n c7 hmx hi bl ol ha hbl ak ck h5 hv
  by_cases c8 : n.k = 8
  · exact un_builtin n c8 hmx hi bl ol ha hbl ak ck h5 hv
  by_cases c9 : n.k = 9
  · exact un_pre n c9 hmx hi bl ol ha hbl ak ck h5 hv
  by_cases c10 : n.k = 10
  · exact un_post n c10 hmx hi bl ol ha hbl ak ck h5 hv
  by_cases c11 : n.k = 11
  · exact un_unary n c11 hmx hi bl ol ha hbl ak ck h5 hv
  by_cases c12 : n.k = 12
  · exact un_binary n c12 hmx hi bl ol ha hbl ak ck h5 hv
  by_cases c13 : n.k = 13
  · exact un_in n c13 hmx hi bl ol ha hbl ak ck h5 hv
  by_cases c14 : n.k = 14
  · exact un_cond n c14 hmx hi bl ol ha hbl ak ck h5 hv
  exact un_assign n (by omega) hmx hi bl ol ha hbl ak ck h5 hv

/-- The writer at a right tree: what unenclosed and expr put, at each node. -/
theorem all_un {w0 : World} {a : Option Addr} {cap : Nat} {fv : Value} {l : List Nd} {enc : Nd → Ps → Bool} (ht : rt.treeOk l = true) (hmx : l.length ≤ 1048576) (hh : Held w0) (hc : nd.Lies w0.heap.size w0 a l)
    (hE : ∀ (U : Nat → Ps → List Tk) (i : Nat) (n : Nd), i < l.length → l.getD i default = n → CallE 45 w0 a l.length cap fv i (U i) → CallE 25 w0 a l.length cap fv i (par enc l U i)) :
    ∀ (f i : Nat), i < f → i < l.length → rt.isExpr (l.getD i default).k = true → CallE 45 w0 a l.length cap fv i (un enc l f i) := by
  intro f
  induction f with
  | zero => intro i hi; omega
  | succ f ih =>
    intro i hi hl hk
    obtain ⟨n, hn⟩ : ∃ n, l.getD i default = n := ⟨_, rfl⟩
    rw [hn] at hk
    have g := et.Good.at ht hl hn hk
    obtain ⟨bl, ol, ha, hbl, hnode⟩ := nd.lies_at hc hl
    obtain ⟨ak, ck, h5, hik⟩ := hnode i hl
    rw [← getD_at hl, hn] at h5 hik
    have e : un enc l (f + 1) i = fun q => body (ex enc l f) (un enc l f) n q := by
      funext q
      rw [un_succ, hn]
    rw [e]
    refine un_any n g hmx hl bl ol ha hbl ak ck h5 fun p hp => ⟨hh, g, hik, hp, fun K hK => ?_, fun h0 => ?_⟩
    · obtain ⟨k1, k2, k3⟩ := g.kids K hK
      exact hE (un enc l f) (et.kd n K) _ (by omega) rfl (ih (et.kd n K) (by omega) (by omega) k3)
    · obtain ⟨k1, k2, k3⟩ := g.kids 0 h0
      exact ih (et.kd n 0) (by omega) (by omega) k3
end Go.Proofs.YtdikohegclooiaaGreatDoor.tw

namespace Go.Proofs.YtdikohegclooiaaGreatDoor.tw
open Go.ChangeShapes Go.WideShapes Go.ChangeAt Go.RowKit
open tk (Tk)
open own
open nd (Nd Ints)
open ps (Ps posOk kidI top)
open spell (Held)
open et
set_option linter.unusedVariables false
set_option linter.unusedSimpArgs false
set_option maxRecDepth 20000

/-- What ExprTokens, FullTokens answer. -/
def etoks (l : List Nd) (p : Ps) : List Tk := if rt.exprOk l = true ∧ posOk p.l p.d = true then ex mis l l.length (l.length - 1) p else []
def ftoks (l : List Nd) : List Tk := if rt.exprOk l = true then ex full l l.length (l.length - 1) top else []
def Out (T : List Tk) (w : World) (e : Ending) (w' : World) : Prop := ∃ v, e = .returned v ∧ Below w.heap.size w w' ∧ own.Own w.heap.size v T w'
theorem expr_parts {l : List Nd} (h : rt.exprOk l = true) : rt.treeOk l = true ∧ 0 < l.length ∧ rt.isExpr (l.getD (l.length - 1) default).k = true := by
  unfold rt.exprOk at h
  rw [Bool.and_eq_true] at h
  refine ⟨h.1, ?_, h.2⟩
  have := (nd.shape_yes (tree_parts h.1).1).1
  omega
theorem etoks_len (l : List Nd) (p : Ps) : (etoks l p).length ≤ 3200 := by
  unfold etoks
  split
  · next h =>
    obtain ⟨h1, h2, h3⟩ := expr_parts h.1
    exact ex_len h1 (by omega) (by omega) h3
  · simp
theorem ftoks_len (l : List Nd) : (ftoks l).length ≤ 3200 := by
  unfold ftoks
  split
  · next h =>
    obtain ⟨h1, h2, h3⟩ := expr_parts h
    exact ex_len h1 (by omega) (by omega) h3
  · simp

set_option maxHeartbeats 1600000 in
theorem impl_ExprTokens (l : List Nd) (a : Option Addr) (cap : Nat) (p : Ps) (w : World) (hn : l.length ≤ 1048576) (hk : ∀ t ∈ l, t.kids.length ≤ 1048576) (hs : ∀ t ∈ l, t.s.size ≤ 1048576 ∧ t.t.size ≤ 1048576) (hc : nd.Lies w.heap.size w a l) (hh : Held w) :
    Calls Tryz.prog 9 #[.slice a l.length cap, .agg #[.int .i64 p.l, .bool p.d, .bool p.i, .bool p.g, .bool p.s]] w (Out (etoks l p) w) := by
  have HC := Lib.hid hc
  have HN := Lib.hid hn
  have HH := Lib.hid hh
  have HK := Lib.hid hk
  have HS := Lib.hid hs
  have HB0 := Lib.hid (show Below w.heap.size w (w.alloc (.cells #[.int .i64 p.l, .bool p.d, .bool p.i, .bool p.g, .bool p.s] 30)) from ((Below.refl w.heap.size w).alloc (Nat.le_refl _) _))
  clear hc hh hk hs
  cases hx : rt.exprOk l
  · have HE := Lib.hid (show etoks l p = [] by unfold etoks; rw [if_neg (by simp [hx])])
    have HX := Lib.hid hx
    go_enter Tryz.func9, Tryz.ntmps9
    go_wp2_with fail
    refine (rt.impl_expr l a cap _ HN.out HK.out HS.out (HC.out.on HB0.out (Nat.le_refl _)) (HH.out.below HB0.out)).mono ?_
    rw [HX.out]
    rintro e w1 ⟨rfl, b1⟩
    have B1 := Lib.hid (HB0.out.trans (b1.mono HB0.out.size))
    clear b1
    go_wp2
    go_ret
    refine ⟨.slice none 0 0, rfl, B1.out, ?_⟩
    rw [HE.out]
    exact own.Own.nil _ _
  have HX := Lib.hid hx
  cases hp : posOk p.l p.d
  · have HE := Lib.hid (show etoks l p = [] by unfold etoks; rw [if_neg (by simp [hp])])
    have HP := Lib.hid hp
    have HZ := Lib.hid (show ∀ w1, Below (w.alloc (.cells #[.int .i64 p.l, .bool p.d, .bool p.i, .bool p.g, .bool p.s] 30)).heap.size (w.alloc (.cells #[.int .i64 p.l, .bool p.d, .bool p.i, .bool p.g, .bool p.s] 30)) w1 → w1.cell? ⟨w.heap.size, 0, none⟩ = some (.int .i64 p.l) ∧ w1.cell? ⟨w.heap.size, 1, none⟩ = some (.bool p.d) ∧ w1.cell? ⟨w.heap.size, 2, none⟩ = some (.bool p.i) ∧ w1.cell? ⟨w.heap.size, 3, none⟩ = some (.bool p.g) ∧ w1.cell? ⟨w.heap.size, 4, none⟩ = some (.bool p.s) from fun w1 hb => by
      have hb1 := (hb.block w.heap.size (by simp)).trans (heap_alloc_new w (.cells #[.int .i64 p.l, .bool p.d, .bool p.i, .bool p.g, .bool p.s] 30))
      exact ⟨by rw [cell_of_row _ _ 0 _ _ _ hb1]; rfl, by rw [cell_of_row _ _ 1 _ _ _ hb1]; rfl, by rw [cell_of_row _ _ 2 _ _ _ hb1]; rfl, by rw [cell_of_row _ _ 3 _ _ _ hb1]; rfl, by rw [cell_of_row _ _ 4 _ _ _ hb1]; rfl⟩)
    clear hx hp
    go_enter Tryz.func9, Tryz.ntmps9
    go_wp2_with fail
    refine (rt.impl_expr l a cap _ HN.out HK.out HS.out (HC.out.on HB0.out (Nat.le_refl _)) (HH.out.below HB0.out)).mono ?_
    rw [HX.out]
    rintro e w1 ⟨rfl, b1⟩
    have B1 := Lib.hid (HB0.out.trans (b1.mono HB0.out.size))
    obtain ⟨p0, p1, p2, p3, p4⟩ := HZ.out w1 b1
    clear b1
    go_wp2_with fail
    refine (ps.impl_ok p.l p.d p.i p.g p.s _).mono ?_
    rw [HP.out]
    rintro e w2 ⟨rfl, b2⟩
    have B2 := Lib.hid (B1.out.trans (b2.mono B1.out.size))
    clear b2
    go_wp2
    go_ret
    refine ⟨.slice none 0 0, rfl, B2.out, ?_⟩
    rw [HE.out]
    exact own.Own.nil _ _
  have HE := Lib.hid (show etoks l p = ex mis l l.length (l.length - 1) p by unfold etoks; rw [if_pos ⟨hx, hp⟩])
  have HX := Lib.hid hx
  obtain ⟨ht, h0, hlast⟩ := expr_parts hx
  have HLEN := Lib.hid (show ([] : List Tk).length + (ex mis l l.length (l.length - 1) p).length ≤ 1048576 by have := ex_len (enc := mis) (f := l.length) (p := p) ht (by omega) (by omega) hlast; simp; omega)
  have HALL := Lib.hid (show ∀ w0 : World, Held w0 → nd.Lies w0.heap.size w0 a l → CallE 25 w0 a l.length cap (.func (.func 24) #[] #[]) (l.length - 1) (ex mis l l.length (l.length - 1)) from fun w0 hh hc =>
    have hEx : ∀ (U : Nat → Ps → List Tk) (i : Nat) (n : Nd), i < l.length → l.getD i default = n → CallE 45 w0 a l.length cap (.func (.func 24) #[] #[]) i (U i) → CallE 25 w0 a l.length cap (.func (.func 24) #[] #[]) i (par mis l U i) := fun U i n hi hn hU => expr_mis i n hh rfl HN.out hi hn hc hU
    hEx _ _ _ (by omega) rfl (all_un ht HN.out hh hc hEx l.length (l.length - 1) (by omega) (by omega) hlast))
  have HST := Lib.hid (show ∀ w0 : World, St w0 a l.length cap (.func (.func 24) #[] #[]) (.slice none 0 0) [] (w0.alloc (.cells #[.slice a l.length cap, (.func (.func 24) #[] #[]), .slice none 0 0] 52)) from fun w0 => ⟨(Below.refl _ _).alloc (Nat.le_refl _) _, heap_alloc_new w0 _, own.Own.nil _ _⟩)
  obtain ⟨N, hN⟩ : ∃ N, l.length = N := ⟨_, rfl⟩
  obtain ⟨k, hk⟩ : ∃ k, N = k + 1 := ⟨N - 1, by omega⟩
  have HPOS := Lib.hid (show posOk p.l p.d = true from hp)
  have HEX := Lib.hid (show ∀ w1, w1.heap.size ≥ 0 → nd.Lies w1.heap.size w1 a l → Held w1 → Calls Tryz.prog 22 #[.slice a l.length cap] w1 fun e w' => e = .returned (.bool true) ∧ Below w1.heap.size w1 w' from fun w1 _ h1 h2 => (rt.impl_expr l a cap w1 HN.out HK.out HS.out h1 h2).mono fun e w' h => by rw [HX.out] at h; exact h)
  rw [hN] at HALL HST HEX hn HLEN ⊢
  have hkk : N - 1 = k := by omega
  rw [hkk] at HALL HLEN
  have HKE := Lib.hid (show N - 1 = k from hkk)
  have HNE := Lib.hid hN
  have HCALL := Lib.hid (show ∀ w0 : World, Held w0 → nd.Lies w0.heap.size w0 a l → ∀ (v : Value) (ts : List Tk) (w : World), St w0 a N cap (.func (.func 24) #[] #[]) v ts w → ts.length + (ex mis l N k p).length ≤ 1048576 → Calls Tryz.prog 25 #[.pointer (some ⟨w0.heap.size, 0, none⟩), .int .i64 ((N : Int) - 1), .agg #[.int .i64 p.l, .bool p.d, .bool p.i, .bool p.g, .bool p.s]] w (Put w0 a N cap (.func (.func 24) #[] #[]) v ts (ex mis l N k p) w) from fun w0 hh hc v ts w hst hl => by
    have := HALL.out w0 hh hc p HPOS.out v ts w hst hl
    rw [show ((k : Nat) : Int) = (N : Int) - 1 by omega] at this
    exact this)
  have hN1 : (1 : Int) ≤ (N : Int) := by omega
  have HP := Lib.hid hp
  have HZ := Lib.hid (show ∀ w1, Below (w.alloc (.cells #[.int .i64 p.l, .bool p.d, .bool p.i, .bool p.g, .bool p.s] 30)).heap.size (w.alloc (.cells #[.int .i64 p.l, .bool p.d, .bool p.i, .bool p.g, .bool p.s] 30)) w1 → w1.cell? ⟨w.heap.size, 0, none⟩ = some (.int .i64 p.l) ∧ w1.cell? ⟨w.heap.size, 1, none⟩ = some (.bool p.d) ∧ w1.cell? ⟨w.heap.size, 2, none⟩ = some (.bool p.i) ∧ w1.cell? ⟨w.heap.size, 3, none⟩ = some (.bool p.g) ∧ w1.cell? ⟨w.heap.size, 4, none⟩ = some (.bool p.s) from fun w1 hb => by
    have hb1 := (hb.block w.heap.size (by simp)).trans (heap_alloc_new w (.cells #[.int .i64 p.l, .bool p.d, .bool p.i, .bool p.g, .bool p.s] 30))
    exact ⟨by rw [cell_of_row _ _ 0 _ _ _ hb1]; rfl, by rw [cell_of_row _ _ 1 _ _ _ hb1]; rfl, by rw [cell_of_row _ _ 2 _ _ _ hb1]; rfl, by rw [cell_of_row _ _ 3 _ _ _ hb1]; rfl, by rw [cell_of_row _ _ 4 _ _ _ hb1]; rfl⟩)
  clear hx ht h0 hlast hN hk hkk hp
  go_enter Tryz.func9, Tryz.ntmps9
  go_wp2_with fail
  refine (HEX.out _ (Nat.zero_le _) (HC.out.on HB0.out (Nat.le_refl _)) (HH.out.below HB0.out)).mono ?_
  rintro e w1 ⟨rfl, b1⟩
  have B1 := Lib.hid (HB0.out.trans (b1.mono HB0.out.size))
  obtain ⟨p0, p1, p2, p3, p4⟩ := HZ.out w1 b1
  have B01 := Lib.hid b1
  clear b1
  go_wp2_with fail
  refine (ps.impl_ok p.l p.d p.i p.g p.s _).mono ?_
  rw [HP.out]
  rintro e w2 ⟨rfl, b2⟩
  have B2 := Lib.hid (B1.out.trans (b2.mono B1.out.size))
  have HZ2 := Lib.hid (HZ.out _ ((B01.out.trans (b2.mono B01.out.size)).alloc (Nat.le_trans B01.out.size b2.size) (.cells #[.slice a N cap, (.func (.func 24) #[] #[]), .slice none 0 0] 52)))
  obtain ⟨q0, q1, q2, q3, q4⟩ := HZ2.out
  clear b2 p0 p1 p2 p3 p4
  have ST := Lib.hid (HST.out w2)
  obtain ⟨cW, hcW⟩ : ∃ cW, cW = w2 := ⟨_, rfl⟩
  go_wp2_with fail
  refine (HCALL.out w2 (HH.out.below B2.out) (HC.out.on B2.out (Nat.le_refl _)) _ _ _ ST.out HLEN.out).mono ?_
  rintro e w4 ⟨rfl, v4, s4, g4⟩
  obtain ⟨z0, z1, z2⟩ := s4.c
  have S4 := Lib.hid s4
  clear s4 g4
  go_wp2
  go_ret
  refine ⟨v4, rfl, B2.out.trans (S4.out.bel.mono B2.out.size), ?_⟩
  rw [HE.out, HNE.out, HKE.out]
  have := S4.out.own
  rw [List.nil_append] at this
  exact this.up (Nat.le_succ_of_le B2.out.size)

set_option maxHeartbeats 1600000 in
theorem impl_FullTokens (l : List Nd) (a : Option Addr) (cap : Nat) (w : World) (hn : l.length ≤ 1048576) (hk : ∀ t ∈ l, t.kids.length ≤ 1048576) (hs : ∀ t ∈ l, t.s.size ≤ 1048576 ∧ t.t.size ≤ 1048576) (hc : nd.Lies w.heap.size w a l) (hh : Held w) :
    Calls Tryz.prog 16 #[.slice a l.length cap] w (Out (ftoks l) w) := by
  have HC := Lib.hid hc
  have HN := Lib.hid hn
  have HH := Lib.hid hh
  have HK := Lib.hid hk
  have HS := Lib.hid hs
  have HB0 := Lib.hid (show Below w.heap.size w w from (Below.refl w.heap.size w))
  clear hc hh hk hs
  cases hx : rt.exprOk l
  · have HE := Lib.hid (show ftoks l = [] by unfold ftoks; rw [if_neg (by simp [hx])])
    have HX := Lib.hid hx
    go_enter Tryz.func16, Tryz.ntmps16
    go_wp2_with fail
    refine (rt.impl_expr l a cap _ HN.out HK.out HS.out (HC.out.on HB0.out (Nat.le_refl _)) (HH.out.below HB0.out)).mono ?_
    rw [HX.out]
    rintro e w1 ⟨rfl, b1⟩
    have B1 := Lib.hid (HB0.out.trans (b1.mono HB0.out.size))
    clear b1
    go_wp2
    go_ret
    refine ⟨.slice none 0 0, rfl, B1.out, ?_⟩
    rw [HE.out]
    exact own.Own.nil _ _
  have HE := Lib.hid (show ftoks l = ex full l l.length (l.length - 1) top by unfold ftoks; rw [if_pos hx])
  have HX := Lib.hid hx
  obtain ⟨ht, h0, hlast⟩ := expr_parts hx
  have HLEN := Lib.hid (show ([] : List Tk).length + (ex full l l.length (l.length - 1) top).length ≤ 1048576 by have := ex_len (enc := full) (f := l.length) (p := top) ht (by omega) (by omega) hlast; simp; omega)
  have HALL := Lib.hid (show ∀ w0 : World, Held w0 → nd.Lies w0.heap.size w0 a l → CallE 25 w0 a l.length cap (.func (.func 31) #[] #[]) (l.length - 1) (ex full l l.length (l.length - 1)) from fun w0 hh hc =>
    have hEx : ∀ (U : Nat → Ps → List Tk) (i : Nat) (n : Nd), i < l.length → l.getD i default = n → CallE 45 w0 a l.length cap (.func (.func 31) #[] #[]) i (U i) → CallE 25 w0 a l.length cap (.func (.func 31) #[] #[]) i (par full l U i) := fun U i n hi hn hU => expr_full i n hh rfl HN.out hi hn hc hU
    hEx _ _ _ (by omega) rfl (all_un ht HN.out hh hc hEx l.length (l.length - 1) (by omega) (by omega) hlast))
  have HST := Lib.hid (show ∀ w0 : World, St w0 a l.length cap (.func (.func 31) #[] #[]) (.slice none 0 0) [] (w0.alloc (.cells #[.slice a l.length cap, (.func (.func 31) #[] #[]), .slice none 0 0] 52)) from fun w0 => ⟨(Below.refl _ _).alloc (Nat.le_refl _) _, heap_alloc_new w0 _, own.Own.nil _ _⟩)
  obtain ⟨N, hN⟩ : ∃ N, l.length = N := ⟨_, rfl⟩
  obtain ⟨k, hk⟩ : ∃ k, N = k + 1 := ⟨N - 1, by omega⟩
  have HPOS := Lib.hid (show posOk top.l top.d = true from top_ok)
  have HEX := Lib.hid (show ∀ w1, w1.heap.size ≥ 0 → nd.Lies w1.heap.size w1 a l → Held w1 → Calls Tryz.prog 22 #[.slice a l.length cap] w1 fun e w' => e = .returned (.bool true) ∧ Below w1.heap.size w1 w' from fun w1 _ h1 h2 => (rt.impl_expr l a cap w1 HN.out HK.out HS.out h1 h2).mono fun e w' h => by rw [HX.out] at h; exact h)
  rw [hN] at HALL HST HEX hn HLEN ⊢
  have hkk : N - 1 = k := by omega
  rw [hkk] at HALL HLEN
  have HKE := Lib.hid (show N - 1 = k from hkk)
  have HNE := Lib.hid hN
  have HCALL := Lib.hid (show ∀ w0 : World, Held w0 → nd.Lies w0.heap.size w0 a l → ∀ (v : Value) (ts : List Tk) (w : World), St w0 a N cap (.func (.func 31) #[] #[]) v ts w → ts.length + (ex full l N k top).length ≤ 1048576 → Calls Tryz.prog 25 #[.pointer (some ⟨w0.heap.size, 0, none⟩), .int .i64 ((N : Int) - 1), .agg #[.int .i64 1, .bool false, .bool false, .bool false, .bool false]] w (Put w0 a N cap (.func (.func 31) #[] #[]) v ts (ex full l N k top) w) from fun w0 hh hc v ts w hst hl => by
    have := HALL.out w0 hh hc top HPOS.out v ts w hst hl
    rw [show ((k : Nat) : Int) = (N : Int) - 1 by omega] at this
    exact this)
  have hN1 : (1 : Int) ≤ (N : Int) := by omega
  clear hx ht h0 hlast hN hk hkk
  go_enter Tryz.func16, Tryz.ntmps16
  go_wp2_with fail
  refine (HEX.out _ (Nat.zero_le _) (HC.out.on HB0.out (Nat.le_refl _)) (HH.out.below HB0.out)).mono ?_
  rintro e w1 ⟨rfl, b1⟩
  have B1 := Lib.hid (HB0.out.trans (b1.mono HB0.out.size))
  have B2 := Lib.hid B1.out
  clear b1
  have ST := Lib.hid (HST.out w1)
  obtain ⟨cW, hcW⟩ : ∃ cW, cW = w1 := ⟨_, rfl⟩
  go_wp2_with fail
  refine (ps.impl_top _).mono ?_
  rintro e w3 ⟨rfl, b3⟩
  have ST3 := Lib.hid (ST.out.keep b3)
  clear b3
  go_wp2_with fail
  refine (HCALL.out w1 (HH.out.below B2.out) (HC.out.on B2.out (Nat.le_refl _)) _ _ _ ST3.out HLEN.out).mono ?_
  rintro e w4 ⟨rfl, v4, s4, g4⟩
  obtain ⟨z0, z1, z2⟩ := s4.c
  have S4 := Lib.hid s4
  clear s4 g4
  go_wp2
  go_ret
  refine ⟨v4, rfl, B2.out.trans (S4.out.bel.mono B2.out.size), ?_⟩
  rw [HE.out, HNE.out, HKE.out]
  have := S4.out.own
  rw [List.nil_append] at this
  exact this.up (Nat.le_succ_of_le B2.out.size)
end Go.Proofs.YtdikohegclooiaaGreatDoor.tw
