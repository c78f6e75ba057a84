/-
  impl's tokenWriter: misfits, wantsFull, kid, target: contracts.
-/
import Derived.Test.YtiilpnoaocfjgaaGreatDoorWriter
import Derived.Test.YtiilpnoaocfjgaaGreatDoorKidI
namespace Go.Proofs.YtiilpnoaocfjgaaGreatDoor.tw
open Go.ChangeShapes Go.WideShapes Go.ChangeAt Go.RowKit
open tk (Tk)
open own
open nd (Nd Ints)
open ps (Ps posOk kidI top)
open spell (Held)
open et
set_option linter.unusedVariables false
set_option linter.unusedSimpArgs false
set_option maxRecDepth 20000

/-- A node and a position in their boxes. -/
structure Fm (b : Nat) (n : Nd) (ak : Option Addr) (ck : Nat) (p : Ps) (gn gp : Nat) (v : Value) (w : World) : Prop where
  n : w.heap[gn]? = some (.cells #[.int .i64 n.k, .int .i64 n.op, .string n.s, .string n.t, .slice ak n.kids.length ck] 60 (0, 0))
  p : w.heap[gp]? = some (.cells #[.int .i64 p.l, .bool p.d, .bool p.i, .bool p.g, .bool p.s] 26 (0, 0))
  fn : gn ≠ b ∧ some gn ≠ v.ownBlock
  fp : gp ≠ b ∧ some gp ≠ v.ownBlock
theorem undrew {B : Nat} {W w1 : World} (h : Below B W.drew w1) : Below B W w1 := ⟨h.os, h.tape, h.output, h.size, h.block⟩
theorem cell_drew {w : World} {x : Addr} {u : Value} (h : w.cell? x = some u) : w.drew.cell? x = some u := h
theorem lt_of {w : World} {g : Nat} {o : Obj} (h : w.heap[g]? = some o) : g < w.heap.size := by
  rcases Nat.lt_or_ge g w.heap.size with h' | h'
  · exact h'
  · rw [Array.getElem?_eq_none h'] at h; cases h
section
variable {b : Nat} {n : Nd} {ak : Option Addr} {ck : Nat} {p : Ps} {gn gp : Nat} {v v' : Value} {w w' : World}
theorem Fm.on (h : Fm b n ak ck p gn gp v w) (g : Gr b v v' w w') : Fm b n ak ck p gn gp v' w' :=
  ⟨(g.keep _ (lt_of h.n) h.fn.1 h.fn.2).trans h.n, (g.keep _ (lt_of h.p) h.fp.1 h.fp.2).trans h.p, ⟨h.fn.1, g.ne (lt_of h.n) h.fn.2⟩, ⟨h.fp.1, g.ne (lt_of h.p) h.fp.2⟩⟩
theorem Fm.drew (h : Fm b n ak ck p gn gp v w) : Fm b n ak ck p gn gp v w.drew := ⟨h.n, h.p, h.fn, h.fp⟩
theorem Fm.c (h : Fm b n ak ck p gn gp v w) : w.cell? ⟨gn, 0, none⟩ = some (.int .i64 n.k) ∧ w.cell? ⟨gn, 1, none⟩ = some (.int .i64 n.op) ∧ w.cell? ⟨gn, 2, none⟩ = some (.string n.s) ∧ w.cell? ⟨gn, 3, none⟩ = some (.string n.t) ∧ w.cell? ⟨gn, 4, none⟩ = some (.slice ak n.kids.length ck) ∧ w.cell? ⟨gp, 0, none⟩ = some (.int .i64 p.l) ∧ w.cell? ⟨gp, 1, none⟩ = some (.bool p.d) ∧ w.cell? ⟨gp, 2, none⟩ = some (.bool p.i) ∧ w.cell? ⟨gp, 3, none⟩ = some (.bool p.g) ∧ w.cell? ⟨gp, 4, none⟩ = some (.bool p.s) := by
  refine ⟨?_, ?_, ?_, ?_, ?_, ?_, ?_, ?_, ?_, ?_⟩
  · rw [cell_of_row w gn 0 _ _ _ h.n]; rfl
  · rw [cell_of_row w gn 1 _ _ _ h.n]; rfl
  · rw [cell_of_row w gn 2 _ _ _ h.n]; rfl
  · rw [cell_of_row w gn 3 _ _ _ h.n]; rfl
  · rw [cell_of_row w gn 4 _ _ _ h.n]; rfl
  · rw [cell_of_row w gp 0 _ _ _ h.p]; rfl
  · rw [cell_of_row w gp 1 _ _ _ h.p]; rfl
  · rw [cell_of_row w gp 2 _ _ _ h.p]; rfl
  · rw [cell_of_row w gp 3 _ _ _ h.p]; rfl
  · rw [cell_of_row w gp 4 _ _ _ h.p]; rfl

theorem Fm.start {w0 : World} {a : Option Addr} {m cap : Nat} {fv : Value} {ts : List Tk} (h : St w0 a m cap fv v ts w) (n : Nd) (ak : Option Addr) (ck : Nat) (p : Ps) :
    Fm w0.heap.size n ak ck p w.heap.size (w.heap.size + 1) v ((w.alloc (.cells #[.int .i64 n.k, .int .i64 n.op, .string n.s, .string n.t, .slice ak n.kids.length ck] 60)).alloc (.cells #[.int .i64 p.l, .bool p.d, .bool p.i, .bool p.g, .bool p.s] 26)) ∧ St w0 a m cap fv v ts ((w.alloc (.cells #[.int .i64 n.k, .int .i64 n.op, .string n.s, .string n.t, .slice ak n.kids.length ck] 60)).alloc (.cells #[.int .i64 p.l, .bool p.d, .bool p.i, .bool p.g, .bool p.s] 26)) ∧ Gr w0.heap.size v v w ((w.alloc (.cells #[.int .i64 n.k, .int .i64 n.op, .string n.s, .string n.t, .slice ak n.kids.length ck] 60)).alloc (.cells #[.int .i64 p.l, .bool p.d, .bool p.i, .bool p.g, .bool p.s] 26)) := by
  have hl := h.lt
  have hb : Below w.heap.size w ((w.alloc (.cells #[.int .i64 n.k, .int .i64 n.op, .string n.s, .string n.t, .slice ak n.kids.length ck] 60)).alloc (.cells #[.int .i64 p.l, .bool p.d, .bool p.i, .bool p.g, .bool p.s] 26)) := ((Below.refl _ _).alloc (Nat.le_refl _) _).alloc (by simp) _
  refine ⟨⟨?_, ?_, ⟨by omega, h.new (Nat.le_refl _)⟩, ⟨by omega, h.new (Nat.le_succ _)⟩⟩, h.keep hb, Gr.quiet hb⟩
  · rw [Below.heap_alloc _ _ _ (by simp)]
    exact heap_alloc_new w _
  · have := heap_alloc_new (w.alloc (.cells #[.int .i64 n.k, .int .i64 n.op, .string n.s, .string n.t, .slice ak n.kids.length ck] 60)) (.cells #[.int .i64 p.l, .bool p.d, .bool p.i, .bool p.g, .bool p.s] 26)
    simpa using this
end

theorem Fm.keepQ {b : Nat} {n : Nd} {ak : Option Addr} {ck : Nat} {p : Ps} {gn gp : Nat} {v : Value} {w w' : World} (h : Fm b n ak ck p gn gp v w) (hb : Below w.heap.size w w') : Fm b n ak ck p gn gp v w' := h.on (Gr.quiet hb)

theorem misfits_any (n : Nd) (ak : Option Addr) (ck : Nat) (p : Ps) (w : World) :
    Calls Tryz.prog 82 #[.agg #[.int .i64 n.k, .int .i64 n.op, .string n.s, .string n.t, .slice ak n.kids.length ck], .agg #[.int .i64 p.l, .bool p.d, .bool p.i, .bool p.g, .bool p.s]] w fun e w' => e = .returned (.bool (mis n p)) ∧ Below w.heap.size w w' := by
  go_enter Tryz.func82, Tryz.ntmps82
  go_wp2_with fail
  refine (ps.impl_fits n.k n.op p.l n.s n.t ak n.kids.length ck p.d p.i p.g p.s _).mono ?_
  rintro e w1 ⟨rfl, b1⟩
  have B1 := Lib.hid (show Below w.heap.size w w1 from (((Below.refl w.heap.size w).alloc (Nat.le_refl _) _).alloc (by simp) _).trans (b1.mono (by simp; omega)))
  clear b1
  go_wp2
  go_ret
  exact ⟨rfl, B1.out⟩

theorem full_any (n : Nd) (ak : Option Addr) (ck : Nat) (p : Ps) (w : World) :
    Calls Tryz.prog 87 #[.agg #[.int .i64 n.k, .int .i64 n.op, .string n.s, .string n.t, .slice ak n.kids.length ck], .agg #[.int .i64 p.l, .bool p.d, .bool p.i, .bool p.g, .bool p.s]] w fun e w' => e = .returned (.bool (full n p)) ∧ Below w.heap.size w w' := by
  obtain ⟨V, hV⟩ : ∃ V, lv.levelOf n.k n.op = V := ⟨_, rfl⟩
  have HV := Lib.hid hV
  have HX := Lib.hid (Fm.c (b := w.heap.size + 2) (v := .slice none 0 0) (n := n) (ak := ak) (ck := ck) (p := p) (gn := w.heap.size) (gp := w.heap.size + 1) (w := (w.alloc (.cells #[.int .i64 n.k, .int .i64 n.op, .string n.s, .string n.t, .slice ak n.kids.length ck] 60)).alloc (.cells #[.int .i64 p.l, .bool p.d, .bool p.i, .bool p.g, .bool p.s] 26)) ⟨by rw [Below.heap_alloc _ _ _ (by simp)]; exact heap_alloc_new w _, by have := heap_alloc_new (w.alloc (.cells #[.int .i64 n.k, .int .i64 n.op, .string n.s, .string n.t, .slice ak n.kids.length ck] 60)) (.cells #[.int .i64 p.l, .bool p.d, .bool p.i, .bool p.g, .bool p.s] 26); simpa using this, ⟨by omega, by intro e; cases e⟩, ⟨by omega, by intro e; cases e⟩⟩)
  have HK := Lib.hid (show ∀ w1, Below ((w.alloc (.cells #[.int .i64 n.k, .int .i64 n.op, .string n.s, .string n.t, .slice ak n.kids.length ck] 60)).alloc (.cells #[.int .i64 p.l, .bool p.d, .bool p.i, .bool p.g, .bool p.s] 26)).heap.size ((w.alloc (.cells #[.int .i64 n.k, .int .i64 n.op, .string n.s, .string n.t, .slice ak n.kids.length ck] 60)).alloc (.cells #[.int .i64 p.l, .bool p.d, .bool p.i, .bool p.g, .bool p.s] 26)) w1 → w1.cell? ⟨w.heap.size, 0, none⟩ = some (.int .i64 n.k) ∧ Below w.heap.size w w1 from fun w1 hb => ⟨(hb.cell (p := ⟨w.heap.size, 0, none⟩) (by simp; omega)).trans HX.out.1, (((Below.refl w.heap.size w).alloc (Nat.le_refl _) _).alloc (by simp) _).trans (hb.mono (by simp; omega))⟩)
  by_cases h15 : V = 15
  · have HE := Lib.hid (show full n p = (n.k == 4) by unfold full; rw [HV.out, h15]; rfl)
    subst h15
    clear hV
    go_enter Tryz.func87, Tryz.ntmps87
    go_wp2_with fail
    refine (lv.impl_level n.k n.op n.s n.t ak n.kids.length ck _).mono ?_
    rw [HV.out]
    rintro e w1 ⟨rfl, b1⟩
    obtain ⟨c0, B1⟩ := HK.out w1 b1
    have HB1 := Lib.hid B1
    clear b1 B1
    go_wp2
    all_goals
      go_ret
      exact ⟨by rw [HE.out]; rfl, HB1.out⟩
  · have HE := Lib.hid (show full n p = true by unfold full; rw [HV.out]; simp [h15])
    obtain ⟨e15, e15'⟩ := rt.ne_facts h15
    clear hV h15
    go_enter Tryz.func87, Tryz.ntmps87
    go_wp2_with fail
    refine (lv.impl_level n.k n.op n.s n.t ak n.kids.length ck _).mono ?_
    rw [HV.out]
    rintro e w1 ⟨rfl, b1⟩
    obtain ⟨c0, B1⟩ := HK.out w1 b1
    have HB1 := Lib.hid B1
    clear b1 B1
    go_wp2
    all_goals
      go_ret
      exact ⟨by rw [HE.out]; rfl, HB1.out⟩

/-- What a call of F answers at node i: the tokens T. -/
def CallE (F : FuncId) (w0 : World) (a : Option Addr) (m cap : Nat) (fv : Value) (i : Nat) (R : Ps → List Tk) : Prop :=
  ∀ (q : Ps), posOk q.l q.d = true → ∀ (v : Value) (ts : List Tk) (w : World), St w0 a m cap fv v ts w → ts.length + (R q).length ≤ 1048576 →
    Calls Tryz.prog F #[.pointer (some ⟨w0.heap.size, 0, none⟩), .int .i64 (i : Int), .agg #[.int .i64 q.l, .bool q.d, .bool q.i, .bool q.g, .bool q.s]] w (Put w0 a m cap fv v ts (R q) w)
theorem kid_cell {n : Nd} {ak : Option Addr} {w0 w : World} (hi : Ints w0.heap.size w0 ak n.kids) (hb : Below w0.heap.size w0 w) {K : Nat} (hK : K < n.kids.length) (hk : n.kids.getD K 0 = (kd n K : Int)) :
    ∃ bk ok, ak = some ⟨bk, ok, none⟩ ∧ bk < w0.heap.size ∧ w.cell? ⟨bk, ok + K, none⟩ = some (.int .i64 (kd n K : Int)) := by
  obtain ⟨bk, ok, e, hlt, hc⟩ := nd.ints_at hi hK
  refine ⟨bk, ok, e, hlt, ?_⟩
  rw [hb.cell (p := ⟨bk, ok + K, none⟩) hlt, hc K hK, ← hk, List.getD_eq_getElem?_getD, List.getElem?_eq_getElem hK]
  rfl

set_option maxHeartbeats 1600000 in
theorem kid_any {w0 : World} {a : Option Addr} {m cap : Nat} {fv : Value} {F : Nat → Ps → List Tk} {v : Value} {ts : List Tk} (n : Nd) (ak : Option Addr) (ck : Nat) (p : Ps) (K : Nat) (hK : K < n.kids.length) (w : World) (hp : posOk p.l p.d = true) (hq : posOk (kp n K p).l (kp n K p).d = true) (hn : n.kids.length ≤ 1048576) (hkd : n.kids.getD K 0 = (kd n K : Int)) (hi : Ints w0.heap.size w0 ak n.kids)
    (hE : CallE 83 w0 a m cap fv (kd n K) (F (kd n K))) (hst : St w0 a m cap fv v ts w) (hl : ts.length + (F (kd n K) (kp n K p)).length ≤ 1048576) :
    Calls Tryz.prog 352 #[.pointer (some ⟨w0.heap.size, 0, none⟩), .agg #[.int .i64 n.k, .int .i64 n.op, .string n.s, .string n.t, .slice ak n.kids.length ck], .int .i64 (K : Int), .agg #[.int .i64 p.l, .bool p.d, .bool p.i, .bool p.g, .bool p.s]] w (Put w0 a m cap fv v ts (F (kd n K) (kp n K p)) w) := by
  obtain ⟨X0, S0, G0⟩ := Fm.start hst n ak ck p
  obtain ⟨bk, ok, rfl, hbk, hkc⟩ := kid_cell (w := (w.alloc (.cells #[.int .i64 n.k, .int .i64 n.op, .string n.s, .string n.t, .slice ak n.kids.length ck] 60)).alloc (.cells #[.int .i64 p.l, .bool p.d, .bool p.i, .bool p.g, .bool p.s] 26)) hi S0.bel hK hkd
  have HX := Lib.hid X0
  have HS := Lib.hid S0
  have HG := Lib.hid G0
  have HE := Lib.hid hE
  have HL := Lib.hid hl
  have HQ := Lib.hid hq
  have hlt0 := hst.lt
  have Y0 := Lib.hid (And.intro X0.drew.c (cell_drew hkc))
  have HN := Lib.hid hn
  have hk1 : (0 : Int) ≤ (n.kids.length : Int) := by omega
  have hk2 : ((K : Int)) < (n.kids.length : Int) := by omega
  have HKB := Lib.hid (show ∀ w1 : World, Below ((w.alloc (.cells #[.int .i64 n.k, .int .i64 n.op, .string n.s, .string n.t, .slice (some ⟨bk, ok, none⟩) n.kids.length ck] 60)).alloc (.cells #[.int .i64 p.l, .bool p.d, .bool p.i, .bool p.g, .bool p.s] 26)).heap.size ((w.alloc (.cells #[.int .i64 n.k, .int .i64 n.op, .string n.s, .string n.t, .slice (some ⟨bk, ok, none⟩) n.kids.length ck] 60)).alloc (.cells #[.int .i64 p.l, .bool p.d, .bool p.i, .bool p.g, .bool p.s] 26)) w1 → w1.cell? ⟨bk, ok + K, none⟩ = some (.int .i64 (kd n K : Int)) from fun w1 hb => (hb.cell (p := ⟨bk, ok + K, none⟩) (by simp; omega)).trans hkc)
  have HPS := Lib.hid (show ∀ W, Calls Tryz.prog 190 #[.agg #[.int .i64 n.k, .int .i64 n.op, .string n.s, .string n.t, .slice (some ⟨bk, ok, none⟩) n.kids.length ck], .int .i64 (K : Int), .agg #[.int .i64 p.l, .bool p.d, .bool p.i, .bool p.g, .bool p.s]] W fun e w' => e = .returned (.agg #[.int .i64 (kp n K p).l, .bool (kp n K p).d, .bool (kp n K p).i, .bool (kp n K p).g, .bool (kp n K p).s]) ∧ Below W.heap.size W w' from fun W => ps.impl_kidPos n.k n.op n.s n.t _ n.kids.length ck (K : Int) p.l p.d p.i p.g p.s W hn)
  clear X0 S0 G0 hE hst hl hq hkc hi
  obtain ⟨W0, hW0⟩ : ∃ W, W = (w.alloc (.cells #[.int .i64 n.k, .int .i64 n.op, .string n.s, .string n.t, .slice (some ⟨bk, ok, none⟩) n.kids.length ck] 60)).alloc (.cells #[.int .i64 p.l, .bool p.d, .bool p.i, .bool p.g, .bool p.s] 26) := ⟨_, rfl⟩
  go_enter Tryz.func352, Tryz.ntmps352
  go_wp2_with fail
  rw [← hW0] at HX HS HG Y0 HKB ⊢
  clear hW0
  go_region_held3 (fun w' => (w'.cell? ⟨w.heap.size, 0, none⟩ = some (.int .i64 n.k) ∧ w'.cell? ⟨w.heap.size, 1, none⟩ = some (.int .i64 n.op) ∧ w'.cell? ⟨w.heap.size, 2, none⟩ = some (.string n.s) ∧ w'.cell? ⟨w.heap.size, 3, none⟩ = some (.string n.t) ∧ w'.cell? ⟨w.heap.size, 4, none⟩ = some (.slice (some ⟨bk, ok, none⟩) n.kids.length ck) ∧ w'.cell? ⟨(w.heap.size + 1), 0, none⟩ = some (.int .i64 p.l) ∧ w'.cell? ⟨(w.heap.size + 1), 1, none⟩ = some (.bool p.d) ∧ w'.cell? ⟨(w.heap.size + 1), 2, none⟩ = some (.bool p.i) ∧ w'.cell? ⟨(w.heap.size + 1), 3, none⟩ = some (.bool p.g) ∧ w'.cell? ⟨(w.heap.size + 1), 4, none⟩ = some (.bool p.s)) ∧ w'.cell? ⟨bk, ok + K, none⟩ = some (.int .i64 (kd n K : Int)))
    (first | with_reducible exact Y0.out | with_reducible exact Y1.out | with_reducible exact Y2.out)
    (first | (go_at_call 190; refine (HPS.out _).mono ?_; rintro e w1 ⟨rfl, b1⟩; have X1 := Lib.hid (HX.out.keepQ (undrew b1)); have S1 := Lib.hid (HS.out.keep (undrew b1)); have K1 := Lib.hid (HKB.out _ (undrew b1)); have Y1 := Lib.hid (And.intro X1.out.c K1.out); have G1 := Lib.hid (Gr.trans HG.out (Gr.quiet (undrew b1))); clear b1) | (go_at_call 83; refine (HE.out _ HQ.out _ _ _ S1.out HL.out).mono ?_; rintro e w2 ⟨rfl, hput⟩; obtain ⟨v2, s2, g2⟩ := hput; have X2 := Lib.hid (X1.out.on g2); have S2 := Lib.hid s2; have G2 := Lib.hid (G1.out.trans g2); have Y2 := Lib.hid (And.intro X2.out.c ((s2.bel.cell (p := ⟨bk, ok + K, none⟩) hbk).trans ((S1.out.bel.cell (p := ⟨bk, ok + K, none⟩) hbk).symm.trans K1.out))); clear s2 g2))
  go_wp2
  go_end0
  exact ⟨rfl, v2, S2.out, G2.out⟩

set_option maxHeartbeats 1600000 in
theorem target_any {w0 : World} {a : Option Addr} {m cap : Nat} {fv : Value} {F : Nat → Ps → List Tk} {v : Value} {ts : List Tk} (n : Nd) (ak : Option Addr) (ck : Nat) (p : Ps) (hK : 0 < n.kids.length) (w : World) (hp : posOk p.l p.d = true) (hq : posOk (kp n 0 p).l (kp n 0 p).d = true) (hn : n.kids.length ≤ 1048576) (hkd : n.kids.getD 0 0 = (kd n 0 : Int)) (hi : Ints w0.heap.size w0 ak n.kids)
    (hE : CallE 151 w0 a m cap fv (kd n 0) (F (kd n 0))) (hst : St w0 a m cap fv v ts w) (hl : ts.length + (F (kd n 0) (kp n 0 p)).length ≤ 1048576) :
    Calls Tryz.prog 353 #[.pointer (some ⟨w0.heap.size, 0, none⟩), .agg #[.int .i64 n.k, .int .i64 n.op, .string n.s, .string n.t, .slice ak n.kids.length ck], .agg #[.int .i64 p.l, .bool p.d, .bool p.i, .bool p.g, .bool p.s]] w (Put w0 a m cap fv v ts (F (kd n 0) (kp n 0 p)) w) := by
  obtain ⟨X0, S0, G0⟩ := Fm.start hst n ak ck p
  obtain ⟨bk, ok, rfl, hbk, hkc⟩ := kid_cell (w := (w.alloc (.cells #[.int .i64 n.k, .int .i64 n.op, .string n.s, .string n.t, .slice ak n.kids.length ck] 60)).alloc (.cells #[.int .i64 p.l, .bool p.d, .bool p.i, .bool p.g, .bool p.s] 26)) hi S0.bel hK hkd
  rw [Nat.add_zero] at hkc
  have HX := Lib.hid X0
  have HS := Lib.hid S0
  have HG := Lib.hid G0
  have HE := Lib.hid hE
  have HL := Lib.hid hl
  have HQ := Lib.hid hq
  have hlt0 := hst.lt
  have Y0 := Lib.hid (And.intro X0.drew.c (cell_drew hkc))
  have HN := Lib.hid hn
  have hk1 : (0 : Int) ≤ (n.kids.length : Int) := by omega
  have hk2 : ((0 : Int)) < (n.kids.length : Int) := by omega
  have HKB := Lib.hid (show ∀ w1 : World, Below ((w.alloc (.cells #[.int .i64 n.k, .int .i64 n.op, .string n.s, .string n.t, .slice (some ⟨bk, ok, none⟩) n.kids.length ck] 60)).alloc (.cells #[.int .i64 p.l, .bool p.d, .bool p.i, .bool p.g, .bool p.s] 26)).heap.size ((w.alloc (.cells #[.int .i64 n.k, .int .i64 n.op, .string n.s, .string n.t, .slice (some ⟨bk, ok, none⟩) n.kids.length ck] 60)).alloc (.cells #[.int .i64 p.l, .bool p.d, .bool p.i, .bool p.g, .bool p.s] 26)) w1 → w1.cell? ⟨bk, ok, none⟩ = some (.int .i64 (kd n 0 : Int)) from fun w1 hb => (hb.cell (p := ⟨bk, ok, none⟩) (by simp; omega)).trans hkc)
  have HPS := Lib.hid (show ∀ W, Calls Tryz.prog 190 #[.agg #[.int .i64 n.k, .int .i64 n.op, .string n.s, .string n.t, .slice (some ⟨bk, ok, none⟩) n.kids.length ck], .int .i64 0, .agg #[.int .i64 p.l, .bool p.d, .bool p.i, .bool p.g, .bool p.s]] W fun e w' => e = .returned (.agg #[.int .i64 (kp n 0 p).l, .bool (kp n 0 p).d, .bool (kp n 0 p).i, .bool (kp n 0 p).g, .bool (kp n 0 p).s]) ∧ Below W.heap.size W w' from fun W => ps.impl_kidPos n.k n.op n.s n.t _ n.kids.length ck 0 p.l p.d p.i p.g p.s W hn)
  clear X0 S0 G0 hE hst hl hq hkc hi
  obtain ⟨W0, hW0⟩ : ∃ W, W = (w.alloc (.cells #[.int .i64 n.k, .int .i64 n.op, .string n.s, .string n.t, .slice (some ⟨bk, ok, none⟩) n.kids.length ck] 60)).alloc (.cells #[.int .i64 p.l, .bool p.d, .bool p.i, .bool p.g, .bool p.s] 26) := ⟨_, rfl⟩
  go_enter Tryz.func353, Tryz.ntmps353
  go_wp2_with fail
  rw [← hW0] at HX HS HG Y0 HKB ⊢
  clear hW0
  go_region_held3 (fun w' => (w'.cell? ⟨w.heap.size, 0, none⟩ = some (.int .i64 n.k) ∧ w'.cell? ⟨w.heap.size, 1, none⟩ = some (.int .i64 n.op) ∧ w'.cell? ⟨w.heap.size, 2, none⟩ = some (.string n.s) ∧ w'.cell? ⟨w.heap.size, 3, none⟩ = some (.string n.t) ∧ w'.cell? ⟨w.heap.size, 4, none⟩ = some (.slice (some ⟨bk, ok, none⟩) n.kids.length ck) ∧ w'.cell? ⟨(w.heap.size + 1), 0, none⟩ = some (.int .i64 p.l) ∧ w'.cell? ⟨(w.heap.size + 1), 1, none⟩ = some (.bool p.d) ∧ w'.cell? ⟨(w.heap.size + 1), 2, none⟩ = some (.bool p.i) ∧ w'.cell? ⟨(w.heap.size + 1), 3, none⟩ = some (.bool p.g) ∧ w'.cell? ⟨(w.heap.size + 1), 4, none⟩ = some (.bool p.s)) ∧ w'.cell? ⟨bk, ok, none⟩ = some (.int .i64 (kd n 0 : Int)))
    (first | with_reducible exact Y0.out | with_reducible exact Y1.out | with_reducible exact Y2.out)
    (first | (go_at_call 190; refine (HPS.out _).mono ?_; rintro e w1 ⟨rfl, b1⟩; have X1 := Lib.hid (HX.out.keepQ (undrew b1)); have S1 := Lib.hid (HS.out.keep (undrew b1)); have K1 := Lib.hid (HKB.out _ (undrew b1)); have Y1 := Lib.hid (And.intro X1.out.c K1.out); have G1 := Lib.hid (Gr.trans HG.out (Gr.quiet (undrew b1))); clear b1) | (go_at_call 151; refine (HE.out _ HQ.out _ _ _ S1.out HL.out).mono ?_; rintro e w2 ⟨rfl, hput⟩; obtain ⟨v2, s2, g2⟩ := hput; have X2 := Lib.hid (X1.out.on g2); have S2 := Lib.hid s2; have G2 := Lib.hid (G1.out.trans g2); have Y2 := Lib.hid (And.intro X2.out.c ((s2.bel.cell (p := ⟨bk, ok, none⟩) hbk).trans ((S1.out.bel.cell (p := ⟨bk, ok, none⟩) hbk).symm.trans K1.out))); clear s2 g2))
  go_wp2
  go_end0
  exact ⟨rfl, v2, S2.out, G2.out⟩
end Go.Proofs.YtiilpnoaocfjgaaGreatDoor.tw
