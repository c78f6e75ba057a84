/-
  Lists of tokens of one's own joined by append, in a walk and in a region that draws; literals of tokens; spec.l10Tok, spec.l10Leaf: contracts.
-/
import Derived.Test.YtdikohegclooiaaGreatDoorTokMath
import Derived.Test.YtdikohegclooiaaGreatDoorOwn2
import Derived.Test.YtdikohegclooiaaGreatDoorSpell
import Derived.Deep.RegionHeld3
namespace Go.Proofs.YtdikohegclooiaaGreatDoor.st
open Go.ChangeShapes Go.WideShapes Go.ChangeAt Go.RowKit
open tk (Tk)
open nd (Nd)
open ps (Ps posOk top)
open et
set_option linter.unusedVariables false
set_option linter.unusedSimpArgs false
set_option maxRecDepth 20000

theorem flat_len (l : List Tk) : (own.flat l).length = l.length * 3 := by
  induction l with
  | nil => rfl
  | cons t l ih => simp only [own.flat, List.length_cons, ih]; omega
theorem flat_one : ∀ (l : List Tk), ∀ u ∈ own.flat l, u.oneCell' = true := by
  intro l
  induction l with
  | nil => intro u hu; simp [own.flat] at hu
  | cons t l ih =>
    intro u hu
    simp only [own.flat, List.mem_cons] at hu
    rcases hu with rfl | rfl | rfl | hu
    · rfl
    · rfl
    · rfl
    · exact ih u hu

/-- 'append(d, xs...)', both of one's own. -/
theorem wp_toks {o : Oper} {a : Act} {w : World} {K : Act → World → Prop} {Q : Exit → Act → World → Prop} (s x : Operand)
    (ho : o.op = .call { callee := .builtin .append, args := #[s, x], argTypes := #[26, 26] }) (B : Nat) (v : Value) (d : List Tk) (hs : a.eval s = v)
    (hown : own.Own B v d w) (B' : Nat) (u : Value) (xs : List Tk) (hx : a.eval x = u) (hu : own.Own B' u xs w) (hn : d.length + xs.length ≤ 1048576) (hB : B ≤ w.heap.size)
    (h : ∀ v' w', own.Own B v' (d ++ xs) w' → Below B w w' → w.grownBy w' v.ownBlock → K (a.put o.dst v') w') : Oper.wp Tryz.prog o a w K Q := by
  obtain ⟨i0, hi, hz0, hz1, hz2⟩ := info_parts tk.Tryz.infoTok
  rcases hu.2 with ⟨rfl, h0⟩ | ⟨g, cap, cur, rfl, hg, hblk, hl, hcm, hcs, htk⟩
  · obtain rfl : xs = [] := List.length_eq_zero_iff.1 h0
    have hrun := run_append_owned_none (P := Tryz.prog) (w := w) B 26 o.type 56 i0 3 Tryz.underlying26 hi v d.length (own.flat d) hown
    have := h v w (by rw [List.append_nil]; exact hown) (Below.refl _ _) ⟨rfl, rfl, rfl, Nat.le_refl _, fun _ _ _ => rfl⟩
    unfold Oper.wp
    simp [execOp, ho, resolve, invoke, builtin, hs, hx, hrun, Result.andThen]
    exact this
  · refine wp_append_own w s x 26 ho B 56 i0 _ 3 32 Tryz.underlying26 hi hz0 hz1 hz2 rfl (by decide) v d.length (own.flat d) hs hown ⟨g, 0, none⟩ xs.length cap (own.flat xs) hx (flat_len xs) ?_ (flat_one xs) (by unfold maxLen; omega) (by omega) hB ?_
    · intro j u hj
      rw [show ((⟨g, 0, none⟩ : Addr).add j) = ⟨g, j, none⟩ by unfold Addr.add; split <;> simp_all]
      rw [cell_of_row w g j _ _ _ hblk]
      rw [← htk, List.getElem?_take] at hj
      split at hj
      · simpa using hj
      · cases hj
    · intro v' w' hown' hg' _
      refine h v' w' ?_ ?_ hg'
      · unfold own.Own
        rw [own.flat_append, List.length_append]
        exact hown'
      · exact (Below.refl B w).grown hg' hB (fun k hk => (World.ownsRow.lt hown k hk).1)
theorem wpList_toks {ops : Array Oper} {rest : List Oper} {o : Oper} {a : Act} {w : World} {Q : Exit → Act → World → Prop} (hgd : o.guard = none) (s x : Operand)
    (ho : o.op = .call { callee := .builtin .append, args := #[s, x], argTypes := #[26, 26] }) (B : Nat) (v : Value) (d : List Tk) (hs : a.eval s = v)
    (hown : own.Own B v d w) (B' : Nat) (u : Value) (xs : List Tk) (hx : a.eval x = u) (hu : own.Own B' u xs w) (hn : d.length + xs.length ≤ 1048576) (hB : B ≤ w.heap.size)
    (h : ∀ v' w', own.Own B v' (d ++ xs) w' → Below B w w' → w.grownBy w' v.ownBlock → wpList Tryz.prog ops Q rest (a.put o.dst v') w') : wpList Tryz.prog ops Q (o :: rest) a w :=
  wpList_plain hgd fun _ hK => wp_toks s x ho B v d hs hown B' u xs hx hu hn hB fun v' w' h1 h2 h3 => hK _ _ (h v' w' h1 h2 h3)
theorem step_toks {ops : Array Oper} {o : Oper} {a : Act} {w : World} {K : Act → World → Prop} {Q : Exit → Act → World → Prop} {E : Prop} (hgd : o.guard = none) (s x : Operand)
    (ho : o.op = .call { callee := .builtin .append, args := #[s, x], argTypes := #[26, 26] }) (B : Nat) (v : Value) (d : List Tk) (hs : a.eval s = v)
    (hown : own.Own B v d w) (B' : Nat) (u : Value) (xs : List Tk) (hx : a.eval x = u) (hu : own.Own B' u xs w) (hn : d.length + xs.length ≤ 1048576) (hB : B ≤ w.heap.size)
    (h : ∀ v' w', own.Own B v' (d ++ xs) w' → Below B w w' → w.grownBy w' v.ownBlock → K (a.put o.dst v') w') : if Region.wanted o (yielded ops a.tmps) = true then Oper.wp Tryz.prog o a w K Q else E := by
  have hw : Region.wanted o (yielded ops a.tmps) = true := by simp [Region.wanted, hgd]
  rw [if_pos hw]
  exact wp_toks s x ho B v d hs hown B' u xs hx hu hn hB h

/-! ### Literals -/
theorem lit1 {B : Nat} (w : World) (t : Tk) (hB : B ≤ w.heap.size) : own.Own B (.slice (some ⟨w.heap.size, 0, none⟩) 1 1) [t] (w.alloc (.cells #[.int .i64 t.k, .string t.s, .int .i64 t.a] 56)) :=
  ⟨rfl, .inr ⟨w.heap.size, 1, _, rfl, hB, heap_alloc_new w _, Nat.le_refl _, by decide, rfl, rfl⟩⟩
theorem lit2 {B : Nat} (w : World) (t u : Tk) (hB : B ≤ w.heap.size) : own.Own B (.slice (some ⟨w.heap.size, 0, none⟩) 2 2) [t, u] (w.alloc (.cells #[.int .i64 t.k, .string t.s, .int .i64 t.a, .int .i64 u.k, .string u.s, .int .i64 u.a] 56)) :=
  ⟨rfl, .inr ⟨w.heap.size, 2, _, rfl, hB, heap_alloc_new w _, Nat.le_refl _, by decide, rfl, rfl⟩⟩

theorem undrew {B : Nat} {W w1 : World} (h : Below B W.drew w1) : Below B W w1 := ⟨h.os, h.tape, h.output, h.size, h.block⟩
/-- What a call that makes its answer in memory of its own gives. -/
def Out (T : List Tk) (w : World) (e : Ending) (w' : World) : Prop := ∃ v, e = .returned v ∧ Below w.heap.size w w' ∧ own.Own w.heap.size v T w'

/-- A token's box. -/
def T3 (g : Nat) (k : Int) (s : ByteArray) (x : Int) (w : World) : Prop := w.heap[g]? = some (.cells #[.int .i64 k, .string s, .int .i64 x] 56 (0, 0))
theorem T3.f {g : Nat} {k x : Int} {s : ByteArray} {w : World} (h : T3 g k s x w) (j : Nat) : w.frozen? ⟨g, j, none⟩ = false := frozen_of_row w g j _ _ h
theorem T3.c {g : Nat} {k x : Int} {s : ByteArray} {w : World} (h : T3 g k s x w) : w.cell? ⟨g, 0, none⟩ = some (.int .i64 k) ∧ w.cell? ⟨g, 1, none⟩ = some (.string s) ∧ w.cell? ⟨g, 2, none⟩ = some (.int .i64 x) :=
  ⟨by rw [cell_of_row w g 0 _ _ _ h]; rfl, by rw [cell_of_row w g 1 _ _ _ h]; rfl, by rw [cell_of_row w g 2 _ _ _ h]; rfl⟩
theorem T3.put {g : Nat} {k x : Int} {s : ByteArray} {w : World} (h : T3 g k s x w) (k' x' : Int) (s' : ByteArray) : T3 g k' s' x' (((w.setCell ⟨g, 0, none⟩ (.int .i64 k')).setCell ⟨g, 1, none⟩ (.string s')).setCell ⟨g, 2, none⟩ (.int .i64 x')) :=
  heap_setCell_same _ g 2 _ _ _ (heap_setCell_same _ g 1 _ _ _ (heap_setCell_same _ g 0 _ _ _ h))
theorem below_set3 {B g : Nat} {w W : World} (h : Below B W w) (hg : B ≤ g) (x y z : Value) : Below B W (((w.setCell ⟨g, 0, none⟩ x).setCell ⟨g, 1, none⟩ y).setCell ⟨g, 2, none⟩ z) :=
  ((h.setCell (p := ⟨g, 0, none⟩) hg x).setCell (p := ⟨g, 1, none⟩) hg y).setCell (p := ⟨g, 2, none⟩) hg z

theorem spec_tok (k : Int) (w : World) : Calls Tryz.prog 40 #[.int .i64 k] w fun e w' => e = .returned (.agg #[.int .i64 (tok k).k, .string (tok k).s, .int .i64 (tok k).a]) ∧ Below w.heap.size w w' := by
  have HT := Lib.hid (show T3 w.heap.size 0 ⟨#[]⟩ 0 (w.alloc (.cells #[.int .i64 0, .string ⟨#[]⟩, .int .i64 0] 56)) from heap_alloc_new w _)
  have hsz : ∀ o, (w.alloc o).heap.size = w.heap.size + 1 := fun o => by simp
  have HSZ := Lib.hid hsz
  clear hsz
  go_enter Tryz.func40, Tryz.ntmps40
  go_wp2_with fail
  refine (spell.spec_spell k _).mono ?_
  rintro e w1 ⟨rfl, b1⟩
  have X1 := Lib.hid (show T3 w.heap.size 0 ⟨#[]⟩ 0 w1 from (b1.block w.heap.size (by rw [HSZ.out]; omega)).trans HT.out)
  have B1 := Lib.hid (((Below.refl w.heap.size w).alloc (Nat.le_refl _) _).trans (b1.mono (by rw [HSZ.out]; omega)))
  have f0 := X1.out.f 0
  have f1 := X1.out.f 1
  have f2 := X1.out.f 2
  obtain ⟨c0, c1, c2⟩ := X1.out.c
  clear b1
  go_wp2
  obtain ⟨d0, d1, d2⟩ := (X1.out.put k 0 (spell.spell k)).c
  refine bodyPost_ret (v := .agg #[.int .i64 k, .string (spell.spell k), .int .i64 0]) (by simp [results, Tryz.results40, go_sem, d0, d1, d2]) rfl ⟨rfl, ?_⟩
  exact below_set3 B1.out (Nat.le_refl _) _ _ _

/-- The token of a node without kids. -/
def leafK (n : Nd) : Int := if n.k = 1 then 6 else if n.k = 2 then 3 else if n.k = 3 then 4 else if n.k = 4 then 5 else 0
def leafS (n : Nd) : ByteArray := if 1 ≤ n.k ∧ n.k ≤ 4 then n.s else ⟨#[]⟩
set_option maxHeartbeats 800000 in
theorem spec_leaf (n : Nd) (ak : Option Addr) (ck : Nat) (w : World) :
    Calls Tryz.prog 53 #[.agg #[.int .i64 n.k, .int .i64 n.op, .string n.s, .string n.t, .slice ak n.kids.length ck]] w fun e w' => e = .returned (.agg #[.int .i64 (leafK n), .string (leafS n), .int .i64 0]) ∧ Below w.heap.size w w' := by
  have HT := Lib.hid (fun o : Obj => show T3 (w.heap.size + 1) 0 ⟨#[]⟩ 0 ((w.alloc o).alloc (.cells #[.int .i64 0, .string ⟨#[]⟩, .int .i64 0] 56)) from by have := heap_alloc_new (w.alloc o) (.cells #[.int .i64 0, .string ⟨#[]⟩, .int .i64 0] 56); unfold T3; simpa using this)
  have HB := Lib.hid (fun o o' : Obj => show Below w.heap.size w ((w.alloc o).alloc o') from ((Below.refl _ _).alloc (Nat.le_refl _) _).alloc (by simp) _)
  have f := fun (o : Obj) (j : Nat) => (HT.out o).f j
  have hr : (n.k = 1 ∧ leafK n = 6 ∧ leafS n = n.s) ∨ (n.k = 2 ∧ leafK n = 3 ∧ leafS n = n.s) ∨ (n.k = 3 ∧ leafK n = 4 ∧ leafS n = n.s) ∨ (n.k = 4 ∧ leafK n = 5 ∧ leafS n = n.s) ∨ ((¬ n.k = 1 ∧ ¬ n.k = 2 ∧ ¬ n.k = 3 ∧ ¬ n.k = 4) ∧ leafK n = 0 ∧ leafS n = ⟨#[]⟩) := by
    by_cases h1 : n.k = 1
    · exact .inl ⟨h1, by simp [leafK, h1], by simp [leafS, h1]⟩
    by_cases h2 : n.k = 2
    · exact .inr (.inl ⟨h2, by simp [leafK, h2], by simp [leafS, h2]⟩)
    by_cases h3 : n.k = 3
    · exact .inr (.inr (.inl ⟨h3, by simp [leafK, h3], by simp [leafS, h3]⟩))
    by_cases h4 : n.k = 4
    · exact .inr (.inr (.inr (.inl ⟨h4, by simp [leafK, h4], by simp [leafS, h4]⟩)))
    · exact .inr (.inr (.inr (.inr ⟨⟨h1, h2, h3, h4⟩, by simp [leafK, h1, h2, h3, h4], by unfold leafS; rw [if_neg (by omega)]⟩)))
  rcases hr with ⟨h, e1, e2⟩ | ⟨h, e1, e2⟩ | ⟨h, e1, e2⟩ | ⟨h, e1, e2⟩ | ⟨⟨h1, h2, h3, h4⟩, e1, e2⟩
  all_goals
    have E1 := Lib.hid e1
    have E2 := Lib.hid e2
    clear e1 e2
    go_enter Tryz.func53, Tryz.ntmps53
    go_wp2
    all_goals
      obtain ⟨d0, d1, d2⟩ := ((HT.out (.cells #[.int .i64 n.k, .int .i64 n.op, .string n.s, .string n.t, .slice ak n.kids.length ck] 45)).put (leafK n) 0 (leafS n)).c
      rw [E1.out, E2.out] at d0 d1 d2
      rw [E1.out, E2.out]
      refine bodyPost_ret (by simp [results, Tryz.results53, go_sem, d0, d1, d2]) rfl ⟨rfl, ?_⟩
      exact HB.out _ _
end Go.Proofs.YtdikohegclooiaaGreatDoor.st
