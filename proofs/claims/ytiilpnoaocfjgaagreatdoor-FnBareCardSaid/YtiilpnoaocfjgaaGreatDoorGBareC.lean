/-
  spec.l10Draw, spec.DrawExprTokens: some nodes, not many, and some position.
  The kinds of tokens that end and begin an operand: impl's functions and the model's give the same Bools.
  What a position forbids stands in ExprTokens of a right tree only inside brackets: the mathematics. No program's text is walked here.
  impl's tokenWriter: misfits, wantsFull, kid, target: contracts.
  impl's tokenWriter: list: contract.
  impl's tokenWriter: the methods for each kind of expression: contracts.
  impl's tokenWriter: expr, as ExprTokens and as FullTokens make it: contracts.
  impl's tokenWriter: methodOf, unenclosed: contracts.
  impl.ExprTokens, impl.FullTokens: the tokens that the mathematics names, in memory of the call's own: contracts.
  Operands over tokens in memory: contracts of both sides.
  The tokens with texts of their own that an expression is made of: the mathematics. What stands in ExprTokens of a tree, at any position, with and without parentheses, is the same list.
  impl.Yield: the tokens with texts of their own among those of ExprTokens at Top, in memory of the call's own: a contract.
  'laws.FnBare' returns true at every slice of bytes, and leaves it as it was. In the tokens of a valid expression at a valid position 'in' and '>' that the position forbids stand only inside brackets, a forbidden sign does not stand first, and Operands counts what Yield lists. No condition.
-/
import Derived.Test.YtiilpnoaocfjgaaGreatDoorGBareB
import Derived.Test.YtiilpnoaocfjgaaGreatDoorGBareA
import Derived.Deep.RegionHeld3
import Derived.Test.YtiilpnoaocfjgaaGreatDoorRows
import Derived.Test.YtiilpnoaocfjgaaGreatDoorBase
import Derived.WalkKit
import Derived.ProofKit
import Derived.OpenShut
import Derived.ShutString
import Derived.ChangeOld
import Derived.Below
import Derived.Laws.Rows
import Derived.WalkSpells
import Derived.WalkLawsBesides
import Derived.Test.YtiilpnoaocfjgaaGreatDoorTokMath
import Derived.Test.YtiilpnoaocfjgaaGreatDoorBareC
import Derived.Test.YtiilpnoaocfjgaaGreatDoorWriter
import Derived.Test.YtiilpnoaocfjgaaGreatDoorKidI
import Derived.Test.YtiilpnoaocfjgaaGreatDoorTk
import Derived.Test.YtiilpnoaocfjgaaGreatDoorChars
import Derived.Test.YtiilpnoaocfjgaaGreatDoorCards
import Derived.Test.YtiilpnoaocfjgaaGreatDoorTie
import Derived.Test.YtiilpnoaocfjgaaGreatDoorLaidKw
import Derived.OpenVars
import Derived.Deep.DeepHandedRow
import Derived.Laws.StructEq
import Derived.Lib.SmallJoins
import Derived.Stop.LaidErr
namespace Go.Proofs.YtiilpnoaocfjgaaGreatDoor.draw
open Go.ChangeShapes Go.WideShapes Go.ChangeAt Go.RowKit
open nd lcg
open ps (B5 set5 below_set5)
open sz (Sh)
set_option linter.unusedVariables false
set_option maxRecDepth 20000

section
variable {B p len cap : Nat} {a : Option Addr} {zs : List Int}
def DOut (B p : Nat) (a : Option Addr) (len cap : Nat) (zs : List Int) (w : World) (e : Ending) (w' : World) : Prop :=
  ∃ q a2 c2 s', e = .returned (.slice a2 q.length c2) ∧ LiesX p w'.heap.size w' a2 q ∧ Wild q ∧ In B w' p a len cap zs s' ∧ w.grownBy w' (some p)
set_option maxHeartbeats 1600000 in
theorem l10Draw_any {w : World} {s : St} (H : In B w p a len cap zs s) :
    Calls Tryz.prog 81 #[.pointer (some ⟨p, 0, none⟩)] w (DOut B p a len cap zs w) := by
  have HP := Lib.hid H.lt
  have HI := Lib.hid H
  clear H
  go_enter Tryz.func81, Tryz.ntmps81
  go_wp2_with fail
  refine (once_some 10 HI.out).mono ?_
  rintro e w1 ⟨b, s1, rfl, I1, g1⟩
  have I1' := Lib.hid I1
  have G1 := Lib.hid g1
  clear I1 g1
  cases b
  · go_wp2_with fail
    refine ((some_okx I1'.out).mono (fun e w' h => TAnyX.lies h I1'.out.lt)).mono ?_
    rintro e w2 ⟨q, a2, c2, s2, rfl, hl, hsm, hsh, har, I2, g2⟩
    have HF := Lib.hid (And.intro hl (And.intro (wild_of hsm hsh) (And.intro I2 (grown_trans G1.out g2))))
    clear hl hsm hsh har I2 g2
    go_wp2
    go_ret
    exact ⟨q, a2, c2, s2, rfl, HF.out⟩
  · go_wp2_with fail
    refine (spoilt_ok I1'.out).mono ?_
    rintro e w2 ⟨q, a2, c2, s2, rfl, h3, h4, h5, I2, g2⟩
    have HF := Lib.hid (And.intro h3 (And.intro h5 (And.intro I2 (grown_trans G1.out g2))))
    clear h3 h4 h5 I2 g2
    go_wp2
    go_ret
    exact ⟨q, a2, c2, s2, rfl, HF.out⟩

/-! ### A position's box is written: what lies elsewhere stays; a kid that stands in the box would be another -/
theorem only0 {m : Nat} {z : Int} (h : (#[.int .i64 0, .bool false, .bool false, .bool false, .bool false] : Array Value)[m]? = some (.int .i64 z)) : m = 0 := by
  rcases m with _ | _ | _ | _ | _ | m
  · rfl
  all_goals simp at h
theorem lies_store {q : List Nd} {a : Option Addr} {w : World} {R : Nat} (h : Lies w.heap.size w a q) (hR : B5 R 0 false false false false w) (hw : Wild q) (L : Int) (d i g s : Bool) : ∃ q', q'.length = q.length ∧ Lies (set5 w R L d i g s).heap.size (set5 w R L d i g s) a q' ∧ Wild q' := by
  have hP := hR.put L d i g s
  have hsz : (set5 w R L d i g s).heap.size = w.heap.size := by unfold set5; simp
  have hoth : ∀ k, k ≠ R → (set5 w R L d i g s).heap[k]? = w.heap[k]? := fun k hk => by
    unfold set5
    rw [heap_setCell_other _ ⟨R, 4, none⟩ k _ hk, heap_setCell_other _ ⟨R, 3, none⟩ k _ hk, heap_setCell_other _ ⟨R, 2, none⟩ k _ hk, heap_setCell_other _ ⟨R, 1, none⟩ k _ hk, heap_setCell_other _ ⟨R, 0, none⟩ k _ hk]
  have hcell : ∀ k j, k ≠ R → (set5 w R L d i g s).cell? ⟨k, j, none⟩ = w.cell? ⟨k, j, none⟩ := fun k j hk => World.cell?_of_block (a := ⟨k, j, none⟩) (hoth k hk)
  obtain ⟨W, hW⟩ : ∃ W, W = set5 w R L d i g s := ⟨_, rfl⟩
  rw [← hW] at hP hsz hoth hcell ⊢
  clear hW
  rcases h with h | ⟨b, o, rfl, hb, hat⟩
  · exact ⟨q, rfl, .inl h, hw⟩
  · by_cases h0 : q.length = 0
    · exact ⟨q, rfl, .inl (List.length_eq_zero_iff.1 h0), hw⟩
    · have hne : b ≠ R := by
        intro e
        subst e
        obtain ⟨ak, ck, ⟨c0, c1, c2, c3, c4⟩, _⟩ := hat 0 (by omega)
        rw [cell_of_row _ _ _ _ _ _ hR] at c1
        have := only0 c1
        omega
      have step : ∀ x : Fin q.length, ∃ t : Nd, (∃ ak ck, Five W b (o + x.1 * 5) t ak ck ∧ Ints W.heap.size W ak t.kids) ∧ t.kids.length = (q[x.1]'x.2).kids.length ∧ Sh t := by
        intro x
        obtain ⟨ak, ck, ⟨c0, c1, c2, c3, c4⟩, hk⟩ := hat x.1 x.2
        have hsh := hw.2.2 _ (List.getElem_mem x.2)
        rw [← hcell b _ hne] at c0 c1 c2 c3 c4
        rcases hk with hk | ⟨bk, ok, rfl, hbk, hc⟩
        · exact ⟨_, ⟨ak, ck, ⟨c0, c1, c2, c3, c4⟩, .inl hk⟩, rfl, hsh⟩
        · by_cases e : bk = R
          · subst e
            refine ⟨{ (q[x.1]'x.2) with kids := (q[x.1]'x.2).kids.map fun _ => L }, ⟨some ⟨bk, ok, none⟩, ck, ⟨c0, c1, c2, c3, by rw [List.length_map]; exact c4⟩, .inr ⟨bk, ok, rfl, by rw [hsz]; exact hbk, fun j hj => ?_⟩⟩, List.length_map .., hsh⟩
            rw [List.length_map] at hj
            have c := hc j hj
            rw [cell_of_row _ _ _ _ _ _ hR] at c
            have e0 := only0 c
            rw [cell_of_row _ _ _ _ _ _ hP, e0, List.getElem_map]
            rfl
          · exact ⟨_, ⟨_, ck, ⟨c0, c1, c2, c3, c4⟩, .inr ⟨bk, ok, rfl, by rw [hsz]; exact hbk, fun j hj => by rw [hcell bk _ e]; exact hc j hj⟩⟩, rfl, hsh⟩
      have hq : ∀ t ∈ List.ofFn (fun x => Classical.choose (step x)), ∃ x : Fin q.length, t = Classical.choose (step x) := fun t ht => by
        obtain ⟨x, hx⟩ := List.mem_ofFn.1 ht
        exact ⟨x, hx.symm⟩
      refine ⟨List.ofFn (fun x => Classical.choose (step x)), List.length_ofFn, .inr ⟨b, o, rfl, by rw [hsz]; exact hb, fun j hj => ?_⟩, by rw [List.length_ofFn]; exact hw.1, fun t ht => ?_, fun t ht => ?_⟩
      · rw [List.getElem_ofFn]
        rw [List.length_ofFn] at hj
        exact (Classical.choose_spec (step ⟨j, hj⟩)).1
      · obtain ⟨x, rfl⟩ := hq t ht
        rw [(Classical.choose_spec (step x)).2.1]
        exact hw.2.1 _ (List.getElem_mem x.2)
      · obtain ⟨x, rfl⟩ := hq t ht
        exact (Classical.choose_spec (step x)).2.2

/-- What the law is handed. -/
def EOut (w : World) (e : Ending) (w' : World) : Prop :=
  ∃ (q : List Nd) (a2 : Option Addr) (c2 : Nat) (L : Int) (d i g s : Bool), e = .returned (.tuple #[.slice a2 q.length c2, .agg #[.int .i64 L, .bool d, .bool i, .bool g, .bool s]]) ∧ Lies w'.heap.size w' a2 q ∧ Wild q ∧ Below w.heap.size w w'
set_option maxHeartbeats 1600000 in
theorem drawExprTokens_any {w : World} (hc : Code w.heap.size w a len zs) (hl : len ≤ 1048576) :
    Calls Tryz.prog 22 #[.slice a len cap] w (EOut w) := by
  obtain ⟨W2, hW2⟩ : ∃ W2, W2 = w.alloc (.cells #[.int .i64 0, .bool false, .bool false, .bool false, .bool false] 26) := ⟨_, rfl⟩
  have HB2 := Lib.hid (show Below w.heap.size w W2 by rw [hW2]; exact lv.box_below _ _)
  have HC := Lib.hid (show Code W2.heap.size W2 a len zs from (hc.keep HB2.out).up HB2.out.size)
  have RP0 := Lib.hid (show B5 w.heap.size 0 false false false false W2 by rw [hW2]; exact B5.new w 0 false false false false)
  have hs : W2.heap.size = w.heap.size + 1 := by rw [hW2]; simp
  obtain ⟨p, hp⟩ : ∃ p, p = W2.heap.size := ⟨_, rfl⟩
  have HPP := Lib.hid (show w.heap.size ≠ p by omega)
  have HLP := Lib.hid (show w.heap.size < p by omega)
  clear hc
  go_enter Tryz.func22, Tryz.ntmps22
  go_wp2_with fail
  rw [← hW2]
  clear hW2
  have hnew := new_any (cap := cap) HC.out (Nat.le_refl _) hl
  rw [← hp] at hnew
  refine hnew.mono ?_
  rintro e w1 ⟨rfl, I1, b1⟩
  have J1 := Lib.hid I1
  have RP1 := Lib.hid (RP0.out.keep b1 (by have := HLP.out; omega))
  have B1 := Lib.hid (HB2.out.trans (b1.mono (by rw [hp]; exact HB2.out.size)))
  clear I1 b1 hnew hs hp
  go_wp2_with fail
  refine (l10Draw_any J1.out).mono ?_
  rintro e w3 ⟨q, a2, c2, s3, rfl, l3, hw3, I3, g3⟩
  have J3 := Lib.hid I3
  have HW := Lib.hid hw3
  have L3 := Lib.hid l3
  have RP3 := Lib.hid (b5_grown RP1.out g3 HPP.out)
  have B3 := Lib.hid (B1.out.trans (below_of g3 (by have := HLP.out; omega) B1.out.size))
  clear I3 g3 l3 hw3
  go_wp2_with fail
  refine (pos_any J3.out).mono ?_
  rintro e w5 ⟨L, d, i, g, s, s5, rfl, I5, g5⟩
  have RP5 := Lib.hid (b5_grown RP3.out g5 HPP.out)
  have B5' := Lib.hid (B3.out.trans (below_of g5 (by have := HLP.out; omega) B3.out.size))
  have L5 := Lib.hid (L3.out.grown g5).lies
  clear I5 g5
  obtain ⟨r0, r1, r2, r3, r4⟩ := RP5.out.c
  have fr := RP5.out.f
  go_wp2
  obtain ⟨z0, z1, z2, z3, z4⟩ := RP5.out.cput L d i g s
  have hfin := Lib.hid (below_set5 B5'.out (Nat.le_refl _) L d i g s)
  obtain ⟨q', hq1, hq2, hq3⟩ := lies_store (q := q) (a := a2) L5.out RP5.out HW.out L d i g s
  have hfinq := Lib.hid (And.intro hq2 hq3)
  rw [← hq1]
  clear hq2 hq3
  exact bodyPost_ret (v := .tuple #[.slice a2 q'.length c2, .agg #[.int .i64 L, .bool d, .bool i, .bool g, .bool s]]) (by simp [results, Tryz.results22, go_sem, z0, z1, z2, z3, z4]) rfl ⟨q', a2, c2, L, d, i, g, s, rfl, hfinq.out.1, hfinq.out.2, hfin.out⟩
end
end Go.Proofs.YtiilpnoaocfjgaaGreatDoor.draw

namespace Go.Proofs.YtiilpnoaocfjgaaGreatDoor.operand
open Go.ChangeShapes Go.WideShapes Go.ChangeAt Go.RowKit
set_option linter.unusedVariables false
def ends (n : Int) : Bool := n == 3 || n == 4 || n == 5 || n == 6 || n == 8 || n == 33 || n == 35 || n == 51 || n == 52
theorem spec_ends (n : Int) (w : World) : Calls Tryz.prog 120 #[.int .i64 n] w fun e w' => e = .returned (.bool (ends n)) ∧ w = w' := by
  obtain ⟨v, hv⟩ : ∃ v, v = ends n := ⟨_, rfl⟩
  rw [← hv]
  unfold ends at hv
  have HV := Lib.hid hv
  clear hv
  go_enter Tryz.func120, Tryz.ntmps120
  go_wp2
  all_goals go_ret
  all_goals exact ⟨by rw [HV.out]; simp_all, rfl⟩
theorem impl_ends (n : Int) (w : World) : Calls Tryz.prog 225 #[.int .i64 n] w fun e w' => e = .returned (.bool (ends n)) ∧ w = w' := by
  obtain ⟨v, hv⟩ : ∃ v, v = ends n := ⟨_, rfl⟩
  rw [← hv]
  unfold ends at hv
  have HV := Lib.hid hv
  clear hv
  go_enter Tryz.func225, Tryz.ntmps225
  go_wp2
  all_goals go_ret
  all_goals exact ⟨by rw [HV.out]; simp_all, rfl⟩
def begins (n : Int) : Bool := n == 3 || n == 4 || n == 6 || n == 7 || n == 8 || n == 32 || n == 68
theorem spec_begins (n : Int) (w : World) : Calls Tryz.prog 67 #[.int .i64 n] w fun e w' => e = .returned (.bool (begins n)) ∧ w = w' := by
  obtain ⟨v, hv⟩ : ∃ v, v = begins n := ⟨_, rfl⟩
  rw [← hv]
  unfold begins at hv
  have HV := Lib.hid hv
  clear hv
  go_enter Tryz.func67, Tryz.ntmps67
  go_wp2
  all_goals go_ret
  all_goals exact ⟨by rw [HV.out]; simp_all, rfl⟩
theorem impl_begins (n : Int) (w : World) : Calls Tryz.prog 34 #[.int .i64 n] w fun e w' => e = .returned (.bool (begins n)) ∧ w = w' := by
  obtain ⟨v, hv⟩ : ∃ v, v = begins n := ⟨_, rfl⟩
  rw [← hv]
  unfold begins at hv
  have HV := Lib.hid hv
  clear hv
  go_enter Tryz.func34, Tryz.ntmps34
  go_wp2
  all_goals go_ret
  all_goals exact ⟨by rw [HV.out]; simp_all, rfl⟩
end Go.Proofs.YtiilpnoaocfjgaaGreatDoor.operand

namespace Go.Proofs.YtiilpnoaocfjgaaGreatDoor.br
open tk (Tk)
open nd (Nd)
open ps (Ps posOk top fits forb)
open lv (levelOf opLevel)
open rt (treeOk isExpr isLval)
open pb (bareF clN opN clB opB)
open et
set_option linter.unusedVariables false
set_option linter.unusedSimpArgs false
set_option maxRecDepth 20000

def tot : List Tk → Int
  | [] => 0
  | t :: r => opN t.k - clN t.k + tot r
theorem tot_app (a b : List Tk) : tot (a ++ b) = tot a + tot b := by
  induction a with
  | nil => simp [tot]
  | cons t a ih => simp only [List.cons_append, tot, ih]; omega
theorem bare_app (q : Int) : ∀ (a b : List Tk) (d : Int), bareF q (a ++ b) d = (bareF q a d || bareF q b (d + tot a)) := by
  intro a
  induction a with
  | nil => intro b d; simp [bareF, tot]
  | cons t a ih =>
    intro b d
    simp only [List.cons_append, bareF, ih, tot]
    split
    · rfl
    · rw [show d + (opN t.k - clN t.k + tot a) = d - clN t.k + opN t.k + tot a by omega]

/-- Even, and inside brackets nothing is bare. -/
structure A (q : Int) (l : List Tk) : Prop where
  even : tot l = 0
  deep : ∀ d, 1 ≤ d → bareF q l d = false
theorem A.app {q : Int} {a b : List Tk} (x : A q a) (y : A q b) : A q (a ++ b) :=
  ⟨by rw [tot_app, x.even, y.even]; rfl, fun d hd => by rw [bare_app, x.deep d hd, x.even, Int.add_zero, y.deep d hd]; rfl⟩
theorem A.nil (q : Int) : A q [] := ⟨rfl, fun _ _ => rfl⟩
/-- A token that is no bracket. -/
theorem flat_tot {t : Tk} (h : clN t.k = 0 ∧ opN t.k = 0) (l : List Tk) : tot (t :: l) = tot l := by show opN t.k - clN t.k + tot l = tot l; rw [h.1, h.2]; omega
theorem flat_bare {t : Tk} (h : clN t.k = 0 ∧ opN t.k = 0) (l : List Tk) (q d : Int) (hd : ¬ (t.k = q ∧ d = 0)) : bareF q (t :: l) d = bareF q l d := by
  show (if t.k = q ∧ d - clN t.k = 0 then true else bareF q l (d - clN t.k + opN t.k)) = _
  rw [h.1, h.2, Int.sub_zero, Int.add_zero, if_neg hd]
theorem A.cons {q : Int} {t : Tk} {l : List Tk} (h : clN t.k = 0 ∧ opN t.k = 0) (x : A q l) : A q (t :: l) :=
  ⟨by rw [flat_tot h]; exact x.even, fun d hd => by rw [flat_bare h l q d (by omega)]; exact x.deep d hd⟩
/-- In brackets. -/
theorem wrap_tot {o c : Tk} (ho : clN o.k = 0 ∧ opN o.k = 1) (hc : clN c.k = 1 ∧ opN c.k = 0) {l : List Tk} (h : tot l = 0) : tot (o :: (l ++ [c])) = 0 := by
  show opN o.k - clN o.k + tot (l ++ [c]) = 0
  rw [tot_app, h, ho.1, ho.2]
  show (1 : Int) - 0 + (0 + (opN c.k - clN c.k + 0)) = 0
  rw [hc.1, hc.2]; rfl
theorem wrap_bare {q : Int} {o c : Tk} (ho : clN o.k = 0 ∧ opN o.k = 1) (hc : clN c.k = 1 ∧ opN c.k = 0) (hq : ¬ o.k = q ∧ ¬ c.k = q) {l : List Tk} (x : A q l) {d : Int} (hd : 0 ≤ d) : bareF q (o :: (l ++ [c])) d = false := by
  show (if o.k = q ∧ d - clN o.k = 0 then true else bareF q (l ++ [c]) (d - clN o.k + opN o.k)) = _
  rw [if_neg (fun h => hq.1 h.1), ho.1, ho.2, bare_app, x.deep _ (by omega), x.even]
  show (false || (if c.k = q ∧ _ then true else bareF q [] _)) = false
  rw [if_neg (fun h => hq.2 h.1)]
  rfl

/-- What is asked of a list: even, nothing bare inside brackets; nothing bare at all if 'y'; more than none; it begins an operand if 'z'. -/
structure Ok (q : Int) (y z : Prop) (l : List Tk) : Prop where
  a : A q l
  y : y → bareF q l 0 = false
  some : 0 < l.length
  head : z → operand.begins (l.getD 0 default).k = true
theorem Ok.wrap {q : Int} {y z : Prop} {o c : Int} (ho : clN o = 0 ∧ opN o = 1) (hc : clN c = 1 ∧ opN c = 0) (hq : ¬ o = q ∧ ¬ c = q) (hb : operand.begins o = true) {l : List Tk} (x : A q l) : Ok q y z (tok o :: (l ++ [tok c])) :=
  ⟨⟨wrap_tot ho hc x.even, fun d hd => wrap_bare ho hc hq x (by omega)⟩, fun _ => wrap_bare ho hc hq x (Int.le_refl 0), by simp, fun _ => hb⟩
theorem Ok.app {q : Int} {y z : Prop} {a b : List Tk} (x : Ok q y z a) (hb : A q b) (hy : y → bareF q b 0 = false) : Ok q y z (a ++ b) :=
  ⟨x.a.app hb, fun h => by rw [bare_app, x.y h, x.a.even, Int.add_zero, hy h]; rfl, by have := x.some; rw [List.length_append]; omega, fun h => by
    have h1 := x.head h
    have h2 := x.some
    rw [List.getD_eq_getElem?_getD, List.getElem?_append_left h2, ← List.getD_eq_getElem?_getD]
    exact h1⟩
theorem Ok.cons {q : Int} {y z : Prop} {t : Tk} (h : clN t.k = 0 ∧ opN t.k = 0) (hq : y → ¬ t.k = q) (hb : z → operand.begins t.k = true) {l : List Tk} (x : A q l) (hy : y → bareF q l 0 = false) : Ok q y z (t :: l) :=
  ⟨A.cons h x, fun h' => by rw [flat_bare h l q 0 (fun e => hq h' e.1)]; exact hy h', by simp, hb⟩
theorem Ok.one {q : Int} {y z : Prop} {t : Tk} (h : clN t.k = 0 ∧ opN t.k = 0) (hq : y → ¬ t.k = q) (hb : z → operand.begins t.k = true) : Ok q y z [t] := Ok.cons h hq hb (A.nil q) (fun _ => rfl)
theorem Ok.weak {q : Int} {y z y' z' : Prop} {l : List Tk} (x : Ok q y z l) (hy : y' → y) (hz : z' → z) : Ok q y' z' l := ⟨x.a, fun h => x.y (hy h), x.some, fun h => x.head (hz h)⟩
/-- One token more behind. -/
theorem tail_y {q : Int} {t : Tk} {l : List Tk} (h : clN t.k = 0 ∧ opN t.k = 0) (hq : ¬ t.k = q) (hy : bareF q l 0 = false) : bareF q (t :: l) 0 = false := by
  rw [flat_bare h l q 0 (fun e => hq e.1)]; exact hy

def plain (k : Int) : Prop := clN k = 0 ∧ opN k = 0
theorem plain_of {k : Int} (h : k < 30 ∨ 35 < k) : plain k := by
  have h1 : clB k = false := by simp [clB]; omega
  have h2 : opB k = false := by simp [opB]; omega
  exact ⟨by simp [clN, h1], by simp [opN, h2]⟩

/-- More of a node of a right tree: its operator's token. -/
theorem node_op {l : List Nd} (h : treeOk l = true) {i : Nat} (hi : i < l.length) {n : Nd} (hn : l.getD i default = n) (hk : isExpr n.k = true) : (n.k = 9 ∨ n.k = 10 ∨ n.k = 11 ∨ n.k = 12 ∨ n.k = 15) → 35 < n.op ∧ (¬ n.k = 12 → ¬ n.op = 62) := by
  rw [getD_at hi] at hn
  subst hn
  obtain ⟨hf, -⟩ := tree_node h hi
  obtain ⟨n, hn⟩ : ∃ n, n = l[i] := ⟨_, rfl⟩
  rw [← hn] at hf hk ⊢
  unfold rt.nodeF at hf
  obtain ⟨hop, -⟩ := rt.fields_parts hf
  intro hc
  rcases hc with h | h | h | h | h <;> rw [h] at hop <;> simp [rt.opOk, rt.isBin, chars.inR] at hop <;> omega

/-- What the position asks of token q. -/
def Y (q : Int) (p : Ps) (n : Nd) : Prop := forb n.k n.op p.i p.g p.s = false ∧ (q = 24 → p.i = true) ∧ (q = 62 → p.g = true)
def Z (p : Ps) (n : Nd) : Prop := forb n.k n.op p.i p.g p.s = false ∧ p.s = true
def Yp (q : Int) (p : Ps) : Prop := (q = 24 → p.i = true) ∧ (q = 62 → p.g = true)
theorem kp_in {l : List Nd} {i : Nat} {n : Nd} (g : et.Good l i n) {p : Ps} (hp : posOk p.l p.d = true) {j : Nat} (hj : j < n.kids.length) (hb : ps.brk n.k n.op n.kids.length = false) : (kp n j p).i = p.i ∧ (kp n j p).g = p.g ∧ (kp n j p).s = ps.nsI n.k n.op j p.s := by
  unfold kp ps.kidI
  rw [if_pos ⟨hp, by omega, by omega, level_some g⟩, hb]
  exact ⟨rfl, rfl, rfl⟩

theorem ok_lst {q : Int} (hq : q = 24 ∨ q = 62) {E : Nat → Ps → List Tk} {n : Nd} (hE : ∀ j, j < n.kids.length → A q (E (kd n j) top)) : ∀ J, J ≤ n.kids.length → A q (lst E n J) := by
  intro J
  induction J with
  | zero => intro _; exact A.nil q
  | succ J ih =>
    intro hJ
    refine ((ih (by omega)).app ?_).app (hE J (by omega))
    split
    · exact A.nil q
    · exact A.cons (plain_of (k := 36) (by omega)) (A.nil q)

theorem ok_un {q : Int} (hq : q = 24 ∨ q = 62) {l : List Nd} (h : treeOk l = true) : ∀ (f i : Nat) (p : Ps), i < f → i < l.length → isExpr (l.getD i default).k = true → posOk p.l p.d = true → Ok q (Y q p (l.getD i default)) (Z p (l.getD i default)) (un mis l f i p) := by
  intro f
  induction f with
  | zero => intro i p hi; omega
  | succ f ih =>
    intro i p hi hl hk hp
    obtain ⟨n, hn⟩ : ∃ n, l.getD i default = n := ⟨_, rfl⟩
    rw [hn] at hk ⊢
    have g := et.Good.at h hl hn hk
    have hop := node_op h hl hn hk
    rw [un_succ, hn]
    have hU : ∀ j r, j < n.kids.length → posOk r.l r.d = true → Ok q (Y q r (l.getD (kd n j) default)) (Z r (l.getD (kd n j) default)) (un mis l f (kd n j) r) := fun j r hj hr => by
      obtain ⟨k1, k2, k3⟩ := g.kids j hj
      exact ih (kd n j) r (by omega) (by omega) k3 hr
    have hE : ∀ j r, j < n.kids.length → posOk r.l r.d = true → Ok q (Yp q r) (r.s = true) (ex mis l f (kd n j) r) := fun j r hj hr => by
      unfold ex par
      split
      · exact Ok.wrap (o := 32) (c := 33) ⟨rfl, rfl⟩ ⟨rfl, rfl⟩ (by omega) rfl (hU j top hj top_ok).a
      · next hm =>
        have hf : forb (l.getD (kd n j) default).k (l.getD (kd n j) default).op r.i r.g r.s = false := by
          cases hc : forb (l.getD (kd n j) default).k (l.getD (kd n j) default).op r.i r.g r.s
          · rfl
          · exact absurd (by unfold mis; rw [ps.fits_forb hc]; rfl) hm
        exact (hU j r hj hr).weak (fun hy => ⟨hf, hy⟩) (fun hz => ⟨hf, hz⟩)
    have hT : (n.k = 9 ∨ n.k = 10 ∨ n.k = 15) → ∀ r : Ps, posOk r.l r.d = true → Ok q (Yp q r) True (un mis l f (kd n 0) r) := fun hc r hr => by
      have hlv := g.lval hc
      have h0 : 0 < n.kids.length := by
        rcases hc with h | h | h
        · have := g.one (.inr (.inl h)); omega
        · have := g.one (.inr (.inr (.inl h))); omega
        · have := g.two (.inr h); omega
      obtain ⟨k1, k2, k3⟩ := g.kids 0 h0
      have x := hU 0 r h0 hr
      obtain ⟨c, hc'⟩ : ∃ c, l.getD (kd n 0) default = c := ⟨_, rfl⟩
      have hf : forb (l.getD (kd n 0) default).k (l.getD (kd n 0) default).op r.i r.g r.s = false := by
        simp only [isLval, Bool.or_eq_true, beq_iff_eq] at hlv
        rcases hlv with h | h | h <;> rw [h] <;> simp [forb]
      refine ⟨x.a, fun hy => x.y ⟨hf, hy⟩, x.some, fun _ => ?_⟩
      -- the head: a name or $
      have hlv2 : (l.getD (kd n 0) default).k = 1 ∨ (l.getD (kd n 0) default).k = 5 ∨ (l.getD (kd n 0) default).k = 6 := by
        simp only [isLval, Bool.or_eq_true, beq_iff_eq] at hlv; omega
      cases f with
      | zero => have := x.some; simp [un] at this
      | succ f' =>
        rw [un_succ]
        rcases hlv2 with h | h | h
        · rw [body_1 h]; rfl
        · rw [body_5 h]; rfl
        · rw [body_6 h]; rfl
    have hL : ∀ a b : Int, clN a = 0 ∧ opN a = 1 → clN b = 1 ∧ opN b = 0 → ¬ a = q ∧ ¬ b = q → A q (brack (ex mis l f) n a b) ∧ bareF q (brack (ex mis l f) n a b) 0 = false := fun a b ha hb hab => by
      have x := ok_lst hq (E := ex mis l f) (n := n) (fun j hj => (hE j top hj top_ok).a) n.kids.length (Nat.le_refl _)
      unfold brack
      exact ⟨⟨wrap_tot ha hb x.even, fun d hd => wrap_bare ha hb hab x (by omega)⟩, wrap_bare ha hb hab x (Int.le_refl 0)⟩
    have hB1 := hL 34 35 ⟨rfl, rfl⟩ ⟨rfl, rfl⟩ (by omega)
    have hB2 := hL 32 33 ⟨rfl, rfl⟩ ⟨rfl, rfl⟩ (by omega)
    have hr := expr_range hk
    have hP : ∀ j : Nat, j < n.kids.length → posOk (kp n j p).l (kp n j p).d = true := fun j hj => (kp_ok g hp hj).1
    have hKy : ∀ j : Nat, j < n.kids.length → ps.brk n.k n.op n.kids.length = false → Y q p n → Yp q (kp n j p) := fun j hj hb hy => by
      obtain ⟨e1, e2, -⟩ := kp_in g hp hj hb
      exact ⟨fun e => by rw [e1]; exact hy.2.1 e, fun e => by rw [e2]; exact hy.2.2 e⟩
    have hKz : 0 < n.kids.length → ps.brk n.k n.op n.kids.length = false → (n.k = 12 ∨ n.k = 13 ∨ n.k = 14) → Z p n → (kp n 0 p).s = true := fun h0 hb hc hz => by
      obtain ⟨-, -, e3⟩ := kp_in g hp h0 hb
      have e3' : (kp n ((0 : Nat) : Int) p).s = ps.nsI n.k n.op ((0 : Nat) : Int) p.s := e3
      show (kp n ((0 : Nat) : Int) p).s = true
      rw [e3']
      unfold ps.nsI
      rw [if_neg (by omega), if_neg (by omega), hz.2]
      rfl
    have ne24 : q = 24 ∨ q = 62 := hq
    have tk0 : ∀ k : Int, 35 < k → clN (tok k).k = 0 ∧ opN (tok k).k = 0 := fun k hk => plain_of (k := k) (.inr hk)
    have nm0 : ∀ (k : Int) (s : ByteArray), k < 30 → clN (nam k s).k = 0 ∧ opN (nam k s).k = 0 := fun k s hk => plain_of (k := k) (.inl hk)
    by_cases c1 : n.k = 1
    · rw [body_1 c1]; exact Ok.one (nm0 6 _ (by omega)) (fun _ => by show ¬ (6 : Int) = q; omega) (fun _ => rfl)
    by_cases c2 : n.k = 2
    · rw [body_2 c2]; exact Ok.one (nm0 3 _ (by omega)) (fun _ => by show ¬ (3 : Int) = q; omega) (fun _ => rfl)
    by_cases c3 : n.k = 3
    · rw [body_3 c3]; exact Ok.one (nm0 4 _ (by omega)) (fun _ => by show ¬ (4 : Int) = q; omega) (fun _ => rfl)
    by_cases c4 : n.k = 4
    · rw [body_4 c4]; exact Ok.one (nm0 5 _ (by omega)) (fun _ => by show ¬ (5 : Int) = q; omega) (fun z => by have := z.1; rw [c4, z.2] at this; simp [forb] at this)
    by_cases c5 : n.k = 5
    · rw [body_5 c5]; exact Ok.cons (nm0 6 _ (by omega)) (fun _ => by show ¬ (6 : Int) = q; omega) (fun _ => rfl) hB1.1 (fun _ => hB1.2)
    by_cases c7 : n.k = 7
    · rw [body_7 c7]; exact Ok.cons (nm0 7 _ (by omega)) (fun _ => by show ¬ (7 : Int) = q; omega) (fun _ => rfl) hB2.1 (fun _ => hB2.2)
    by_cases c8 : n.k = 8
    · rw [body_8 c8]; exact Ok.cons (nm0 8 _ (by omega)) (fun _ => by show ¬ (8 : Int) = q; omega) (fun _ => rfl) hB2.1 (fun _ => hB2.2)
    by_cases c6 : n.k = 6
    · have e := g.one (by omega)
      have hb : ps.brk n.k n.op n.kids.length = false := by unfold ps.brk; rw [c6]; simp [levelOf]
      have x := hE 0 (kp n 0 p) (by omega) (hP 0 (by omega))
      rw [body_6 c6]
      exact Ok.cons (tk0 68 (by omega)) (fun _ => by show ¬ (68 : Int) = q; omega) (fun _ => rfl) x.a (fun hy => x.y (hKy 0 (by omega) hb hy))
    by_cases c9 : n.k = 9
    · have e := g.one (by omega)
      have hb : ps.brk n.k n.op n.kids.length = false := by unfold ps.brk; rw [c9]; simp [levelOf]
      have x := hT (by omega) (kp n 0 p) (hP 0 (by omega))
      rw [body_9 c9]
      exact Ok.cons (tk0 n.op (hop (by omega)).1) (fun _ => by have h1 := hop (by omega); have h2 := h1.2 (by omega); show ¬ n.op = q; omega) (fun z => by have := z.1; rw [c9, z.2] at this; simp [forb] at this) x.a (fun hy => x.y (hKy 0 (by omega) hb hy))
    by_cases c10 : n.k = 10
    · have e := g.one (by omega)
      have hb : ps.brk n.k n.op n.kids.length = false := by unfold ps.brk; rw [c10]; simp [levelOf]
      have x := hT (by omega) (kp n 0 p) (hP 0 (by omega))
      have h1 := hop (by omega)
      have h2 := h1.2 (by omega)
      rw [body_10 c10]
      exact (x.weak (fun hy => hKy 0 (by omega) hb hy) (fun _ => trivial)).app (A.cons (tk0 n.op h1.1) (A.nil q)) (fun _ => tail_y (tk0 n.op h1.1) (by show ¬ n.op = q; omega) rfl)
    by_cases c11 : n.k = 11
    · have e := g.one (by omega)
      have hb : ps.brk n.k n.op n.kids.length = false := by unfold ps.brk; rw [c11]; simp [levelOf]
      have x := hE 0 (kp n 0 p) (by omega) (hP 0 (by omega))
      rw [body_11 c11]
      exact Ok.cons (tk0 n.op (hop (by omega)).1) (fun _ => by have h1 := hop (by omega); have h2 := h1.2 (by omega); show ¬ n.op = q; omega) (fun z => by have := z.1; rw [c11, z.2] at this; simp [forb] at this) x.a (fun hy => x.y (hKy 0 (by omega) hb hy))
    by_cases c12 : n.k = 12
    · have e := g.two (by omega)
      have hlv : ¬ levelOf n.k n.op = 15 := by unfold levelOf; have := lev12 n.op; repeat' split
                                               all_goals omega
      have hb : ps.brk n.k n.op n.kids.length = false := by unfold ps.brk; rw [c12] at hlv ⊢; simp [hlv]
      have x := (hE 0 (kp n 0 p) (by omega) (hP 0 (by omega))).weak (fun hy => hKy 0 (by omega) hb hy) (hKz (by omega) hb (by omega))
      have y := hE 1 (kp n 1 p) (by omega) (hP 1 (by omega))
      have h1 := hop (by omega)
      rw [body_12 c12]
      by_cases h99 : n.op = 99
      · rw [if_pos h99, List.nil_append]
        exact x.app y.a (fun hy => y.y (hKy 1 (by omega) hb hy))
      · rw [if_neg h99]
        refine x.app (A.cons (tk0 n.op h1.1) y.a) (fun hy => tail_y (tk0 n.op h1.1) ?_ (y.y (hKy 1 (by omega) hb hy)))
        show ¬ n.op = q
        intro e62
        have e2 : q = 62 := by omega
        have hg := hy.2.2 e2
        have := hy.1
        rw [c12, e62, e2, hg] at this
        simp [forb] at this
    by_cases c13 : n.k = 13
    · have e := g.least (by omega)
      have hin : clN (tok 24).k = 0 ∧ opN (tok 24).k = 0 := ⟨rfl, rfl⟩
      have hend : A q [tok 24, nam 6 n.s] := A.cons hin (A.cons (nm0 6 _ (by omega)) (A.nil q))
      have hendy : Y q p n → bareF q [tok 24, nam 6 n.s] 0 = false := fun hy => tail_y hin (by
        show ¬ (24 : Int) = q
        intro e24
        have hi := hy.2.1 e24.symm
        have := hy.1
        rw [c13, hi] at this
        simp [forb] at this) (tail_y (nm0 6 _ (by omega)) (by show ¬ (6 : Int) = q; omega) rfl)
      rw [body_13 c13]
      by_cases h1' : 1 < n.kids.length
      · rw [if_pos h1']
        have x : Ok q (Y q p n) (Z p n) (brack (ex mis l f) n 32 33) := ⟨hB2.1, fun _ => hB2.2, by unfold brack; simp, fun _ => rfl⟩
        exact x.app hend hendy
      · rw [if_neg h1']
        have hb : ps.brk n.k n.op n.kids.length = false := by unfold ps.brk; rw [c13]; simp [levelOf, h1']
        have x := (hE 0 (kp n 0 p) (by omega) (hP 0 (by omega))).weak (fun hy => hKy 0 (by omega) hb hy) (hKz (by omega) hb (by omega))
        exact x.app hend hendy
    by_cases c14 : n.k = 14
    · have e := g.three (by omega)
      have hb : ps.brk n.k n.op n.kids.length = false := by unfold ps.brk; rw [c14]; simp [levelOf]
      have x := (hE 0 (kp n 0 p) (by omega) (hP 0 (by omega))).weak (fun hy => hKy 0 (by omega) hb hy) (hKz (by omega) hb (by omega))
      have y := hE 1 (kp n 1 p) (by omega) (hP 1 (by omega))
      have z := hE 2 (kp n 2 p) (by omega) (hP 2 (by omega))
      rw [body_14 c14]
      refine x.app (A.cons (tk0 65 (by omega)) (y.a.app (A.cons (tk0 66 (by omega)) z.a))) (fun hy => tail_y (tk0 65 (by omega)) (by show ¬ (65 : Int) = q; omega) ?_)
      rw [bare_app, y.y (hKy 1 (by omega) hb hy), y.a.even, Int.add_zero, Bool.false_or]
      exact tail_y (tk0 66 (by omega)) (by show ¬ (66 : Int) = q; omega) (z.y (hKy 2 (by omega) hb hy))
    · have c15 : n.k = 15 := by omega
      have e := g.two (by omega)
      have hb : ps.brk n.k n.op n.kids.length = false := by unfold ps.brk; rw [c15]; simp [levelOf]
      have x := hT (by omega) (kp n 0 p) (hP 0 (by omega))
      have y := hE 1 (kp n 1 p) (by omega) (hP 1 (by omega))
      have h1 := hop (by omega)
      have h2 := h1.2 (by omega)
      rw [body_15 c15]
      exact (x.weak (fun hy => hKy 0 (by omega) hb hy) (fun _ => trivial)).app (A.cons (tk0 n.op h1.1) y.a) (fun hy => tail_y (tk0 n.op h1.1) (by show ¬ n.op = q; omega) (y.y (hKy 1 (by omega) hb hy)))

theorem ok_ex {q : Int} (hq : q = 24 ∨ q = 62) {l : List Nd} (h : treeOk l = true) {f i : Nat} {p : Ps} (hi : i < f) (hl : i < l.length) (hk : isExpr (l.getD i default).k = true) (hp : posOk p.l p.d = true) : Ok q (Yp q p) (p.s = true) (ex mis l f i p) := by
  unfold ex par
  split
  · exact Ok.wrap (o := 32) (c := 33) ⟨rfl, rfl⟩ ⟨rfl, rfl⟩ (by omega) rfl (ok_un hq h f i top hi hl hk top_ok).a
  · next hm =>
    have hf : forb (l.getD i default).k (l.getD i default).op p.i p.g p.s = false := by
      cases hc : forb (l.getD i default).k (l.getD i default).op p.i p.g p.s
      · rfl
      · exact absurd (by unfold mis; rw [ps.fits_forb hc]; rfl) hm
    exact (ok_un hq h f i p hi hl hk hp).weak (fun hy => ⟨hf, hy⟩) (fun hz => ⟨hf, hz⟩)
end Go.Proofs.YtiilpnoaocfjgaaGreatDoor.br

namespace Go.Proofs.YtiilpnoaocfjgaaGreatDoor.tw
open Go.ChangeShapes Go.WideShapes Go.ChangeAt Go.RowKit
open tk (Tk)
open own
open nd (Nd Ints)
open ps (Ps posOk kidI top)
open spell (Held)
open et
set_option linter.unusedVariables false
set_option linter.unusedSimpArgs false
set_option maxRecDepth 20000

/-- A node and a position in their boxes. -/
structure Fm (b : Nat) (n : Nd) (ak : Option Addr) (ck : Nat) (p : Ps) (gn gp : Nat) (v : Value) (w : World) : Prop where
  n : w.heap[gn]? = some (.cells #[.int .i64 n.k, .int .i64 n.op, .string n.s, .string n.t, .slice ak n.kids.length ck] 60 (0, 0))
  p : w.heap[gp]? = some (.cells #[.int .i64 p.l, .bool p.d, .bool p.i, .bool p.g, .bool p.s] 26 (0, 0))
  fn : gn ≠ b ∧ some gn ≠ v.ownBlock
  fp : gp ≠ b ∧ some gp ≠ v.ownBlock
theorem undrew {B : Nat} {W w1 : World} (h : Below B W.drew w1) : Below B W w1 := ⟨h.os, h.tape, h.output, h.size, h.block⟩
theorem cell_drew {w : World} {x : Addr} {u : Value} (h : w.cell? x = some u) : w.drew.cell? x = some u := h
theorem lt_of {w : World} {g : Nat} {o : Obj} (h : w.heap[g]? = some o) : g < w.heap.size := by
  rcases Nat.lt_or_ge g w.heap.size with h' | h'
  · exact h'
  · rw [Array.getElem?_eq_none h'] at h; cases h
section
variable {b : Nat} {n : Nd} {ak : Option Addr} {ck : Nat} {p : Ps} {gn gp : Nat} {v v' : Value} {w w' : World}
theorem Fm.on (h : Fm b n ak ck p gn gp v w) (g : Gr b v v' w w') : Fm b n ak ck p gn gp v' w' :=
  ⟨(g.keep _ (lt_of h.n) h.fn.1 h.fn.2).trans h.n, (g.keep _ (lt_of h.p) h.fp.1 h.fp.2).trans h.p, ⟨h.fn.1, g.ne (lt_of h.n) h.fn.2⟩, ⟨h.fp.1, g.ne (lt_of h.p) h.fp.2⟩⟩
theorem Fm.drew (h : Fm b n ak ck p gn gp v w) : Fm b n ak ck p gn gp v w.drew := ⟨h.n, h.p, h.fn, h.fp⟩
theorem Fm.c (h : Fm b n ak ck p gn gp v w) : w.cell? ⟨gn, 0, none⟩ = some (.int .i64 n.k) ∧ w.cell? ⟨gn, 1, none⟩ = some (.int .i64 n.op) ∧ w.cell? ⟨gn, 2, none⟩ = some (.string n.s) ∧ w.cell? ⟨gn, 3, none⟩ = some (.string n.t) ∧ w.cell? ⟨gn, 4, none⟩ = some (.slice ak n.kids.length ck) ∧ w.cell? ⟨gp, 0, none⟩ = some (.int .i64 p.l) ∧ w.cell? ⟨gp, 1, none⟩ = some (.bool p.d) ∧ w.cell? ⟨gp, 2, none⟩ = some (.bool p.i) ∧ w.cell? ⟨gp, 3, none⟩ = some (.bool p.g) ∧ w.cell? ⟨gp, 4, none⟩ = some (.bool p.s) := by
  refine ⟨?_, ?_, ?_, ?_, ?_, ?_, ?_, ?_, ?_, ?_⟩
  · rw [cell_of_row w gn 0 _ _ _ h.n]; rfl
  · rw [cell_of_row w gn 1 _ _ _ h.n]; rfl
  · rw [cell_of_row w gn 2 _ _ _ h.n]; rfl
  · rw [cell_of_row w gn 3 _ _ _ h.n]; rfl
  · rw [cell_of_row w gn 4 _ _ _ h.n]; rfl
  · rw [cell_of_row w gp 0 _ _ _ h.p]; rfl
  · rw [cell_of_row w gp 1 _ _ _ h.p]; rfl
  · rw [cell_of_row w gp 2 _ _ _ h.p]; rfl
  · rw [cell_of_row w gp 3 _ _ _ h.p]; rfl
  · rw [cell_of_row w gp 4 _ _ _ h.p]; rfl

theorem Fm.start {w0 : World} {a : Option Addr} {m cap : Nat} {fv : Value} {ts : List Tk} (h : St w0 a m cap fv v ts w) (n : Nd) (ak : Option Addr) (ck : Nat) (p : Ps) :
    Fm w0.heap.size n ak ck p w.heap.size (w.heap.size + 1) v ((w.alloc (.cells #[.int .i64 n.k, .int .i64 n.op, .string n.s, .string n.t, .slice ak n.kids.length ck] 60)).alloc (.cells #[.int .i64 p.l, .bool p.d, .bool p.i, .bool p.g, .bool p.s] 26)) ∧ St w0 a m cap fv v ts ((w.alloc (.cells #[.int .i64 n.k, .int .i64 n.op, .string n.s, .string n.t, .slice ak n.kids.length ck] 60)).alloc (.cells #[.int .i64 p.l, .bool p.d, .bool p.i, .bool p.g, .bool p.s] 26)) ∧ Gr w0.heap.size v v w ((w.alloc (.cells #[.int .i64 n.k, .int .i64 n.op, .string n.s, .string n.t, .slice ak n.kids.length ck] 60)).alloc (.cells #[.int .i64 p.l, .bool p.d, .bool p.i, .bool p.g, .bool p.s] 26)) := by
  have hl := h.lt
  have hb : Below w.heap.size w ((w.alloc (.cells #[.int .i64 n.k, .int .i64 n.op, .string n.s, .string n.t, .slice ak n.kids.length ck] 60)).alloc (.cells #[.int .i64 p.l, .bool p.d, .bool p.i, .bool p.g, .bool p.s] 26)) := ((Below.refl _ _).alloc (Nat.le_refl _) _).alloc (by simp) _
  refine ⟨⟨?_, ?_, ⟨by omega, h.new (Nat.le_refl _)⟩, ⟨by omega, h.new (Nat.le_succ _)⟩⟩, h.keep hb, Gr.quiet hb⟩
  · rw [Below.heap_alloc _ _ _ (by simp)]
    exact heap_alloc_new w _
  · have := heap_alloc_new (w.alloc (.cells #[.int .i64 n.k, .int .i64 n.op, .string n.s, .string n.t, .slice ak n.kids.length ck] 60)) (.cells #[.int .i64 p.l, .bool p.d, .bool p.i, .bool p.g, .bool p.s] 26)
    simpa using this
end

theorem Fm.keepQ {b : Nat} {n : Nd} {ak : Option Addr} {ck : Nat} {p : Ps} {gn gp : Nat} {v : Value} {w w' : World} (h : Fm b n ak ck p gn gp v w) (hb : Below w.heap.size w w') : Fm b n ak ck p gn gp v w' := h.on (Gr.quiet hb)

theorem misfits_any (n : Nd) (ak : Option Addr) (ck : Nat) (p : Ps) (w : World) :
    Calls Tryz.prog 82 #[.agg #[.int .i64 n.k, .int .i64 n.op, .string n.s, .string n.t, .slice ak n.kids.length ck], .agg #[.int .i64 p.l, .bool p.d, .bool p.i, .bool p.g, .bool p.s]] w fun e w' => e = .returned (.bool (mis n p)) ∧ Below w.heap.size w w' := by
  go_enter Tryz.func82, Tryz.ntmps82
  go_wp2_with fail
  refine (ps.impl_fits n.k n.op p.l n.s n.t ak n.kids.length ck p.d p.i p.g p.s _).mono ?_
  rintro e w1 ⟨rfl, b1⟩
  have B1 := Lib.hid (show Below w.heap.size w w1 from (((Below.refl w.heap.size w).alloc (Nat.le_refl _) _).alloc (by simp) _).trans (b1.mono (by simp; omega)))
  clear b1
  go_wp2
  go_ret
  exact ⟨rfl, B1.out⟩

theorem full_any (n : Nd) (ak : Option Addr) (ck : Nat) (p : Ps) (w : World) :
    Calls Tryz.prog 87 #[.agg #[.int .i64 n.k, .int .i64 n.op, .string n.s, .string n.t, .slice ak n.kids.length ck], .agg #[.int .i64 p.l, .bool p.d, .bool p.i, .bool p.g, .bool p.s]] w fun e w' => e = .returned (.bool (full n p)) ∧ Below w.heap.size w w' := by
  obtain ⟨V, hV⟩ : ∃ V, lv.levelOf n.k n.op = V := ⟨_, rfl⟩
  have HV := Lib.hid hV
  have HX := Lib.hid (Fm.c (b := w.heap.size + 2) (v := .slice none 0 0) (n := n) (ak := ak) (ck := ck) (p := p) (gn := w.heap.size) (gp := w.heap.size + 1) (w := (w.alloc (.cells #[.int .i64 n.k, .int .i64 n.op, .string n.s, .string n.t, .slice ak n.kids.length ck] 60)).alloc (.cells #[.int .i64 p.l, .bool p.d, .bool p.i, .bool p.g, .bool p.s] 26)) ⟨by rw [Below.heap_alloc _ _ _ (by simp)]; exact heap_alloc_new w _, by have := heap_alloc_new (w.alloc (.cells #[.int .i64 n.k, .int .i64 n.op, .string n.s, .string n.t, .slice ak n.kids.length ck] 60)) (.cells #[.int .i64 p.l, .bool p.d, .bool p.i, .bool p.g, .bool p.s] 26); simpa using this, ⟨by omega, by intro e; cases e⟩, ⟨by omega, by intro e; cases e⟩⟩)
  have HK := Lib.hid (show ∀ w1, Below ((w.alloc (.cells #[.int .i64 n.k, .int .i64 n.op, .string n.s, .string n.t, .slice ak n.kids.length ck] 60)).alloc (.cells #[.int .i64 p.l, .bool p.d, .bool p.i, .bool p.g, .bool p.s] 26)).heap.size ((w.alloc (.cells #[.int .i64 n.k, .int .i64 n.op, .string n.s, .string n.t, .slice ak n.kids.length ck] 60)).alloc (.cells #[.int .i64 p.l, .bool p.d, .bool p.i, .bool p.g, .bool p.s] 26)) w1 → w1.cell? ⟨w.heap.size, 0, none⟩ = some (.int .i64 n.k) ∧ Below w.heap.size w w1 from fun w1 hb => ⟨(hb.cell (p := ⟨w.heap.size, 0, none⟩) (by simp; omega)).trans HX.out.1, (((Below.refl w.heap.size w).alloc (Nat.le_refl _) _).alloc (by simp) _).trans (hb.mono (by simp; omega))⟩)
  by_cases h15 : V = 15
  · have HE := Lib.hid (show full n p = (n.k == 4) by unfold full; rw [HV.out, h15]; rfl)
    subst h15
    clear hV
    go_enter Tryz.func87, Tryz.ntmps87
    go_wp2_with fail
    refine (lv.impl_level n.k n.op n.s n.t ak n.kids.length ck _).mono ?_
    rw [HV.out]
    rintro e w1 ⟨rfl, b1⟩
    obtain ⟨c0, B1⟩ := HK.out w1 b1
    have HB1 := Lib.hid B1
    clear b1 B1
    go_wp2
    all_goals
      go_ret
      exact ⟨by rw [HE.out]; rfl, HB1.out⟩
  · have HE := Lib.hid (show full n p = true by unfold full; rw [HV.out]; simp [h15])
    obtain ⟨e15, e15'⟩ := rt.ne_facts h15
    clear hV h15
    go_enter Tryz.func87, Tryz.ntmps87
    go_wp2_with fail
    refine (lv.impl_level n.k n.op n.s n.t ak n.kids.length ck _).mono ?_
    rw [HV.out]
    rintro e w1 ⟨rfl, b1⟩
    obtain ⟨c0, B1⟩ := HK.out w1 b1
    have HB1 := Lib.hid B1
    clear b1 B1
    go_wp2
    all_goals
      go_ret
      exact ⟨by rw [HE.out]; rfl, HB1.out⟩

/-- What a call of F answers at node i: the tokens T. -/
def CallE (F : FuncId) (w0 : World) (a : Option Addr) (m cap : Nat) (fv : Value) (i : Nat) (R : Ps → List Tk) : Prop :=
  ∀ (q : Ps), posOk q.l q.d = true → ∀ (v : Value) (ts : List Tk) (w : World), St w0 a m cap fv v ts w → ts.length + (R q).length ≤ 1048576 →
    Calls Tryz.prog F #[.pointer (some ⟨w0.heap.size, 0, none⟩), .int .i64 (i : Int), .agg #[.int .i64 q.l, .bool q.d, .bool q.i, .bool q.g, .bool q.s]] w (Put w0 a m cap fv v ts (R q) w)
theorem kid_cell {n : Nd} {ak : Option Addr} {w0 w : World} (hi : Ints w0.heap.size w0 ak n.kids) (hb : Below w0.heap.size w0 w) {K : Nat} (hK : K < n.kids.length) (hk : n.kids.getD K 0 = (kd n K : Int)) :
    ∃ bk ok, ak = some ⟨bk, ok, none⟩ ∧ bk < w0.heap.size ∧ w.cell? ⟨bk, ok + K, none⟩ = some (.int .i64 (kd n K : Int)) := by
  obtain ⟨bk, ok, e, hlt, hc⟩ := nd.ints_at hi hK
  refine ⟨bk, ok, e, hlt, ?_⟩
  rw [hb.cell (p := ⟨bk, ok + K, none⟩) hlt, hc K hK, ← hk, List.getD_eq_getElem?_getD, List.getElem?_eq_getElem hK]
  rfl

set_option maxHeartbeats 1600000 in
theorem kid_any {w0 : World} {a : Option Addr} {m cap : Nat} {fv : Value} {F : Nat → Ps → List Tk} {v : Value} {ts : List Tk} (n : Nd) (ak : Option Addr) (ck : Nat) (p : Ps) (K : Nat) (hK : K < n.kids.length) (w : World) (hp : posOk p.l p.d = true) (hq : posOk (kp n K p).l (kp n K p).d = true) (hn : n.kids.length ≤ 1048576) (hkd : n.kids.getD K 0 = (kd n K : Int)) (hi : Ints w0.heap.size w0 ak n.kids)
    (hE : CallE 83 w0 a m cap fv (kd n K) (F (kd n K))) (hst : St w0 a m cap fv v ts w) (hl : ts.length + (F (kd n K) (kp n K p)).length ≤ 1048576) :
    Calls Tryz.prog 352 #[.pointer (some ⟨w0.heap.size, 0, none⟩), .agg #[.int .i64 n.k, .int .i64 n.op, .string n.s, .string n.t, .slice ak n.kids.length ck], .int .i64 (K : Int), .agg #[.int .i64 p.l, .bool p.d, .bool p.i, .bool p.g, .bool p.s]] w (Put w0 a m cap fv v ts (F (kd n K) (kp n K p)) w) := by
  obtain ⟨X0, S0, G0⟩ := Fm.start hst n ak ck p
  obtain ⟨bk, ok, rfl, hbk, hkc⟩ := kid_cell (w := (w.alloc (.cells #[.int .i64 n.k, .int .i64 n.op, .string n.s, .string n.t, .slice ak n.kids.length ck] 60)).alloc (.cells #[.int .i64 p.l, .bool p.d, .bool p.i, .bool p.g, .bool p.s] 26)) hi S0.bel hK hkd
  have HX := Lib.hid X0
  have HS := Lib.hid S0
  have HG := Lib.hid G0
  have HE := Lib.hid hE
  have HL := Lib.hid hl
  have HQ := Lib.hid hq
  have hlt0 := hst.lt
  have Y0 := Lib.hid (And.intro X0.drew.c (cell_drew hkc))
  have HN := Lib.hid hn
  have hk1 : (0 : Int) ≤ (n.kids.length : Int) := by omega
  have hk2 : ((K : Int)) < (n.kids.length : Int) := by omega
  have HKB := Lib.hid (show ∀ w1 : World, Below ((w.alloc (.cells #[.int .i64 n.k, .int .i64 n.op, .string n.s, .string n.t, .slice (some ⟨bk, ok, none⟩) n.kids.length ck] 60)).alloc (.cells #[.int .i64 p.l, .bool p.d, .bool p.i, .bool p.g, .bool p.s] 26)).heap.size ((w.alloc (.cells #[.int .i64 n.k, .int .i64 n.op, .string n.s, .string n.t, .slice (some ⟨bk, ok, none⟩) n.kids.length ck] 60)).alloc (.cells #[.int .i64 p.l, .bool p.d, .bool p.i, .bool p.g, .bool p.s] 26)) w1 → w1.cell? ⟨bk, ok + K, none⟩ = some (.int .i64 (kd n K : Int)) from fun w1 hb => (hb.cell (p := ⟨bk, ok + K, none⟩) (by simp; omega)).trans hkc)
  have HPS := Lib.hid (show ∀ W, Calls Tryz.prog 190 #[.agg #[.int .i64 n.k, .int .i64 n.op, .string n.s, .string n.t, .slice (some ⟨bk, ok, none⟩) n.kids.length ck], .int .i64 (K : Int), .agg #[.int .i64 p.l, .bool p.d, .bool p.i, .bool p.g, .bool p.s]] W fun e w' => e = .returned (.agg #[.int .i64 (kp n K p).l, .bool (kp n K p).d, .bool (kp n K p).i, .bool (kp n K p).g, .bool (kp n K p).s]) ∧ Below W.heap.size W w' from fun W => ps.impl_kidPos n.k n.op n.s n.t _ n.kids.length ck (K : Int) p.l p.d p.i p.g p.s W hn)
  clear X0 S0 G0 hE hst hl hq hkc hi
  obtain ⟨W0, hW0⟩ : ∃ W, W = (w.alloc (.cells #[.int .i64 n.k, .int .i64 n.op, .string n.s, .string n.t, .slice (some ⟨bk, ok, none⟩) n.kids.length ck] 60)).alloc (.cells #[.int .i64 p.l, .bool p.d, .bool p.i, .bool p.g, .bool p.s] 26) := ⟨_, rfl⟩
  go_enter Tryz.func352, Tryz.ntmps352
  go_wp2_with fail
  rw [← hW0] at HX HS HG Y0 HKB ⊢
  clear hW0
  go_region_held3 (fun w' => (w'.cell? ⟨w.heap.size, 0, none⟩ = some (.int .i64 n.k) ∧ w'.cell? ⟨w.heap.size, 1, none⟩ = some (.int .i64 n.op) ∧ w'.cell? ⟨w.heap.size, 2, none⟩ = some (.string n.s) ∧ w'.cell? ⟨w.heap.size, 3, none⟩ = some (.string n.t) ∧ w'.cell? ⟨w.heap.size, 4, none⟩ = some (.slice (some ⟨bk, ok, none⟩) n.kids.length ck) ∧ w'.cell? ⟨(w.heap.size + 1), 0, none⟩ = some (.int .i64 p.l) ∧ w'.cell? ⟨(w.heap.size + 1), 1, none⟩ = some (.bool p.d) ∧ w'.cell? ⟨(w.heap.size + 1), 2, none⟩ = some (.bool p.i) ∧ w'.cell? ⟨(w.heap.size + 1), 3, none⟩ = some (.bool p.g) ∧ w'.cell? ⟨(w.heap.size + 1), 4, none⟩ = some (.bool p.s)) ∧ w'.cell? ⟨bk, ok + K, none⟩ = some (.int .i64 (kd n K : Int)))
    (first | with_reducible exact Y0.out | with_reducible exact Y1.out | with_reducible exact Y2.out)
    (first | (go_at_call 190; refine (HPS.out _).mono ?_; rintro e w1 ⟨rfl, b1⟩; have X1 := Lib.hid (HX.out.keepQ (undrew b1)); have S1 := Lib.hid (HS.out.keep (undrew b1)); have K1 := Lib.hid (HKB.out _ (undrew b1)); have Y1 := Lib.hid (And.intro X1.out.c K1.out); have G1 := Lib.hid (Gr.trans HG.out (Gr.quiet (undrew b1))); clear b1) | (go_at_call 83; refine (HE.out _ HQ.out _ _ _ S1.out HL.out).mono ?_; rintro e w2 ⟨rfl, hput⟩; obtain ⟨v2, s2, g2⟩ := hput; have X2 := Lib.hid (X1.out.on g2); have S2 := Lib.hid s2; have G2 := Lib.hid (G1.out.trans g2); have Y2 := Lib.hid (And.intro X2.out.c ((s2.bel.cell (p := ⟨bk, ok + K, none⟩) hbk).trans ((S1.out.bel.cell (p := ⟨bk, ok + K, none⟩) hbk).symm.trans K1.out))); clear s2 g2))
  go_wp2
  go_end0
  exact ⟨rfl, v2, S2.out, G2.out⟩

set_option maxHeartbeats 1600000 in
theorem target_any {w0 : World} {a : Option Addr} {m cap : Nat} {fv : Value} {F : Nat → Ps → List Tk} {v : Value} {ts : List Tk} (n : Nd) (ak : Option Addr) (ck : Nat) (p : Ps) (hK : 0 < n.kids.length) (w : World) (hp : posOk p.l p.d = true) (hq : posOk (kp n 0 p).l (kp n 0 p).d = true) (hn : n.kids.length ≤ 1048576) (hkd : n.kids.getD 0 0 = (kd n 0 : Int)) (hi : Ints w0.heap.size w0 ak n.kids)
    (hE : CallE 151 w0 a m cap fv (kd n 0) (F (kd n 0))) (hst : St w0 a m cap fv v ts w) (hl : ts.length + (F (kd n 0) (kp n 0 p)).length ≤ 1048576) :
    Calls Tryz.prog 353 #[.pointer (some ⟨w0.heap.size, 0, none⟩), .agg #[.int .i64 n.k, .int .i64 n.op, .string n.s, .string n.t, .slice ak n.kids.length ck], .agg #[.int .i64 p.l, .bool p.d, .bool p.i, .bool p.g, .bool p.s]] w (Put w0 a m cap fv v ts (F (kd n 0) (kp n 0 p)) w) := by
  obtain ⟨X0, S0, G0⟩ := Fm.start hst n ak ck p
  obtain ⟨bk, ok, rfl, hbk, hkc⟩ := kid_cell (w := (w.alloc (.cells #[.int .i64 n.k, .int .i64 n.op, .string n.s, .string n.t, .slice ak n.kids.length ck] 60)).alloc (.cells #[.int .i64 p.l, .bool p.d, .bool p.i, .bool p.g, .bool p.s] 26)) hi S0.bel hK hkd
  rw [Nat.add_zero] at hkc
  have HX := Lib.hid X0
  have HS := Lib.hid S0
  have HG := Lib.hid G0
  have HE := Lib.hid hE
  have HL := Lib.hid hl
  have HQ := Lib.hid hq
  have hlt0 := hst.lt
  have Y0 := Lib.hid (And.intro X0.drew.c (cell_drew hkc))
  have HN := Lib.hid hn
  have hk1 : (0 : Int) ≤ (n.kids.length : Int) := by omega
  have hk2 : ((0 : Int)) < (n.kids.length : Int) := by omega
  have HKB := Lib.hid (show ∀ w1 : World, Below ((w.alloc (.cells #[.int .i64 n.k, .int .i64 n.op, .string n.s, .string n.t, .slice (some ⟨bk, ok, none⟩) n.kids.length ck] 60)).alloc (.cells #[.int .i64 p.l, .bool p.d, .bool p.i, .bool p.g, .bool p.s] 26)).heap.size ((w.alloc (.cells #[.int .i64 n.k, .int .i64 n.op, .string n.s, .string n.t, .slice (some ⟨bk, ok, none⟩) n.kids.length ck] 60)).alloc (.cells #[.int .i64 p.l, .bool p.d, .bool p.i, .bool p.g, .bool p.s] 26)) w1 → w1.cell? ⟨bk, ok, none⟩ = some (.int .i64 (kd n 0 : Int)) from fun w1 hb => (hb.cell (p := ⟨bk, ok, none⟩) (by simp; omega)).trans hkc)
  have HPS := Lib.hid (show ∀ W, Calls Tryz.prog 190 #[.agg #[.int .i64 n.k, .int .i64 n.op, .string n.s, .string n.t, .slice (some ⟨bk, ok, none⟩) n.kids.length ck], .int .i64 0, .agg #[.int .i64 p.l, .bool p.d, .bool p.i, .bool p.g, .bool p.s]] W fun e w' => e = .returned (.agg #[.int .i64 (kp n 0 p).l, .bool (kp n 0 p).d, .bool (kp n 0 p).i, .bool (kp n 0 p).g, .bool (kp n 0 p).s]) ∧ Below W.heap.size W w' from fun W => ps.impl_kidPos n.k n.op n.s n.t _ n.kids.length ck 0 p.l p.d p.i p.g p.s W hn)
  clear X0 S0 G0 hE hst hl hq hkc hi
  obtain ⟨W0, hW0⟩ : ∃ W, W = (w.alloc (.cells #[.int .i64 n.k, .int .i64 n.op, .string n.s, .string n.t, .slice (some ⟨bk, ok, none⟩) n.kids.length ck] 60)).alloc (.cells #[.int .i64 p.l, .bool p.d, .bool p.i, .bool p.g, .bool p.s] 26) := ⟨_, rfl⟩
  go_enter Tryz.func353, Tryz.ntmps353
  go_wp2_with fail
  rw [← hW0] at HX HS HG Y0 HKB ⊢
  clear hW0
  go_region_held3 (fun w' => (w'.cell? ⟨w.heap.size, 0, none⟩ = some (.int .i64 n.k) ∧ w'.cell? ⟨w.heap.size, 1, none⟩ = some (.int .i64 n.op) ∧ w'.cell? ⟨w.heap.size, 2, none⟩ = some (.string n.s) ∧ w'.cell? ⟨w.heap.size, 3, none⟩ = some (.string n.t) ∧ w'.cell? ⟨w.heap.size, 4, none⟩ = some (.slice (some ⟨bk, ok, none⟩) n.kids.length ck) ∧ w'.cell? ⟨(w.heap.size + 1), 0, none⟩ = some (.int .i64 p.l) ∧ w'.cell? ⟨(w.heap.size + 1), 1, none⟩ = some (.bool p.d) ∧ w'.cell? ⟨(w.heap.size + 1), 2, none⟩ = some (.bool p.i) ∧ w'.cell? ⟨(w.heap.size + 1), 3, none⟩ = some (.bool p.g) ∧ w'.cell? ⟨(w.heap.size + 1), 4, none⟩ = some (.bool p.s)) ∧ w'.cell? ⟨bk, ok, none⟩ = some (.int .i64 (kd n 0 : Int)))
    (first | with_reducible exact Y0.out | with_reducible exact Y1.out | with_reducible exact Y2.out)
    (first | (go_at_call 190; refine (HPS.out _).mono ?_; rintro e w1 ⟨rfl, b1⟩; have X1 := Lib.hid (HX.out.keepQ (undrew b1)); have S1 := Lib.hid (HS.out.keep (undrew b1)); have K1 := Lib.hid (HKB.out _ (undrew b1)); have Y1 := Lib.hid (And.intro X1.out.c K1.out); have G1 := Lib.hid (Gr.trans HG.out (Gr.quiet (undrew b1))); clear b1) | (go_at_call 151; refine (HE.out _ HQ.out _ _ _ S1.out HL.out).mono ?_; rintro e w2 ⟨rfl, hput⟩; obtain ⟨v2, s2, g2⟩ := hput; have X2 := Lib.hid (X1.out.on g2); have S2 := Lib.hid s2; have G2 := Lib.hid (G1.out.trans g2); have Y2 := Lib.hid (And.intro X2.out.c ((s2.bel.cell (p := ⟨bk, ok, none⟩) hbk).trans ((S1.out.bel.cell (p := ⟨bk, ok, none⟩) hbk).symm.trans K1.out))); clear s2 g2))
  go_wp2
  go_end0
  exact ⟨rfl, v2, S2.out, G2.out⟩
end Go.Proofs.YtiilpnoaocfjgaaGreatDoor.tw

namespace Go.Proofs.YtiilpnoaocfjgaaGreatDoor.tw
open Go.ChangeShapes Go.WideShapes Go.ChangeAt Go.RowKit
open tk (Tk)
open own
open nd (Nd Ints)
open ps (Ps posOk kidI top)
open spell (Held)
open et
set_option linter.unusedVariables false
set_option maxRecDepth 20000

theorem lst_succ (E : Nat → Ps → List Tk) (n : Nd) (J : Nat) : lst E n (J + 1) = lst E n J ++ (if J = 0 then [] else [tok 36]) ++ E (kd n J) top := rfl
theorem lst_le (E : Nat → Ps → List Tk) (n : Nd) (J : Nat) : ∀ d, (lst E n J).length ≤ (lst E n (J + d)).length := by
  intro d
  induction d with
  | zero => exact Nat.le_refl _
  | succ d ih =>
    refine Nat.le_trans ih ?_
    rw [← Nat.add_assoc, lst_succ, List.length_append, List.length_append]
    omega
theorem lst_to (E : Nat → Ps → List Tk) (n : Nd) {J K : Nat} (h : J ≤ K) : (lst E n J).length ≤ (lst E n K).length := by
  obtain ⟨d, rfl⟩ : ∃ d, K = J + d := ⟨K - J, by omega⟩
  exact lst_le E n J d
def RelLi (w0 : World) (a : Option Addr) (m cap : Nat) (fv v : Value) (ts : List Tk) (E : Nat → Ps → List Tk) (n : Nd) (f : Int) (w : World) (i : Value) (wr : World) : Prop :=
  ∃ (J : Nat) (v' : Value), J ≤ n.kids.length ∧ i = .int .i64 (J : Int) ∧ St w0 a m cap fv v' (ts ++ (tok f :: lst E n J)) wr ∧ Gr w0.heap.size v v' w wr

set_option maxHeartbeats 1600000 in
theorem list_any {w0 : World} {a : Option Addr} {m cap : Nat} {fv : Value} {E : Nat → Ps → List Tk} {v : Value} {ts : List Tk} (n : Nd) (ak : Option Addr) (ck : Nat) (f g : Int) (w : World) (hh : Held w0) (hn : n.kids.length ≤ 1048576) (hkd : ∀ K, K < n.kids.length → n.kids.getD K 0 = (kd n K : Int)) (hi : Ints w0.heap.size w0 ak n.kids)
    (hE : ∀ K, K < n.kids.length → CallE 83 w0 a m cap fv (kd n K) (E (kd n K))) (hst : St w0 a m cap fv v ts w) (hl : ts.length + (brack E n f g).length ≤ 1048576) :
    Calls Tryz.prog 351 #[.pointer (some ⟨w0.heap.size, 0, none⟩), .agg #[.int .i64 n.k, .int .i64 n.op, .string n.s, .string n.t, .slice ak n.kids.length ck], .int .i64 f, .int .i64 g] w (Put w0 a m cap fv v ts (brack E n f g) w) := by
  have HH := Lib.hid hh
  have HKD := Lib.hid hkd
  have HI := Lib.hid hi
  have HE := Lib.hid hE
  have hl2 : ts.length + (lst E n n.kids.length).length + 2 ≤ 1048576 := by
    simp only [brack, List.length_cons, List.length_append, List.length_nil] at hl
    omega
  have HL := Lib.hid hl2
  have HS := Lib.hid (hst.alloc (.cells #[.int .i64 n.k, .int .i64 n.op, .string n.s, .string n.t, .slice ak n.kids.length ck] 60))
  have HG := Lib.hid (show Gr w0.heap.size v v w (w.alloc (.cells #[.int .i64 n.k, .int .i64 n.op, .string n.s, .string n.t, .slice ak n.kids.length ck] 60)) from Gr.quiet ((Below.refl _ _).alloc (Nat.le_refl _) _))
  have HB := Lib.hid (show ∀ v' w', Gr w0.heap.size v v' (w.alloc (.cells #[.int .i64 n.k, .int .i64 n.op, .string n.s, .string n.t, .slice ak n.kids.length ck] 60)) w' → w'.cell? ⟨w.heap.size, 4, none⟩ = some (.slice ak n.kids.length ck) from fun v' w' hg => by
    have hx := hg.keep w.heap.size (by simp) (by have := hst.lt; omega) (hst.new (Nat.le_refl _))
    rw [cell_of_row w' _ 4 _ _ _ (hx.trans (heap_alloc_new w (.cells #[.int .i64 n.k, .int .i64 n.op, .string n.s, .string n.t, .slice ak n.kids.length ck] 60)))]; rfl)
  obtain ⟨nk, hnk⟩ : ∃ nk, n.kids.length = nk := ⟨_, rfl⟩
  have HNK := Lib.hid hnk
  rw [hnk] at HL HS HG HB hn
  rw [hnk]
  clear hh hkd hi hE hl hl2 hst hnk
  go_enter Tryz.func351, Tryz.ntmps351
  go_wp2_with fail
  refine (symbol_any HH.out f _ (by have := HL.out; omega) HS.out).mono ?_
  rintro e w1 ⟨rfl, v1, s1, g1⟩
  have S1 := Lib.hid s1
  have G1 := Lib.hid (HG.out.trans g1)
  have c4 := HB.out v1 w1 g1
  clear s1 g1
  go_wp2
  go_loopw [16] (fun i wr => RelLi w0 a m cap fv v ts E n f w i wr) (fun i _ => nk - (intOf i).toNat)
  case atStart => exact ⟨0, v1, by omega, rfl, S1.out, G1.out⟩
  case round =>
    obtain ⟨J, v2, hJ, rfl, s2, g2⟩ := hrel
    have S2 := Lib.hid s2
    have G2 := Lib.hid g2
    rw [HNK.out] at hJ
    clear s2 g2
    by_cases hlt : J < nk
    · have hltk : J < n.kids.length := by have := HNK.out; omega
      obtain ⟨bk, ok, rfl, hbk, hkc⟩ := kid_cell HI.out S2.out.bel hltk (HKD.out J hltk)
      have hle := lst_to E n (show J + 1 ≤ n.kids.length by omega)
      rw [lst_succ, List.length_append, List.length_append, HNK.out] at hle
      have hi1 : (J : Int) < (nk : Int) := by omega
      have HEJ := Lib.hid (HE.out J hltk)
      by_cases h0 : J = 0
      · subst h0
        have HL1 := Lib.hid (show (ts ++ (tok f :: lst E n 0)).length + (E (kd n 0) top).length ≤ 1048576 by have := HL.out; simp only [List.length_cons, List.length_append] at *; omega)
        simp only [Nat.add_zero] at hkc
        clear hle
        go_wp2_with fail
        refine (ps.impl_top _).mono ?_
        rintro e w3 ⟨rfl, b3⟩
        have S3 := Lib.hid (S2.out.keep b3)
        have G3 := Lib.hid (G2.out.trans (Gr.quiet b3))
        clear b3
        go_wp2_with fail
        refine (HEJ.out top top_ok _ _ _ S3.out HL1.out).mono ?_
        rintro e w4 ⟨rfl, v4, s4, g4⟩
        have S4 := Lib.hid s4
        have G4 := Lib.hid (G3.out.trans g4)
        clear s4 g4
        go_wp2
        go_roundw
        case rel =>
          refine ⟨1, v4, by omega, rfl, ?_, G4.out⟩
          have := S4.out
          rw [lst_succ]
          simpa only [List.append_assoc, List.cons_append, List.nil_append, if_pos, lst] using this
        case measure => simp [intOf]; omega
      · have hj0 : (0 : Int) < (J : Int) := by omega
        rw [if_neg h0] at hle
        have HL0 := Lib.hid (show (ts ++ (tok f :: lst E n J)).length ≤ 1048576 by have := HL.out; simp only [List.length_cons, List.length_append] at *; omega)
        have HL1 := Lib.hid (show ((ts ++ (tok f :: lst E n J)) ++ [tok 36]).length + (E (kd n J) top).length ≤ 1048576 by have := HL.out; simp only [List.length_cons, List.length_append, List.length_nil] at *; omega)
        clear hle
        go_wp2_with fail
        refine (symbol_any HH.out 36 _ HL0.out S2.out).mono ?_
        rintro e w3 ⟨rfl, v3, s3, g3⟩
        have S3 := Lib.hid s3
        have G3 := Lib.hid (G2.out.trans g3)
        clear s3 g3
        go_wp2_with fail
        refine (ps.impl_top _).mono ?_
        rintro e w4 ⟨rfl, b4⟩
        have S4 := Lib.hid (S3.out.keep b4)
        have G4 := Lib.hid (G3.out.trans (Gr.quiet b4))
        clear b4
        go_wp2_with fail
        refine (HEJ.out top top_ok _ _ _ S4.out HL1.out).mono ?_
        rintro e w5 ⟨rfl, v5, s5, g5⟩
        have S5 := Lib.hid s5
        have G5 := Lib.hid (G4.out.trans g5)
        clear s5 g5
        go_wp2
        go_roundw
        case rel =>
          refine ⟨J + 1, v5, by omega, by go_num, ?_, G5.out⟩
          have := S5.out
          rw [lst_succ, if_neg h0]
          simpa only [List.append_assoc, List.cons_append, List.nil_append] using this
        case measure => simp [intOf]; omega
    · obtain rfl : J = nk := by omega
      have HL1 := Lib.hid (show (ts ++ (tok f :: lst E n J)).length ≤ 1048576 by have := HL.out; simp only [List.length_cons, List.length_append] at *; omega)
      go_wp2_with fail
      refine (symbol_any HH.out g _ HL1.out S2.out).mono ?_
      rintro e w3 ⟨rfl, v3, s3, g3⟩
      have S3 := Lib.hid s3
      have G3 := Lib.hid (G2.out.trans g3)
      clear s3 g3
      go_wp2
      go_end0
      refine ⟨rfl, v3, ?_, G3.out⟩
      have := S3.out
      unfold brack
      rw [HNK.out]
      simpa only [List.append_assoc, List.cons_append, List.nil_append] using this
end Go.Proofs.YtiilpnoaocfjgaaGreatDoor.tw

namespace Go.Proofs.YtiilpnoaocfjgaaGreatDoor.tw
open Go.ChangeShapes Go.WideShapes Go.ChangeAt Go.RowKit
open tk (Tk)
open own
open nd (Nd Ints)
open ps (Ps posOk kidI top)
open spell (Held)
open et
set_option linter.unusedVariables false
set_option linter.unusedSimpArgs false
set_option maxRecDepth 20000

theorem kid_lit {w0 : World} {a : Option Addr} {m cap : Nat} {fv : Value} {F : Nat → Ps → List Tk} {v : Value} {ts : List Tk} (n : Nd) (ak : Option Addr) (ck : Nat) (p : Ps) (K : Nat) (Ki : Int) (hKi : Ki = (K : Int)) (hK : K < n.kids.length) (w : World) (hp : posOk p.l p.d = true) (hq : posOk (kp n K p).l (kp n K p).d = true) (hn : n.kids.length ≤ 1048576) (hkd : n.kids.getD K 0 = (kd n K : Int)) (hi : Ints w0.heap.size w0 ak n.kids)
    (hE : CallE 83 w0 a m cap fv (kd n K) (F (kd n K))) (hst : St w0 a m cap fv v ts w) (hl : ts.length + (F (kd n K) (kp n Ki p)).length ≤ 1048576) :
    Calls Tryz.prog 352 #[.pointer (some ⟨w0.heap.size, 0, none⟩), .agg #[.int .i64 n.k, .int .i64 n.op, .string n.s, .string n.t, .slice ak n.kids.length ck], .int .i64 Ki, .agg #[.int .i64 p.l, .bool p.d, .bool p.i, .bool p.g, .bool p.s]] w (Put w0 a m cap fv v ts (F (kd n K) (kp n Ki p)) w) := by
  subst hKi
  exact kid_any n ak ck p K hK w hp hq hn hkd hi hE hst hl

/-- What a method is given: a node of a right tree, a valid position, the contracts for its kids. -/
structure Giv (w0 : World) (a : Option Addr) (m cap : Nat) (fv : Value) (l : List Nd) (i : Nat) (n : Nd) (ak : Option Addr) (p : Ps) (E U : Nat → Ps → List Tk) : Prop where
  held : Held w0
  good : et.Good l i n
  row : Ints w0.heap.size w0 ak n.kids
  pos : posOk p.l p.d = true
  e : ∀ K, K < n.kids.length → CallE 83 w0 a m cap fv (kd n K) (E (kd n K))
  u : 0 < n.kids.length → CallE 151 w0 a m cap fv (kd n 0) (U (kd n 0))
theorem Giv.kp {w0 : World} {a : Option Addr} {m cap : Nat} {fv : Value} {l : List Nd} {i : Nat} {n : Nd} {ak : Option Addr} {p : Ps} {E U : Nat → Ps → List Tk} (h : Giv w0 a m cap fv l i n ak p E U) {K : Nat} (hK : K < n.kids.length) : posOk (et.kp n K p).l (et.kp n K p).d = true := (kp_ok h.good h.pos hK).1
theorem Giv.kd {w0 : World} {a : Option Addr} {m cap : Nat} {fv : Value} {l : List Nd} {i : Nat} {n : Nd} {ak : Option Addr} {p : Ps} {E U : Nat → Ps → List Tk} (h : Giv w0 a m cap fv l i n ak p E U) {K : Nat} (hK : K < n.kids.length) : n.kids.getD K 0 = (et.kd n K : Int) := (h.good.kids K hK).2.1
theorem Giv.len {w0 : World} {a : Option Addr} {m cap : Nat} {fv : Value} {l : List Nd} {i : Nat} {n : Nd} {ak : Option Addr} {p : Ps} {E U : Nat → Ps → List Tk} (h : Giv w0 a m cap fv l i n ak p E U) : n.kids.length ≤ 1048576 := by have := h.good.most; omega

set_option maxHeartbeats 1600000 in
theorem m_name {w0 : World} {a : Option Addr} {m cap : Nat} {fv : Value} {l : List Nd} {i : Nat} {E U : Nat → Ps → List Tk} {v : Value} {ts : List Tk} (n : Nd) (ak : Option Addr) (ck : Nat) (p : Ps) (w : World) (hc : n.k = 1) (hv : Giv w0 a m cap fv l i n ak p E U) (hst : St w0 a m cap fv v ts w) (hl : ts.length + (body E U n p).length ≤ 1048576) :
    Calls Tryz.prog 323 #[.pointer (some ⟨w0.heap.size, 0, none⟩), .agg #[.int .i64 n.k, .int .i64 n.op, .string n.s, .string n.t, .slice ak n.kids.length ck], .agg #[.int .i64 p.l, .bool p.d, .bool p.i, .bool p.g, .bool p.s]] w (Put w0 a m cap fv v ts (body E U n p) w) := by
  obtain ⟨x0, s0, g0⟩ := Fm.start hst n ak ck p
  obtain ⟨c0, c1, c2, c3, c4, d0, d1, d2, d3, d4⟩ := x0.c
  have X0 := Lib.hid x0
  have S0 := Lib.hid s0
  have G0 := Lib.hid g0
  have HV := Lib.hid hv
  rw [body_1 hc] at hl ⊢
  clear x0 s0 g0 hv hst hc
  try simp only [List.length_append, List.length_cons, List.length_nil] at hl
  have L0 := Lib.hid (show (ts).length + ([nam 6 n.s]).length ≤ 1048576 by (try simp only [List.length_append, List.length_cons, List.length_nil]); omega)
  clear hl
  go_enter Tryz.func323, Tryz.ntmps323
  go_wp2_with fail
  refine (add_any 6 n.s _ (by have := L0.out; omega) S0.out).mono ?_
  rintro e w1 ⟨rfl, v1, s1, g1⟩
  have X1 := Lib.hid (X0.out.on g1)
  have S1 := Lib.hid s1
  have G1 := Lib.hid (G0.out.trans g1)
  clear c0 c1 c2 c3 c4 d0 d1 d2 d3 d4 s1 g1
  go_wp2
  go_end0
  refine ⟨rfl, v1, ?_, G1.out⟩
  have := S1.out
  first | exact this | simpa only [List.append_assoc, List.cons_append, List.nil_append, nam] using this

set_option maxHeartbeats 1600000 in
theorem m_number {w0 : World} {a : Option Addr} {m cap : Nat} {fv : Value} {l : List Nd} {i : Nat} {E U : Nat → Ps → List Tk} {v : Value} {ts : List Tk} (n : Nd) (ak : Option Addr) (ck : Nat) (p : Ps) (w : World) (hc : n.k = 2) (hv : Giv w0 a m cap fv l i n ak p E U) (hst : St w0 a m cap fv v ts w) (hl : ts.length + (body E U n p).length ≤ 1048576) :
    Calls Tryz.prog 309 #[.pointer (some ⟨w0.heap.size, 0, none⟩), .agg #[.int .i64 n.k, .int .i64 n.op, .string n.s, .string n.t, .slice ak n.kids.length ck], .agg #[.int .i64 p.l, .bool p.d, .bool p.i, .bool p.g, .bool p.s]] w (Put w0 a m cap fv v ts (body E U n p) w) := by
  obtain ⟨x0, s0, g0⟩ := Fm.start hst n ak ck p
  obtain ⟨c0, c1, c2, c3, c4, d0, d1, d2, d3, d4⟩ := x0.c
  have X0 := Lib.hid x0
  have S0 := Lib.hid s0
  have G0 := Lib.hid g0
  have HV := Lib.hid hv
  rw [body_2 hc] at hl ⊢
  clear x0 s0 g0 hv hst hc
  try simp only [List.length_append, List.length_cons, List.length_nil] at hl
  have L0 := Lib.hid (show (ts).length + ([nam 3 n.s]).length ≤ 1048576 by (try simp only [List.length_append, List.length_cons, List.length_nil]); omega)
  clear hl
  go_enter Tryz.func309, Tryz.ntmps309
  go_wp2_with fail
  refine (add_any 3 n.s _ (by have := L0.out; omega) S0.out).mono ?_
  rintro e w1 ⟨rfl, v1, s1, g1⟩
  have X1 := Lib.hid (X0.out.on g1)
  have S1 := Lib.hid s1
  have G1 := Lib.hid (G0.out.trans g1)
  clear c0 c1 c2 c3 c4 d0 d1 d2 d3 d4 s1 g1
  go_wp2
  go_end0
  refine ⟨rfl, v1, ?_, G1.out⟩
  have := S1.out
  first | exact this | simpa only [List.append_assoc, List.cons_append, List.nil_append, nam] using this

set_option maxHeartbeats 1600000 in
theorem m_str {w0 : World} {a : Option Addr} {m cap : Nat} {fv : Value} {l : List Nd} {i : Nat} {E U : Nat → Ps → List Tk} {v : Value} {ts : List Tk} (n : Nd) (ak : Option Addr) (ck : Nat) (p : Ps) (w : World) (hc : n.k = 3) (hv : Giv w0 a m cap fv l i n ak p E U) (hst : St w0 a m cap fv v ts w) (hl : ts.length + (body E U n p).length ≤ 1048576) :
    Calls Tryz.prog 310 #[.pointer (some ⟨w0.heap.size, 0, none⟩), .agg #[.int .i64 n.k, .int .i64 n.op, .string n.s, .string n.t, .slice ak n.kids.length ck], .agg #[.int .i64 p.l, .bool p.d, .bool p.i, .bool p.g, .bool p.s]] w (Put w0 a m cap fv v ts (body E U n p) w) := by
  obtain ⟨x0, s0, g0⟩ := Fm.start hst n ak ck p
  obtain ⟨c0, c1, c2, c3, c4, d0, d1, d2, d3, d4⟩ := x0.c
  have X0 := Lib.hid x0
  have S0 := Lib.hid s0
  have G0 := Lib.hid g0
  have HV := Lib.hid hv
  rw [body_3 hc] at hl ⊢
  clear x0 s0 g0 hv hst hc
  try simp only [List.length_append, List.length_cons, List.length_nil] at hl
  have L0 := Lib.hid (show (ts).length + ([nam 4 n.s]).length ≤ 1048576 by (try simp only [List.length_append, List.length_cons, List.length_nil]); omega)
  clear hl
  go_enter Tryz.func310, Tryz.ntmps310
  go_wp2_with fail
  refine (add_any 4 n.s _ (by have := L0.out; omega) S0.out).mono ?_
  rintro e w1 ⟨rfl, v1, s1, g1⟩
  have X1 := Lib.hid (X0.out.on g1)
  have S1 := Lib.hid s1
  have G1 := Lib.hid (G0.out.trans g1)
  clear c0 c1 c2 c3 c4 d0 d1 d2 d3 d4 s1 g1
  go_wp2
  go_end0
  refine ⟨rfl, v1, ?_, G1.out⟩
  have := S1.out
  first | exact this | simpa only [List.append_assoc, List.cons_append, List.nil_append, nam] using this

set_option maxHeartbeats 1600000 in
theorem m_ere {w0 : World} {a : Option Addr} {m cap : Nat} {fv : Value} {l : List Nd} {i : Nat} {E U : Nat → Ps → List Tk} {v : Value} {ts : List Tk} (n : Nd) (ak : Option Addr) (ck : Nat) (p : Ps) (w : World) (hc : n.k = 4) (hv : Giv w0 a m cap fv l i n ak p E U) (hst : St w0 a m cap fv v ts w) (hl : ts.length + (body E U n p).length ≤ 1048576) :
    Calls Tryz.prog 311 #[.pointer (some ⟨w0.heap.size, 0, none⟩), .agg #[.int .i64 n.k, .int .i64 n.op, .string n.s, .string n.t, .slice ak n.kids.length ck], .agg #[.int .i64 p.l, .bool p.d, .bool p.i, .bool p.g, .bool p.s]] w (Put w0 a m cap fv v ts (body E U n p) w) := by
  obtain ⟨x0, s0, g0⟩ := Fm.start hst n ak ck p
  obtain ⟨c0, c1, c2, c3, c4, d0, d1, d2, d3, d4⟩ := x0.c
  have X0 := Lib.hid x0
  have S0 := Lib.hid s0
  have G0 := Lib.hid g0
  have HV := Lib.hid hv
  rw [body_4 hc] at hl ⊢
  clear x0 s0 g0 hv hst hc
  try simp only [List.length_append, List.length_cons, List.length_nil] at hl
  have L0 := Lib.hid (show (ts).length + ([nam 5 n.s]).length ≤ 1048576 by (try simp only [List.length_append, List.length_cons, List.length_nil]); omega)
  clear hl
  go_enter Tryz.func311, Tryz.ntmps311
  go_wp2_with fail
  refine (add_any 5 n.s _ (by have := L0.out; omega) S0.out).mono ?_
  rintro e w1 ⟨rfl, v1, s1, g1⟩
  have X1 := Lib.hid (X0.out.on g1)
  have S1 := Lib.hid s1
  have G1 := Lib.hid (G0.out.trans g1)
  clear c0 c1 c2 c3 c4 d0 d1 d2 d3 d4 s1 g1
  go_wp2
  go_end0
  refine ⟨rfl, v1, ?_, G1.out⟩
  have := S1.out
  first | exact this | simpa only [List.append_assoc, List.cons_append, List.nil_append, nam] using this

set_option maxHeartbeats 1600000 in
theorem m_index {w0 : World} {a : Option Addr} {m cap : Nat} {fv : Value} {l : List Nd} {i : Nat} {E U : Nat → Ps → List Tk} {v : Value} {ts : List Tk} (n : Nd) (ak : Option Addr) (ck : Nat) (p : Ps) (w : World) (hc : n.k = 5) (hv : Giv w0 a m cap fv l i n ak p E U) (hst : St w0 a m cap fv v ts w) (hl : ts.length + (body E U n p).length ≤ 1048576) :
    Calls Tryz.prog 312 #[.pointer (some ⟨w0.heap.size, 0, none⟩), .agg #[.int .i64 n.k, .int .i64 n.op, .string n.s, .string n.t, .slice ak n.kids.length ck], .agg #[.int .i64 p.l, .bool p.d, .bool p.i, .bool p.g, .bool p.s]] w (Put w0 a m cap fv v ts (body E U n p) w) := by
  obtain ⟨x0, s0, g0⟩ := Fm.start hst n ak ck p
  obtain ⟨c0, c1, c2, c3, c4, d0, d1, d2, d3, d4⟩ := x0.c
  have X0 := Lib.hid x0
  have S0 := Lib.hid s0
  have G0 := Lib.hid g0
  have HV := Lib.hid hv
  rw [body_5 hc] at hl ⊢
  clear x0 s0 g0 hv hst hc
  try simp only [List.length_append, List.length_cons, List.length_nil] at hl
  have L0 := Lib.hid (show (ts).length + ([nam 6 n.s]).length ≤ 1048576 by (try simp only [List.length_append, List.length_cons, List.length_nil]); omega)
  have L1 := Lib.hid (show (ts ++ [nam 6 n.s]).length + (brack E n 34 35).length ≤ 1048576 by (try simp only [List.length_append, List.length_cons, List.length_nil]); omega)
  clear hl
  go_enter Tryz.func312, Tryz.ntmps312
  go_wp2_with fail
  refine (add_any 6 n.s _ (by have := L0.out; omega) S0.out).mono ?_
  rintro e w1 ⟨rfl, v1, s1, g1⟩
  have X1 := Lib.hid (X0.out.on g1)
  have S1 := Lib.hid s1
  have G1 := Lib.hid (G0.out.trans g1)
  clear c0 c1 c2 c3 c4 d0 d1 d2 d3 d4 s1 g1
  obtain ⟨c0, c1, c2, c3, c4, d0, d1, d2, d3, d4⟩ := X1.out.c
  go_wp2_with fail
  refine (list_any (E := E) n ak ck 34 35 _ HV.out.held HV.out.len (fun K hK => HV.out.kd hK) HV.out.row HV.out.e S1.out L1.out).mono ?_
  rintro e w2 ⟨rfl, v2, s2, g2⟩
  have X2 := Lib.hid (X1.out.on g2)
  have S2 := Lib.hid s2
  have G2 := Lib.hid (G1.out.trans g2)
  clear c0 c1 c2 c3 c4 d0 d1 d2 d3 d4 s2 g2
  go_wp2
  go_end0
  refine ⟨rfl, v2, ?_, G2.out⟩
  have := S2.out
  first | exact this | simpa only [List.append_assoc, List.cons_append, List.nil_append, nam] using this

set_option maxHeartbeats 1600000 in
theorem m_field {w0 : World} {a : Option Addr} {m cap : Nat} {fv : Value} {l : List Nd} {i : Nat} {E U : Nat → Ps → List Tk} {v : Value} {ts : List Tk} (n : Nd) (ak : Option Addr) (ck : Nat) (p : Ps) (w : World) (hc : n.k = 6) (hv : Giv w0 a m cap fv l i n ak p E U) (hst : St w0 a m cap fv v ts w) (hl : ts.length + (body E U n p).length ≤ 1048576) :
    Calls Tryz.prog 313 #[.pointer (some ⟨w0.heap.size, 0, none⟩), .agg #[.int .i64 n.k, .int .i64 n.op, .string n.s, .string n.t, .slice ak n.kids.length ck], .agg #[.int .i64 p.l, .bool p.d, .bool p.i, .bool p.g, .bool p.s]] w (Put w0 a m cap fv v ts (body E U n p) w) := by
  obtain ⟨x0, s0, g0⟩ := Fm.start hst n ak ck p
  obtain ⟨c0, c1, c2, c3, c4, d0, d1, d2, d3, d4⟩ := x0.c
  have X0 := Lib.hid x0
  have S0 := Lib.hid s0
  have G0 := Lib.hid g0
  have HV := Lib.hid hv
  have HK := Lib.hid (show n.kids.length = 1 from hv.good.one (.inl hc))
  rw [body_6 hc] at hl ⊢
  clear x0 s0 g0 hv hst hc
  try simp only [List.length_append, List.length_cons, List.length_nil] at hl
  have L0 := Lib.hid (show (ts).length + ([tok 68]).length ≤ 1048576 by (try simp only [List.length_append, List.length_cons, List.length_nil]); omega)
  have L1 := Lib.hid (show (ts ++ [tok 68]).length + (E (kd n 0) (kp n 0 p)).length ≤ 1048576 by (try simp only [List.length_append, List.length_cons, List.length_nil]); omega)
  clear hl
  go_enter Tryz.func313, Tryz.ntmps313
  go_wp2_with fail
  refine (symbol_any HV.out.held 68 _ (by have := L0.out; omega) S0.out).mono ?_
  rintro e w1 ⟨rfl, v1, s1, g1⟩
  have X1 := Lib.hid (X0.out.on g1)
  have S1 := Lib.hid s1
  have G1 := Lib.hid (G0.out.trans g1)
  clear c0 c1 c2 c3 c4 d0 d1 d2 d3 d4 s1 g1
  obtain ⟨c0, c1, c2, c3, c4, d0, d1, d2, d3, d4⟩ := X1.out.c
  go_wp2_with fail
  refine (kid_lit (F := E) n ak ck p 0 0 rfl (by have := HK.out; omega) _ HV.out.pos (HV.out.kp (by have := HK.out; omega)) HV.out.len (HV.out.kd (by have := HK.out; omega)) HV.out.row (HV.out.e 0 (by have := HK.out; omega)) S1.out L1.out).mono ?_
  rintro e w2 ⟨rfl, v2, s2, g2⟩
  have X2 := Lib.hid (X1.out.on g2)
  have S2 := Lib.hid s2
  have G2 := Lib.hid (G1.out.trans g2)
  clear c0 c1 c2 c3 c4 d0 d1 d2 d3 d4 s2 g2
  go_wp2
  go_end0
  refine ⟨rfl, v2, ?_, G2.out⟩
  have := S2.out
  first | exact this | simpa only [List.append_assoc, List.cons_append, List.nil_append, nam] using this

set_option maxHeartbeats 1600000 in
theorem m_call {w0 : World} {a : Option Addr} {m cap : Nat} {fv : Value} {l : List Nd} {i : Nat} {E U : Nat → Ps → List Tk} {v : Value} {ts : List Tk} (n : Nd) (ak : Option Addr) (ck : Nat) (p : Ps) (w : World) (hc : n.k = 7) (hv : Giv w0 a m cap fv l i n ak p E U) (hst : St w0 a m cap fv v ts w) (hl : ts.length + (body E U n p).length ≤ 1048576) :
    Calls Tryz.prog 314 #[.pointer (some ⟨w0.heap.size, 0, none⟩), .agg #[.int .i64 n.k, .int .i64 n.op, .string n.s, .string n.t, .slice ak n.kids.length ck], .agg #[.int .i64 p.l, .bool p.d, .bool p.i, .bool p.g, .bool p.s]] w (Put w0 a m cap fv v ts (body E U n p) w) := by
  obtain ⟨x0, s0, g0⟩ := Fm.start hst n ak ck p
  obtain ⟨c0, c1, c2, c3, c4, d0, d1, d2, d3, d4⟩ := x0.c
  have X0 := Lib.hid x0
  have S0 := Lib.hid s0
  have G0 := Lib.hid g0
  have HV := Lib.hid hv
  rw [body_7 hc] at hl ⊢
  clear x0 s0 g0 hv hst hc
  try simp only [List.length_append, List.length_cons, List.length_nil] at hl
  have L0 := Lib.hid (show (ts).length + ([nam 7 n.s]).length ≤ 1048576 by (try simp only [List.length_append, List.length_cons, List.length_nil]); omega)
  have L1 := Lib.hid (show (ts ++ [nam 7 n.s]).length + (brack E n 32 33).length ≤ 1048576 by (try simp only [List.length_append, List.length_cons, List.length_nil]); omega)
  clear hl
  go_enter Tryz.func314, Tryz.ntmps314
  go_wp2_with fail
  refine (add_any 7 n.s _ (by have := L0.out; omega) S0.out).mono ?_
  rintro e w1 ⟨rfl, v1, s1, g1⟩
  have X1 := Lib.hid (X0.out.on g1)
  have S1 := Lib.hid s1
  have G1 := Lib.hid (G0.out.trans g1)
  clear c0 c1 c2 c3 c4 d0 d1 d2 d3 d4 s1 g1
  obtain ⟨c0, c1, c2, c3, c4, d0, d1, d2, d3, d4⟩ := X1.out.c
  go_wp2_with fail
  refine (list_any (E := E) n ak ck 32 33 _ HV.out.held HV.out.len (fun K hK => HV.out.kd hK) HV.out.row HV.out.e S1.out L1.out).mono ?_
  rintro e w2 ⟨rfl, v2, s2, g2⟩
  have X2 := Lib.hid (X1.out.on g2)
  have S2 := Lib.hid s2
  have G2 := Lib.hid (G1.out.trans g2)
  clear c0 c1 c2 c3 c4 d0 d1 d2 d3 d4 s2 g2
  go_wp2
  go_end0
  refine ⟨rfl, v2, ?_, G2.out⟩
  have := S2.out
  first | exact this | simpa only [List.append_assoc, List.cons_append, List.nil_append, nam] using this

set_option maxHeartbeats 1600000 in
theorem m_builtin {w0 : World} {a : Option Addr} {m cap : Nat} {fv : Value} {l : List Nd} {i : Nat} {E U : Nat → Ps → List Tk} {v : Value} {ts : List Tk} (n : Nd) (ak : Option Addr) (ck : Nat) (p : Ps) (w : World) (hc : n.k = 8) (hv : Giv w0 a m cap fv l i n ak p E U) (hst : St w0 a m cap fv v ts w) (hl : ts.length + (body E U n p).length ≤ 1048576) :
    Calls Tryz.prog 315 #[.pointer (some ⟨w0.heap.size, 0, none⟩), .agg #[.int .i64 n.k, .int .i64 n.op, .string n.s, .string n.t, .slice ak n.kids.length ck], .agg #[.int .i64 p.l, .bool p.d, .bool p.i, .bool p.g, .bool p.s]] w (Put w0 a m cap fv v ts (body E U n p) w) := by
  obtain ⟨x0, s0, g0⟩ := Fm.start hst n ak ck p
  obtain ⟨c0, c1, c2, c3, c4, d0, d1, d2, d3, d4⟩ := x0.c
  have X0 := Lib.hid x0
  have S0 := Lib.hid s0
  have G0 := Lib.hid g0
  have HV := Lib.hid hv
  rw [body_8 hc] at hl ⊢
  clear x0 s0 g0 hv hst hc
  try simp only [List.length_append, List.length_cons, List.length_nil] at hl
  have L0 := Lib.hid (show (ts).length + ([nam 8 n.s]).length ≤ 1048576 by (try simp only [List.length_append, List.length_cons, List.length_nil]); omega)
  have L1 := Lib.hid (show (ts ++ [nam 8 n.s]).length + (brack E n 32 33).length ≤ 1048576 by (try simp only [List.length_append, List.length_cons, List.length_nil]); omega)
  clear hl
  go_enter Tryz.func315, Tryz.ntmps315
  go_wp2_with fail
  refine (add_any 8 n.s _ (by have := L0.out; omega) S0.out).mono ?_
  rintro e w1 ⟨rfl, v1, s1, g1⟩
  have X1 := Lib.hid (X0.out.on g1)
  have S1 := Lib.hid s1
  have G1 := Lib.hid (G0.out.trans g1)
  clear c0 c1 c2 c3 c4 d0 d1 d2 d3 d4 s1 g1
  obtain ⟨c0, c1, c2, c3, c4, d0, d1, d2, d3, d4⟩ := X1.out.c
  go_wp2_with fail
  refine (list_any (E := E) n ak ck 32 33 _ HV.out.held HV.out.len (fun K hK => HV.out.kd hK) HV.out.row HV.out.e S1.out L1.out).mono ?_
  rintro e w2 ⟨rfl, v2, s2, g2⟩
  have X2 := Lib.hid (X1.out.on g2)
  have S2 := Lib.hid s2
  have G2 := Lib.hid (G1.out.trans g2)
  clear c0 c1 c2 c3 c4 d0 d1 d2 d3 d4 s2 g2
  go_wp2
  go_end0
  refine ⟨rfl, v2, ?_, G2.out⟩
  have := S2.out
  first | exact this | simpa only [List.append_assoc, List.cons_append, List.nil_append, nam] using this

set_option maxHeartbeats 1600000 in
theorem m_pre {w0 : World} {a : Option Addr} {m cap : Nat} {fv : Value} {l : List Nd} {i : Nat} {E U : Nat → Ps → List Tk} {v : Value} {ts : List Tk} (n : Nd) (ak : Option Addr) (ck : Nat) (p : Ps) (w : World) (hc : n.k = 9) (hv : Giv w0 a m cap fv l i n ak p E U) (hst : St w0 a m cap fv v ts w) (hl : ts.length + (body E U n p).length ≤ 1048576) :
    Calls Tryz.prog 316 #[.pointer (some ⟨w0.heap.size, 0, none⟩), .agg #[.int .i64 n.k, .int .i64 n.op, .string n.s, .string n.t, .slice ak n.kids.length ck], .agg #[.int .i64 p.l, .bool p.d, .bool p.i, .bool p.g, .bool p.s]] w (Put w0 a m cap fv v ts (body E U n p) w) := by
  obtain ⟨x0, s0, g0⟩ := Fm.start hst n ak ck p
  obtain ⟨c0, c1, c2, c3, c4, d0, d1, d2, d3, d4⟩ := x0.c
  have X0 := Lib.hid x0
  have S0 := Lib.hid s0
  have G0 := Lib.hid g0
  have HV := Lib.hid hv
  have HK := Lib.hid (show n.kids.length = 1 from hv.good.one (.inr (.inl hc)))
  rw [body_9 hc] at hl ⊢
  clear x0 s0 g0 hv hst hc
  try simp only [List.length_append, List.length_cons, List.length_nil] at hl
  have L0 := Lib.hid (show (ts).length + ([tok n.op]).length ≤ 1048576 by (try simp only [List.length_append, List.length_cons, List.length_nil]); omega)
  have L1 := Lib.hid (show (ts ++ [tok n.op]).length + (U (kd n 0) (kp n 0 p)).length ≤ 1048576 by (try simp only [List.length_append, List.length_cons, List.length_nil]); omega)
  clear hl
  go_enter Tryz.func316, Tryz.ntmps316
  go_wp2_with fail
  refine (symbol_any HV.out.held n.op _ (by have := L0.out; omega) S0.out).mono ?_
  rintro e w1 ⟨rfl, v1, s1, g1⟩
  have X1 := Lib.hid (X0.out.on g1)
  have S1 := Lib.hid s1
  have G1 := Lib.hid (G0.out.trans g1)
  clear c0 c1 c2 c3 c4 d0 d1 d2 d3 d4 s1 g1
  obtain ⟨c0, c1, c2, c3, c4, d0, d1, d2, d3, d4⟩ := X1.out.c
  go_wp2_with fail
  refine (target_any (F := U) n ak ck p (by have := HK.out; omega) _ HV.out.pos (HV.out.kp (K := 0) (by have := HK.out; omega)) HV.out.len (HV.out.kd (by have := HK.out; omega)) HV.out.row (HV.out.u (by have := HK.out; omega)) S1.out L1.out).mono ?_
  rintro e w2 ⟨rfl, v2, s2, g2⟩
  have X2 := Lib.hid (X1.out.on g2)
  have S2 := Lib.hid s2
  have G2 := Lib.hid (G1.out.trans g2)
  clear c0 c1 c2 c3 c4 d0 d1 d2 d3 d4 s2 g2
  go_wp2
  go_end0
  refine ⟨rfl, v2, ?_, G2.out⟩
  have := S2.out
  first | exact this | simpa only [List.append_assoc, List.cons_append, List.nil_append, nam] using this

set_option maxHeartbeats 1600000 in
theorem m_post {w0 : World} {a : Option Addr} {m cap : Nat} {fv : Value} {l : List Nd} {i : Nat} {E U : Nat → Ps → List Tk} {v : Value} {ts : List Tk} (n : Nd) (ak : Option Addr) (ck : Nat) (p : Ps) (w : World) (hc : n.k = 10) (hv : Giv w0 a m cap fv l i n ak p E U) (hst : St w0 a m cap fv v ts w) (hl : ts.length + (body E U n p).length ≤ 1048576) :
    Calls Tryz.prog 317 #[.pointer (some ⟨w0.heap.size, 0, none⟩), .agg #[.int .i64 n.k, .int .i64 n.op, .string n.s, .string n.t, .slice ak n.kids.length ck], .agg #[.int .i64 p.l, .bool p.d, .bool p.i, .bool p.g, .bool p.s]] w (Put w0 a m cap fv v ts (body E U n p) w) := by
  obtain ⟨x0, s0, g0⟩ := Fm.start hst n ak ck p
  obtain ⟨c0, c1, c2, c3, c4, d0, d1, d2, d3, d4⟩ := x0.c
  have X0 := Lib.hid x0
  have S0 := Lib.hid s0
  have G0 := Lib.hid g0
  have HV := Lib.hid hv
  have HK := Lib.hid (show n.kids.length = 1 from hv.good.one (.inr (.inr (.inl hc))))
  rw [body_10 hc] at hl ⊢
  clear x0 s0 g0 hv hst hc
  try simp only [List.length_append, List.length_cons, List.length_nil] at hl
  have L0 := Lib.hid (show (ts).length + (U (kd n 0) (kp n 0 p)).length ≤ 1048576 by (try simp only [List.length_append, List.length_cons, List.length_nil]); omega)
  have L1 := Lib.hid (show (ts ++ U (kd n 0) (kp n 0 p)).length + ([tok n.op]).length ≤ 1048576 by (try simp only [List.length_append, List.length_cons, List.length_nil]); omega)
  clear hl
  go_enter Tryz.func317, Tryz.ntmps317
  go_wp2_with fail
  refine (target_any (F := U) n ak ck p (by have := HK.out; omega) _ HV.out.pos (HV.out.kp (K := 0) (by have := HK.out; omega)) HV.out.len (HV.out.kd (by have := HK.out; omega)) HV.out.row (HV.out.u (by have := HK.out; omega)) S0.out L0.out).mono ?_
  rintro e w1 ⟨rfl, v1, s1, g1⟩
  have X1 := Lib.hid (X0.out.on g1)
  have S1 := Lib.hid s1
  have G1 := Lib.hid (G0.out.trans g1)
  clear c0 c1 c2 c3 c4 d0 d1 d2 d3 d4 s1 g1
  obtain ⟨c0, c1, c2, c3, c4, d0, d1, d2, d3, d4⟩ := X1.out.c
  go_wp2_with fail
  refine (symbol_any HV.out.held n.op _ (by have := L1.out; omega) S1.out).mono ?_
  rintro e w2 ⟨rfl, v2, s2, g2⟩
  have X2 := Lib.hid (X1.out.on g2)
  have S2 := Lib.hid s2
  have G2 := Lib.hid (G1.out.trans g2)
  clear c0 c1 c2 c3 c4 d0 d1 d2 d3 d4 s2 g2
  go_wp2
  go_end0
  refine ⟨rfl, v2, ?_, G2.out⟩
  have := S2.out
  first | exact this | simpa only [List.append_assoc, List.cons_append, List.nil_append, nam] using this

set_option maxHeartbeats 1600000 in
theorem m_unary {w0 : World} {a : Option Addr} {m cap : Nat} {fv : Value} {l : List Nd} {i : Nat} {E U : Nat → Ps → List Tk} {v : Value} {ts : List Tk} (n : Nd) (ak : Option Addr) (ck : Nat) (p : Ps) (w : World) (hc : n.k = 11) (hv : Giv w0 a m cap fv l i n ak p E U) (hst : St w0 a m cap fv v ts w) (hl : ts.length + (body E U n p).length ≤ 1048576) :
    Calls Tryz.prog 318 #[.pointer (some ⟨w0.heap.size, 0, none⟩), .agg #[.int .i64 n.k, .int .i64 n.op, .string n.s, .string n.t, .slice ak n.kids.length ck], .agg #[.int .i64 p.l, .bool p.d, .bool p.i, .bool p.g, .bool p.s]] w (Put w0 a m cap fv v ts (body E U n p) w) := by
  obtain ⟨x0, s0, g0⟩ := Fm.start hst n ak ck p
  obtain ⟨c0, c1, c2, c3, c4, d0, d1, d2, d3, d4⟩ := x0.c
  have X0 := Lib.hid x0
  have S0 := Lib.hid s0
  have G0 := Lib.hid g0
  have HV := Lib.hid hv
  have HK := Lib.hid (show n.kids.length = 1 from hv.good.one (.inr (.inr (.inr hc))))
  rw [body_11 hc] at hl ⊢
  clear x0 s0 g0 hv hst hc
  try simp only [List.length_append, List.length_cons, List.length_nil] at hl
  have L0 := Lib.hid (show (ts).length + ([tok n.op]).length ≤ 1048576 by (try simp only [List.length_append, List.length_cons, List.length_nil]); omega)
  have L1 := Lib.hid (show (ts ++ [tok n.op]).length + (E (kd n 0) (kp n 0 p)).length ≤ 1048576 by (try simp only [List.length_append, List.length_cons, List.length_nil]); omega)
  clear hl
  go_enter Tryz.func318, Tryz.ntmps318
  go_wp2_with fail
  refine (symbol_any HV.out.held n.op _ (by have := L0.out; omega) S0.out).mono ?_
  rintro e w1 ⟨rfl, v1, s1, g1⟩
  have X1 := Lib.hid (X0.out.on g1)
  have S1 := Lib.hid s1
  have G1 := Lib.hid (G0.out.trans g1)
  clear c0 c1 c2 c3 c4 d0 d1 d2 d3 d4 s1 g1
  obtain ⟨c0, c1, c2, c3, c4, d0, d1, d2, d3, d4⟩ := X1.out.c
  go_wp2_with fail
  refine (kid_lit (F := E) n ak ck p 0 0 rfl (by have := HK.out; omega) _ HV.out.pos (HV.out.kp (by have := HK.out; omega)) HV.out.len (HV.out.kd (by have := HK.out; omega)) HV.out.row (HV.out.e 0 (by have := HK.out; omega)) S1.out L1.out).mono ?_
  rintro e w2 ⟨rfl, v2, s2, g2⟩
  have X2 := Lib.hid (X1.out.on g2)
  have S2 := Lib.hid s2
  have G2 := Lib.hid (G1.out.trans g2)
  clear c0 c1 c2 c3 c4 d0 d1 d2 d3 d4 s2 g2
  go_wp2
  go_end0
  refine ⟨rfl, v2, ?_, G2.out⟩
  have := S2.out
  first | exact this | simpa only [List.append_assoc, List.cons_append, List.nil_append, nam] using this

set_option maxHeartbeats 1600000 in
theorem m_binary {w0 : World} {a : Option Addr} {m cap : Nat} {fv : Value} {l : List Nd} {i : Nat} {E U : Nat → Ps → List Tk} {v : Value} {ts : List Tk} (n : Nd) (ak : Option Addr) (ck : Nat) (p : Ps) (w : World) (hc : n.k = 12) (hv : Giv w0 a m cap fv l i n ak p E U) (hst : St w0 a m cap fv v ts w) (hl : ts.length + (body E U n p).length ≤ 1048576) :
    Calls Tryz.prog 319 #[.pointer (some ⟨w0.heap.size, 0, none⟩), .agg #[.int .i64 n.k, .int .i64 n.op, .string n.s, .string n.t, .slice ak n.kids.length ck], .agg #[.int .i64 p.l, .bool p.d, .bool p.i, .bool p.g, .bool p.s]] w (Put w0 a m cap fv v ts (body E U n p) w) := by
  obtain ⟨x0, s0, g0⟩ := Fm.start hst n ak ck p
  obtain ⟨c0, c1, c2, c3, c4, d0, d1, d2, d3, d4⟩ := x0.c
  have X0 := Lib.hid x0
  have S0 := Lib.hid s0
  have G0 := Lib.hid g0
  have HV := Lib.hid hv
  have HK := Lib.hid (show n.kids.length = 2 from hv.good.two (.inl hc))
  rw [body_12 hc] at hl ⊢
  clear x0 s0 g0 hv hst hc
  by_cases hq : n.op = 99
  · rw [if_pos hq] at hl ⊢
    obtain ⟨q1, q2⟩ := rt.eq_facts hq
    try simp only [List.length_append, List.length_cons, List.length_nil] at hl
    have L0 := Lib.hid (show (ts).length + (E (kd n 0) (kp n 0 p)).length ≤ 1048576 by (try simp only [List.length_append, List.length_cons, List.length_nil]); omega)
    have L1 := Lib.hid (show (ts ++ E (kd n 0) (kp n 0 p)).length + (E (kd n 1) (kp n 1 p)).length ≤ 1048576 by (try simp only [List.length_append, List.length_cons, List.length_nil]); omega)
    clear hl hq
    go_enter Tryz.func319, Tryz.ntmps319
    go_wp2_with fail
    refine (kid_lit (F := E) n ak ck p 0 0 rfl (by have := HK.out; omega) _ HV.out.pos (HV.out.kp (by have := HK.out; omega)) HV.out.len (HV.out.kd (by have := HK.out; omega)) HV.out.row (HV.out.e 0 (by have := HK.out; omega)) S0.out L0.out).mono ?_
    rintro e w1 ⟨rfl, v1, s1, g1⟩
    have X1 := Lib.hid (X0.out.on g1)
    have S1 := Lib.hid s1
    have G1 := Lib.hid (G0.out.trans g1)
    clear c0 c1 c2 c3 c4 d0 d1 d2 d3 d4 s1 g1
    obtain ⟨c0, c1, c2, c3, c4, d0, d1, d2, d3, d4⟩ := X1.out.c
    go_wp2_with fail
    refine (kid_lit (F := E) n ak ck p 1 1 rfl (by have := HK.out; omega) _ HV.out.pos (HV.out.kp (by have := HK.out; omega)) HV.out.len (HV.out.kd (by have := HK.out; omega)) HV.out.row (HV.out.e 1 (by have := HK.out; omega)) S1.out L1.out).mono ?_
    rintro e w2 ⟨rfl, v2, s2, g2⟩
    have X2 := Lib.hid (X1.out.on g2)
    have S2 := Lib.hid s2
    have G2 := Lib.hid (G1.out.trans g2)
    clear c0 c1 c2 c3 c4 d0 d1 d2 d3 d4 s2 g2
    go_wp2
    go_end0
    refine ⟨rfl, v2, ?_, G2.out⟩
    have := S2.out
    first | exact this | simpa only [List.append_assoc, List.cons_append, List.nil_append, nam] using this
  · rw [if_neg hq] at hl ⊢
    obtain ⟨q1, q2⟩ := rt.ne_facts hq
    try simp only [List.length_append, List.length_cons, List.length_nil] at hl
    have L0 := Lib.hid (show (ts).length + (E (kd n 0) (kp n 0 p)).length ≤ 1048576 by (try simp only [List.length_append, List.length_cons, List.length_nil]); omega)
    have L1 := Lib.hid (show (ts ++ E (kd n 0) (kp n 0 p)).length + ([tok n.op]).length ≤ 1048576 by (try simp only [List.length_append, List.length_cons, List.length_nil]); omega)
    have L2 := Lib.hid (show (ts ++ E (kd n 0) (kp n 0 p) ++ [tok n.op]).length + (E (kd n 1) (kp n 1 p)).length ≤ 1048576 by (try simp only [List.length_append, List.length_cons, List.length_nil]); omega)
    clear hl hq
    go_enter Tryz.func319, Tryz.ntmps319
    go_wp2_with fail
    refine (kid_lit (F := E) n ak ck p 0 0 rfl (by have := HK.out; omega) _ HV.out.pos (HV.out.kp (by have := HK.out; omega)) HV.out.len (HV.out.kd (by have := HK.out; omega)) HV.out.row (HV.out.e 0 (by have := HK.out; omega)) S0.out L0.out).mono ?_
    rintro e w1 ⟨rfl, v1, s1, g1⟩
    have X1 := Lib.hid (X0.out.on g1)
    have S1 := Lib.hid s1
    have G1 := Lib.hid (G0.out.trans g1)
    clear c0 c1 c2 c3 c4 d0 d1 d2 d3 d4 s1 g1
    obtain ⟨c0, c1, c2, c3, c4, d0, d1, d2, d3, d4⟩ := X1.out.c
    go_wp2_with fail
    refine (symbol_any HV.out.held n.op _ (by have := L1.out; omega) S1.out).mono ?_
    rintro e w2 ⟨rfl, v2, s2, g2⟩
    have X2 := Lib.hid (X1.out.on g2)
    have S2 := Lib.hid s2
    have G2 := Lib.hid (G1.out.trans g2)
    clear c0 c1 c2 c3 c4 d0 d1 d2 d3 d4 s2 g2
    obtain ⟨c0, c1, c2, c3, c4, d0, d1, d2, d3, d4⟩ := X2.out.c
    go_wp2_with fail
    refine (kid_lit (F := E) n ak ck p 1 1 rfl (by have := HK.out; omega) _ HV.out.pos (HV.out.kp (by have := HK.out; omega)) HV.out.len (HV.out.kd (by have := HK.out; omega)) HV.out.row (HV.out.e 1 (by have := HK.out; omega)) S2.out L2.out).mono ?_
    rintro e w3 ⟨rfl, v3, s3, g3⟩
    have X3 := Lib.hid (X2.out.on g3)
    have S3 := Lib.hid s3
    have G3 := Lib.hid (G2.out.trans g3)
    clear c0 c1 c2 c3 c4 d0 d1 d2 d3 d4 s3 g3
    go_wp2
    go_end0
    refine ⟨rfl, v3, ?_, G3.out⟩
    have := S3.out
    first | exact this | simpa only [List.append_assoc, List.cons_append, List.nil_append, nam] using this

set_option maxHeartbeats 1600000 in
theorem m_in {w0 : World} {a : Option Addr} {m cap : Nat} {fv : Value} {l : List Nd} {i : Nat} {E U : Nat → Ps → List Tk} {v : Value} {ts : List Tk} (n : Nd) (ak : Option Addr) (ck : Nat) (p : Ps) (w : World) (hc : n.k = 13) (hv : Giv w0 a m cap fv l i n ak p E U) (hst : St w0 a m cap fv v ts w) (hl : ts.length + (body E U n p).length ≤ 1048576) :
    Calls Tryz.prog 320 #[.pointer (some ⟨w0.heap.size, 0, none⟩), .agg #[.int .i64 n.k, .int .i64 n.op, .string n.s, .string n.t, .slice ak n.kids.length ck], .agg #[.int .i64 p.l, .bool p.d, .bool p.i, .bool p.g, .bool p.s]] w (Put w0 a m cap fv v ts (body E U n p) w) := by
  obtain ⟨x0, s0, g0⟩ := Fm.start hst n ak ck p
  obtain ⟨c0, c1, c2, c3, c4, d0, d1, d2, d3, d4⟩ := x0.c
  have X0 := Lib.hid x0
  have S0 := Lib.hid s0
  have G0 := Lib.hid g0
  have HV := Lib.hid hv
  have HK := Lib.hid (hv.good.least (.inr hc))
  rw [body_13 hc] at hl ⊢
  clear x0 s0 g0 hv hst hc
  by_cases hq : 1 < n.kids.length
  · rw [if_pos hq] at hl ⊢
    have q1 : (1 : Int) < (n.kids.length : Int) := by omega
    have q3 : n.kids.length ≤ 1048576 := HV.out.len
    try simp only [List.length_append, List.length_cons, List.length_nil] at hl
    have L0 := Lib.hid (show (ts).length + (brack E n 32 33).length ≤ 1048576 by (try simp only [List.length_append, List.length_cons, List.length_nil]); omega)
    have L1 := Lib.hid (show (ts ++ brack E n 32 33).length + ([tok 24]).length ≤ 1048576 by (try simp only [List.length_append, List.length_cons, List.length_nil]); omega)
    have L2 := Lib.hid (show (ts ++ brack E n 32 33 ++ [tok 24]).length + ([nam 6 n.s]).length ≤ 1048576 by (try simp only [List.length_append, List.length_cons, List.length_nil]); omega)
    clear hl hq
    go_enter Tryz.func320, Tryz.ntmps320
    go_wp2_with fail
    refine (list_any (E := E) n ak ck 32 33 _ HV.out.held HV.out.len (fun K hK => HV.out.kd hK) HV.out.row HV.out.e S0.out L0.out).mono ?_
    rintro e w1 ⟨rfl, v1, s1, g1⟩
    have X1 := Lib.hid (X0.out.on g1)
    have S1 := Lib.hid s1
    have G1 := Lib.hid (G0.out.trans g1)
    clear c0 c1 c2 c3 c4 d0 d1 d2 d3 d4 s1 g1
    obtain ⟨c0, c1, c2, c3, c4, d0, d1, d2, d3, d4⟩ := X1.out.c
    go_wp2_with fail
    refine (symbol_any HV.out.held 24 _ (by have := L1.out; omega) S1.out).mono ?_
    rintro e w2 ⟨rfl, v2, s2, g2⟩
    have X2 := Lib.hid (X1.out.on g2)
    have S2 := Lib.hid s2
    have G2 := Lib.hid (G1.out.trans g2)
    clear c0 c1 c2 c3 c4 d0 d1 d2 d3 d4 s2 g2
    obtain ⟨c0, c1, c2, c3, c4, d0, d1, d2, d3, d4⟩ := X2.out.c
    go_wp2_with fail
    refine (add_any 6 n.s _ (by have := L2.out; omega) S2.out).mono ?_
    rintro e w3 ⟨rfl, v3, s3, g3⟩
    have X3 := Lib.hid (X2.out.on g3)
    have S3 := Lib.hid s3
    have G3 := Lib.hid (G2.out.trans g3)
    clear c0 c1 c2 c3 c4 d0 d1 d2 d3 d4 s3 g3
    go_wp2
    go_end0
    refine ⟨rfl, v3, ?_, G3.out⟩
    have := S3.out
    first | exact this | simpa only [List.append_assoc, List.cons_append, List.nil_append, nam] using this
  · rw [if_neg hq] at hl ⊢
    have q1 : ¬ (1 : Int) < (n.kids.length : Int) := by omega
    have q3 : n.kids.length ≤ 1048576 := HV.out.len
    try simp only [List.length_append, List.length_cons, List.length_nil] at hl
    have L0 := Lib.hid (show (ts).length + (E (kd n 0) (kp n 0 p)).length ≤ 1048576 by (try simp only [List.length_append, List.length_cons, List.length_nil]); omega)
    have L1 := Lib.hid (show (ts ++ E (kd n 0) (kp n 0 p)).length + ([tok 24]).length ≤ 1048576 by (try simp only [List.length_append, List.length_cons, List.length_nil]); omega)
    have L2 := Lib.hid (show (ts ++ E (kd n 0) (kp n 0 p) ++ [tok 24]).length + ([nam 6 n.s]).length ≤ 1048576 by (try simp only [List.length_append, List.length_cons, List.length_nil]); omega)
    clear hl hq
    go_enter Tryz.func320, Tryz.ntmps320
    go_wp2_with fail
    refine (kid_lit (F := E) n ak ck p 0 0 rfl (by have := HK.out; omega) _ HV.out.pos (HV.out.kp (by have := HK.out; omega)) HV.out.len (HV.out.kd (by have := HK.out; omega)) HV.out.row (HV.out.e 0 (by have := HK.out; omega)) S0.out L0.out).mono ?_
    rintro e w1 ⟨rfl, v1, s1, g1⟩
    have X1 := Lib.hid (X0.out.on g1)
    have S1 := Lib.hid s1
    have G1 := Lib.hid (G0.out.trans g1)
    clear c0 c1 c2 c3 c4 d0 d1 d2 d3 d4 s1 g1
    obtain ⟨c0, c1, c2, c3, c4, d0, d1, d2, d3, d4⟩ := X1.out.c
    go_wp2_with fail
    refine (symbol_any HV.out.held 24 _ (by have := L1.out; omega) S1.out).mono ?_
    rintro e w2 ⟨rfl, v2, s2, g2⟩
    have X2 := Lib.hid (X1.out.on g2)
    have S2 := Lib.hid s2
    have G2 := Lib.hid (G1.out.trans g2)
    clear c0 c1 c2 c3 c4 d0 d1 d2 d3 d4 s2 g2
    obtain ⟨c0, c1, c2, c3, c4, d0, d1, d2, d3, d4⟩ := X2.out.c
    go_wp2_with fail
    refine (add_any 6 n.s _ (by have := L2.out; omega) S2.out).mono ?_
    rintro e w3 ⟨rfl, v3, s3, g3⟩
    have X3 := Lib.hid (X2.out.on g3)
    have S3 := Lib.hid s3
    have G3 := Lib.hid (G2.out.trans g3)
    clear c0 c1 c2 c3 c4 d0 d1 d2 d3 d4 s3 g3
    go_wp2
    go_end0
    refine ⟨rfl, v3, ?_, G3.out⟩
    have := S3.out
    first | exact this | simpa only [List.append_assoc, List.cons_append, List.nil_append, nam] using this

set_option maxHeartbeats 1600000 in
theorem m_cond {w0 : World} {a : Option Addr} {m cap : Nat} {fv : Value} {l : List Nd} {i : Nat} {E U : Nat → Ps → List Tk} {v : Value} {ts : List Tk} (n : Nd) (ak : Option Addr) (ck : Nat) (p : Ps) (w : World) (hc : n.k = 14) (hv : Giv w0 a m cap fv l i n ak p E U) (hst : St w0 a m cap fv v ts w) (hl : ts.length + (body E U n p).length ≤ 1048576) :
    Calls Tryz.prog 321 #[.pointer (some ⟨w0.heap.size, 0, none⟩), .agg #[.int .i64 n.k, .int .i64 n.op, .string n.s, .string n.t, .slice ak n.kids.length ck], .agg #[.int .i64 p.l, .bool p.d, .bool p.i, .bool p.g, .bool p.s]] w (Put w0 a m cap fv v ts (body E U n p) w) := by
  obtain ⟨x0, s0, g0⟩ := Fm.start hst n ak ck p
  obtain ⟨c0, c1, c2, c3, c4, d0, d1, d2, d3, d4⟩ := x0.c
  have X0 := Lib.hid x0
  have S0 := Lib.hid s0
  have G0 := Lib.hid g0
  have HV := Lib.hid hv
  have HK := Lib.hid (show n.kids.length = 3 from hv.good.three hc)
  rw [body_14 hc] at hl ⊢
  clear x0 s0 g0 hv hst hc
  try simp only [List.length_append, List.length_cons, List.length_nil] at hl
  have L0 := Lib.hid (show (ts).length + (E (kd n 0) (kp n 0 p)).length ≤ 1048576 by (try simp only [List.length_append, List.length_cons, List.length_nil]); omega)
  have L1 := Lib.hid (show (ts ++ E (kd n 0) (kp n 0 p)).length + ([tok 65]).length ≤ 1048576 by (try simp only [List.length_append, List.length_cons, List.length_nil]); omega)
  have L2 := Lib.hid (show (ts ++ E (kd n 0) (kp n 0 p) ++ [tok 65]).length + (E (kd n 1) (kp n 1 p)).length ≤ 1048576 by (try simp only [List.length_append, List.length_cons, List.length_nil]); omega)
  have L3 := Lib.hid (show (ts ++ E (kd n 0) (kp n 0 p) ++ [tok 65] ++ E (kd n 1) (kp n 1 p)).length + ([tok 66]).length ≤ 1048576 by (try simp only [List.length_append, List.length_cons, List.length_nil]); omega)
  have L4 := Lib.hid (show (ts ++ E (kd n 0) (kp n 0 p) ++ [tok 65] ++ E (kd n 1) (kp n 1 p) ++ [tok 66]).length + (E (kd n 2) (kp n 2 p)).length ≤ 1048576 by (try simp only [List.length_append, List.length_cons, List.length_nil]); omega)
  clear hl
  go_enter Tryz.func321, Tryz.ntmps321
  go_wp2_with fail
  refine (kid_lit (F := E) n ak ck p 0 0 rfl (by have := HK.out; omega) _ HV.out.pos (HV.out.kp (by have := HK.out; omega)) HV.out.len (HV.out.kd (by have := HK.out; omega)) HV.out.row (HV.out.e 0 (by have := HK.out; omega)) S0.out L0.out).mono ?_
  rintro e w1 ⟨rfl, v1, s1, g1⟩
  have X1 := Lib.hid (X0.out.on g1)
  have S1 := Lib.hid s1
  have G1 := Lib.hid (G0.out.trans g1)
  clear c0 c1 c2 c3 c4 d0 d1 d2 d3 d4 s1 g1
  obtain ⟨c0, c1, c2, c3, c4, d0, d1, d2, d3, d4⟩ := X1.out.c
  go_wp2_with fail
  refine (symbol_any HV.out.held 65 _ (by have := L1.out; omega) S1.out).mono ?_
  rintro e w2 ⟨rfl, v2, s2, g2⟩
  have X2 := Lib.hid (X1.out.on g2)
  have S2 := Lib.hid s2
  have G2 := Lib.hid (G1.out.trans g2)
  clear c0 c1 c2 c3 c4 d0 d1 d2 d3 d4 s2 g2
  obtain ⟨c0, c1, c2, c3, c4, d0, d1, d2, d3, d4⟩ := X2.out.c
  go_wp2_with fail
  refine (kid_lit (F := E) n ak ck p 1 1 rfl (by have := HK.out; omega) _ HV.out.pos (HV.out.kp (by have := HK.out; omega)) HV.out.len (HV.out.kd (by have := HK.out; omega)) HV.out.row (HV.out.e 1 (by have := HK.out; omega)) S2.out L2.out).mono ?_
  rintro e w3 ⟨rfl, v3, s3, g3⟩
  have X3 := Lib.hid (X2.out.on g3)
  have S3 := Lib.hid s3
  have G3 := Lib.hid (G2.out.trans g3)
  clear c0 c1 c2 c3 c4 d0 d1 d2 d3 d4 s3 g3
  obtain ⟨c0, c1, c2, c3, c4, d0, d1, d2, d3, d4⟩ := X3.out.c
  go_wp2_with fail
  refine (symbol_any HV.out.held 66 _ (by have := L3.out; omega) S3.out).mono ?_
  rintro e w4 ⟨rfl, v4, s4, g4⟩
  have X4 := Lib.hid (X3.out.on g4)
  have S4 := Lib.hid s4
  have G4 := Lib.hid (G3.out.trans g4)
  clear c0 c1 c2 c3 c4 d0 d1 d2 d3 d4 s4 g4
  obtain ⟨c0, c1, c2, c3, c4, d0, d1, d2, d3, d4⟩ := X4.out.c
  go_wp2_with fail
  refine (kid_lit (F := E) n ak ck p 2 2 rfl (by have := HK.out; omega) _ HV.out.pos (HV.out.kp (by have := HK.out; omega)) HV.out.len (HV.out.kd (by have := HK.out; omega)) HV.out.row (HV.out.e 2 (by have := HK.out; omega)) S4.out L4.out).mono ?_
  rintro e w5 ⟨rfl, v5, s5, g5⟩
  have X5 := Lib.hid (X4.out.on g5)
  have S5 := Lib.hid s5
  have G5 := Lib.hid (G4.out.trans g5)
  clear c0 c1 c2 c3 c4 d0 d1 d2 d3 d4 s5 g5
  go_wp2
  go_end0
  refine ⟨rfl, v5, ?_, G5.out⟩
  have := S5.out
  first | exact this | simpa only [List.append_assoc, List.cons_append, List.nil_append, nam] using this

set_option maxHeartbeats 1600000 in
theorem m_assign {w0 : World} {a : Option Addr} {m cap : Nat} {fv : Value} {l : List Nd} {i : Nat} {E U : Nat → Ps → List Tk} {v : Value} {ts : List Tk} (n : Nd) (ak : Option Addr) (ck : Nat) (p : Ps) (w : World) (hc : n.k = 15) (hv : Giv w0 a m cap fv l i n ak p E U) (hst : St w0 a m cap fv v ts w) (hl : ts.length + (body E U n p).length ≤ 1048576) :
    Calls Tryz.prog 322 #[.pointer (some ⟨w0.heap.size, 0, none⟩), .agg #[.int .i64 n.k, .int .i64 n.op, .string n.s, .string n.t, .slice ak n.kids.length ck], .agg #[.int .i64 p.l, .bool p.d, .bool p.i, .bool p.g, .bool p.s]] w (Put w0 a m cap fv v ts (body E U n p) w) := by
  obtain ⟨x0, s0, g0⟩ := Fm.start hst n ak ck p
  obtain ⟨c0, c1, c2, c3, c4, d0, d1, d2, d3, d4⟩ := x0.c
  have X0 := Lib.hid x0
  have S0 := Lib.hid s0
  have G0 := Lib.hid g0
  have HV := Lib.hid hv
  have HK := Lib.hid (show n.kids.length = 2 from hv.good.two (.inr hc))
  rw [body_15 hc] at hl ⊢
  clear x0 s0 g0 hv hst hc
  try simp only [List.length_append, List.length_cons, List.length_nil] at hl
  have L0 := Lib.hid (show (ts).length + (U (kd n 0) (kp n 0 p)).length ≤ 1048576 by (try simp only [List.length_append, List.length_cons, List.length_nil]); omega)
  have L1 := Lib.hid (show (ts ++ U (kd n 0) (kp n 0 p)).length + ([tok n.op]).length ≤ 1048576 by (try simp only [List.length_append, List.length_cons, List.length_nil]); omega)
  have L2 := Lib.hid (show (ts ++ U (kd n 0) (kp n 0 p) ++ [tok n.op]).length + (E (kd n 1) (kp n 1 p)).length ≤ 1048576 by (try simp only [List.length_append, List.length_cons, List.length_nil]); omega)
  clear hl
  go_enter Tryz.func322, Tryz.ntmps322
  go_wp2_with fail
  refine (target_any (F := U) n ak ck p (by have := HK.out; omega) _ HV.out.pos (HV.out.kp (K := 0) (by have := HK.out; omega)) HV.out.len (HV.out.kd (by have := HK.out; omega)) HV.out.row (HV.out.u (by have := HK.out; omega)) S0.out L0.out).mono ?_
  rintro e w1 ⟨rfl, v1, s1, g1⟩
  have X1 := Lib.hid (X0.out.on g1)
  have S1 := Lib.hid s1
  have G1 := Lib.hid (G0.out.trans g1)
  clear c0 c1 c2 c3 c4 d0 d1 d2 d3 d4 s1 g1
  obtain ⟨c0, c1, c2, c3, c4, d0, d1, d2, d3, d4⟩ := X1.out.c
  go_wp2_with fail
  refine (symbol_any HV.out.held n.op _ (by have := L1.out; omega) S1.out).mono ?_
  rintro e w2 ⟨rfl, v2, s2, g2⟩
  have X2 := Lib.hid (X1.out.on g2)
  have S2 := Lib.hid s2
  have G2 := Lib.hid (G1.out.trans g2)
  clear c0 c1 c2 c3 c4 d0 d1 d2 d3 d4 s2 g2
  obtain ⟨c0, c1, c2, c3, c4, d0, d1, d2, d3, d4⟩ := X2.out.c
  go_wp2_with fail
  refine (kid_lit (F := E) n ak ck p 1 1 rfl (by have := HK.out; omega) _ HV.out.pos (HV.out.kp (by have := HK.out; omega)) HV.out.len (HV.out.kd (by have := HK.out; omega)) HV.out.row (HV.out.e 1 (by have := HK.out; omega)) S2.out L2.out).mono ?_
  rintro e w3 ⟨rfl, v3, s3, g3⟩
  have X3 := Lib.hid (X2.out.on g3)
  have S3 := Lib.hid s3
  have G3 := Lib.hid (G2.out.trans g3)
  clear c0 c1 c2 c3 c4 d0 d1 d2 d3 d4 s3 g3
  go_wp2
  go_end0
  refine ⟨rfl, v3, ?_, G3.out⟩
  have := S3.out
  first | exact this | simpa only [List.append_assoc, List.cons_append, List.nil_append, nam] using this
end Go.Proofs.YtiilpnoaocfjgaaGreatDoor.tw

namespace Go.Proofs.YtiilpnoaocfjgaaGreatDoor.tw
open Go.ChangeShapes Go.WideShapes Go.ChangeAt Go.RowKit
open tk (Tk)
open own
open nd (Nd Ints)
open ps (Ps posOk kidI top)
open spell (Held)
open et
set_option linter.unusedVariables false
set_option maxRecDepth 20000

/-- What is read in expr: the writer's box, a node, the position. -/
structure Ex (b bl o g : Nat) (a : Option Addr) (m cap : Nat) (fv v : Value) (n : Nd) (ak : Option Addr) (ck : Nat) (q : Ps) (w : World) : Prop where
  x0 : w.cell? ⟨b, 0, none⟩ = some (.slice a m cap)
  x1 : w.cell? ⟨b, 1, none⟩ = some fv
  x2 : w.cell? ⟨b, 2, none⟩ = some v
  y0 : w.cell? ⟨bl, o, none⟩ = some (.int .i64 n.k)
  y1 : w.cell? ⟨bl, o + 1, none⟩ = some (.int .i64 n.op)
  y2 : w.cell? ⟨bl, o + 2, none⟩ = some (.string n.s)
  y3 : w.cell? ⟨bl, o + 3, none⟩ = some (.string n.t)
  y4 : w.cell? ⟨bl, o + 4, none⟩ = some (.slice ak n.kids.length ck)
  z0 : w.cell? ⟨g, 0, none⟩ = some (.int .i64 q.l)
  z1 : w.cell? ⟨g, 1, none⟩ = some (.bool q.d)
  z2 : w.cell? ⟨g, 2, none⟩ = some (.bool q.i)
  z3 : w.cell? ⟨g, 3, none⟩ = some (.bool q.g)
  z4 : w.cell? ⟨g, 4, none⟩ = some (.bool q.s)
  lt : b < w.heap.size ∧ bl < w.heap.size ∧ g < w.heap.size

section
variable {b bl o g : Nat} {a : Option Addr} {m cap : Nat} {fv v : Value} {n : Nd} {ak : Option Addr} {ck : Nat} {q : Ps} {w w' : World}
theorem Ex.c (h : Ex b bl o g a m cap fv v n ak ck q w) : w.cell? ⟨b, 0, none⟩ = some (.slice a m cap) ∧ w.cell? ⟨b, 1, none⟩ = some fv ∧ w.cell? ⟨b, 2, none⟩ = some v ∧ w.cell? ⟨bl, o, none⟩ = some (.int .i64 n.k) ∧ w.cell? ⟨bl, o + 1, none⟩ = some (.int .i64 n.op) ∧ w.cell? ⟨bl, o + 2, none⟩ = some (.string n.s) ∧ w.cell? ⟨bl, o + 3, none⟩ = some (.string n.t) ∧ w.cell? ⟨bl, o + 4, none⟩ = some (.slice ak n.kids.length ck) ∧ w.cell? ⟨g, 0, none⟩ = some (.int .i64 q.l) ∧ w.cell? ⟨g, 1, none⟩ = some (.bool q.d) ∧ w.cell? ⟨g, 2, none⟩ = some (.bool q.i) ∧ w.cell? ⟨g, 3, none⟩ = some (.bool q.g) ∧ w.cell? ⟨g, 4, none⟩ = some (.bool q.s) :=
  ⟨h.x0, h.x1, h.x2, h.y0, h.y1, h.y2, h.y3, h.y4, h.z0, h.z1, h.z2, h.z3, h.z4⟩
theorem Ex.keep (h : Ex b bl o g a m cap fv v n ak ck q w) (hb : Below w.heap.size w w') : Ex b bl o g a m cap fv v n ak ck q w' :=
  ⟨(hb.cell (p := ⟨b, 0, none⟩) h.lt.1).trans h.x0, (hb.cell (p := ⟨b, 1, none⟩) h.lt.1).trans h.x1, (hb.cell (p := ⟨b, 2, none⟩) h.lt.1).trans h.x2,
    (hb.cell (p := ⟨bl, o, none⟩) h.lt.2.1).trans h.y0, (hb.cell (p := ⟨bl, o + 1, none⟩) h.lt.2.1).trans h.y1, (hb.cell (p := ⟨bl, o + 2, none⟩) h.lt.2.1).trans h.y2, (hb.cell (p := ⟨bl, o + 3, none⟩) h.lt.2.1).trans h.y3, (hb.cell (p := ⟨bl, o + 4, none⟩) h.lt.2.1).trans h.y4,
    (hb.cell (p := ⟨g, 0, none⟩) h.lt.2.2).trans h.z0, (hb.cell (p := ⟨g, 1, none⟩) h.lt.2.2).trans h.z1, (hb.cell (p := ⟨g, 2, none⟩) h.lt.2.2).trans h.z2, (hb.cell (p := ⟨g, 3, none⟩) h.lt.2.2).trans h.z3, (hb.cell (p := ⟨g, 4, none⟩) h.lt.2.2).trans h.z4,
    ⟨Nat.lt_of_lt_of_le h.lt.1 hb.size, Nat.lt_of_lt_of_le h.lt.2.1 hb.size, Nat.lt_of_lt_of_le h.lt.2.2 hb.size⟩⟩
theorem Ex.drew (h : Ex b bl o g a m cap fv v n ak ck q w) : Ex b bl o g a m cap fv v n ak ck q w.drew := h.keep ((Below.refl _ _).drew)
end
theorem Ex.start {w0 : World} {a : Option Addr} {m cap : Nat} {fv v : Value} {ts : List Tk} {w : World} (hst : St w0 a m cap fv v ts w) {bl o : Nat} {n : Nd} {ak : Option Addr} {ck : Nat} (h5 : nd.Five w0 bl o n ak ck) (hb : bl < w0.heap.size) (q : Ps) :
    Ex w0.heap.size bl o w.heap.size a m cap fv v n ak ck q (w.alloc (.cells #[.int .i64 q.l, .bool q.d, .bool q.i, .bool q.g, .bool q.s] 26)) := by
  obtain ⟨x0, x1, x2⟩ := (hst.alloc (.cells #[.int .i64 q.l, .bool q.d, .bool q.i, .bool q.g, .bool q.s] 26)).c
  obtain ⟨y0, y1, y2, y3, y4⟩ := h5.keep (hst.alloc (.cells #[.int .i64 q.l, .bool q.d, .bool q.i, .bool q.g, .bool q.s] 26)).bel hb
  have hn := heap_alloc_new w (.cells #[.int .i64 q.l, .bool q.d, .bool q.i, .bool q.g, .bool q.s] 26)
  have := hst.lt
  exact ⟨x0, x1, x2, y0, y1, y2, y3, y4, by rw [cell_of_row _ _ 0 _ _ _ hn]; rfl, by rw [cell_of_row _ _ 1 _ _ _ hn]; rfl, by rw [cell_of_row _ _ 2 _ _ _ hn]; rfl, by rw [cell_of_row _ _ 3 _ _ _ hn]; rfl, by rw [cell_of_row _ _ 4 _ _ _ hn]; rfl, by simp; omega⟩

set_option maxHeartbeats 1600000 in
theorem expr_mis {w0 : World} {a : Option Addr} {m cap : Nat} {l : List Nd} {U : Nat → Ps → List Tk} (i : Nat) (n : Nd) (hh : Held w0) (hm : m = l.length) (hmx : m ≤ 1048576) (hi : i < m) (hn : l.getD i default = n) (hc : nd.Lies w0.heap.size w0 a l)
    (hU : CallE 151 w0 a m cap (.func (.func 82) #[] #[]) i (U i)) : CallE 83 w0 a m cap (.func (.func 82) #[] #[]) i (par mis l U i) := by
  intro q hq v ts w hst hl
  have hil : i < l.length := hm ▸ hi
  rw [getD_at hil] at hn
  obtain ⟨bl, ol, rfl, hbl, hnode⟩ := nd.lies_at hc hil
  obtain ⟨ak, ck, h5, hik⟩ := hnode i hil
  rw [hn] at h5 hik
  have hpar : par mis l U i q = if mis n q = true then tok 32 :: (U i top ++ [tok 33]) else U i q := by unfold par; rw [getD_at hil, hn]
  rw [hpar] at hl ⊢
  have X0 := Ex.start hst h5 hbl q
  have HX := Lib.hid X0
  have HS := Lib.hid (hst.alloc (.cells #[.int .i64 q.l, .bool q.d, .bool q.i, .bool q.g, .bool q.s] 26))
  have HG := Lib.hid (show Gr w0.heap.size v v w (w.alloc (.cells #[.int .i64 q.l, .bool q.d, .bool q.i, .bool q.g, .bool q.s] 26)) from Gr.quiet ((Below.refl _ _).alloc (Nat.le_refl _) _))
  have Y0 := Lib.hid X0.drew.c
  have HU := Lib.hid hU
  have HH := Lib.hid hh
  have HQ := Lib.hid hq
  obtain ⟨C, hC⟩ : ∃ C, mis n q = C := ⟨_, rfl⟩
  rw [hC] at hl ⊢
  have HC := Lib.hid hC
  have HL := Lib.hid hl
  have hk1 : (0 : Int) ≤ (i : Int) := by omega
  have hk2 : (i : Int) < (m : Int) := by omega
  clear hU hh hst hl hC X0 h5 hik hnode hc hpar hn hm hi hil hq
  obtain ⟨W0, hW0⟩ : ∃ W, W = w.alloc (.cells #[.int .i64 q.l, .bool q.d, .bool q.i, .bool q.g, .bool q.s] 26) := ⟨_, rfl⟩
  cases C
  · have HL2 := Lib.hid (show ts.length + (U i q).length ≤ 1048576 from HL.out)
    go_enter Tryz.func83, Tryz.ntmps83
    go_wp2_with fail
    rw [← hW0] at HX HS HG Y0 ⊢
    clear hW0
    go_region_held3 (fun w' => w'.cell? ⟨w0.heap.size, 0, none⟩ = some (.slice (some ⟨bl, ol, none⟩) m cap) ∧ w'.cell? ⟨w0.heap.size, 1, none⟩ = some (.func (.func 82) #[] #[]) ∧ w'.cell? ⟨w0.heap.size, 2, none⟩ = some v ∧ w'.cell? ⟨bl, ol + i * 5, none⟩ = some (.int .i64 n.k) ∧ w'.cell? ⟨bl, ol + i * 5 + 1, none⟩ = some (.int .i64 n.op) ∧ w'.cell? ⟨bl, ol + i * 5 + 2, none⟩ = some (.string n.s) ∧ w'.cell? ⟨bl, ol + i * 5 + 3, none⟩ = some (.string n.t) ∧ w'.cell? ⟨bl, ol + i * 5 + 4, none⟩ = some (.slice ak n.kids.length ck) ∧ w'.cell? ⟨w.heap.size, 0, none⟩ = some (.int .i64 q.l) ∧ w'.cell? ⟨w.heap.size, 1, none⟩ = some (.bool q.d) ∧ w'.cell? ⟨w.heap.size, 2, none⟩ = some (.bool q.i) ∧ w'.cell? ⟨w.heap.size, 3, none⟩ = some (.bool q.g) ∧ w'.cell? ⟨w.heap.size, 4, none⟩ = some (.bool q.s))
      (first | with_reducible exact Y0.out | with_reducible exact X1.out.c)
      (first | (go_at_call 82; refine (misfits_any n ak ck q _).mono ?_; rw [HC.out]; rintro e w1 ⟨rfl, b1⟩; have X1 := Lib.hid (HX.out.keep (undrew b1)); have S1 := Lib.hid (HS.out.keep (undrew b1)); have G1 := Lib.hid (HG.out.trans (Gr.quiet (undrew b1))); clear b1))
    obtain ⟨-, -, -, -, -, -, -, -, p0, p1, p2, p3, p4⟩ := X1.out.c
    go_wp2_with (go_at_call 151; refine (HU.out q HQ.out _ _ _ S1.out HL2.out).mono ?_; rintro e w2 ⟨rfl, hput⟩; have HP := Lib.hid hput; clear hput)
    go_end0
    obtain ⟨v2, s2, g2⟩ := HP.out
    exact ⟨rfl, v2, s2, G1.out.trans g2⟩
  · have HL2 := Lib.hid (show ts.length + (tok 32 :: (U i top ++ [tok 33])).length ≤ 1048576 from HL.out)
    simp only [List.length_cons, List.length_append, List.length_nil] at HL2
    go_enter Tryz.func83, Tryz.ntmps83
    go_wp2_with fail
    rw [← hW0] at HX HS HG Y0 ⊢
    clear hW0
    go_region_held3 (fun w' => w'.cell? ⟨w0.heap.size, 0, none⟩ = some (.slice (some ⟨bl, ol, none⟩) m cap) ∧ w'.cell? ⟨w0.heap.size, 1, none⟩ = some (.func (.func 82) #[] #[]) ∧ w'.cell? ⟨w0.heap.size, 2, none⟩ = some v ∧ w'.cell? ⟨bl, ol + i * 5, none⟩ = some (.int .i64 n.k) ∧ w'.cell? ⟨bl, ol + i * 5 + 1, none⟩ = some (.int .i64 n.op) ∧ w'.cell? ⟨bl, ol + i * 5 + 2, none⟩ = some (.string n.s) ∧ w'.cell? ⟨bl, ol + i * 5 + 3, none⟩ = some (.string n.t) ∧ w'.cell? ⟨bl, ol + i * 5 + 4, none⟩ = some (.slice ak n.kids.length ck) ∧ w'.cell? ⟨w.heap.size, 0, none⟩ = some (.int .i64 q.l) ∧ w'.cell? ⟨w.heap.size, 1, none⟩ = some (.bool q.d) ∧ w'.cell? ⟨w.heap.size, 2, none⟩ = some (.bool q.i) ∧ w'.cell? ⟨w.heap.size, 3, none⟩ = some (.bool q.g) ∧ w'.cell? ⟨w.heap.size, 4, none⟩ = some (.bool q.s))
      (first | with_reducible exact Y0.out | with_reducible exact X1.out.c)
      (first | (go_at_call 82; refine (misfits_any n ak ck q _).mono ?_; rw [HC.out]; rintro e w1 ⟨rfl, b1⟩; have X1 := Lib.hid (HX.out.keep (undrew b1)); have S1 := Lib.hid (HS.out.keep (undrew b1)); have G1 := Lib.hid (HG.out.trans (Gr.quiet (undrew b1))); clear b1))
    have L1 := Lib.hid (show ts.length ≤ 1048576 by have := HL2.out; omega)
    have L2 := Lib.hid (show (ts ++ [tok 32]).length + (U i top).length ≤ 1048576 by have := HL2.out; simp only [List.length_cons, List.length_append, List.length_nil]; omega)
    have L3 := Lib.hid (show (ts ++ [tok 32] ++ U i top).length ≤ 1048576 by have := HL2.out; simp only [List.length_cons, List.length_append, List.length_nil]; omega)
    go_wp2_with fail
    refine (symbol_any HH.out 32 _ L1.out S1.out).mono ?_
    rintro e w2 ⟨rfl, v2, s2, g2⟩
    have S2 := Lib.hid s2
    have G2 := Lib.hid (G1.out.trans g2)
    clear s2 g2
    go_wp2_with fail
    refine (ps.impl_top _).mono ?_
    rintro e w3 ⟨rfl, b3⟩
    have S3 := Lib.hid (S2.out.keep b3)
    have G3 := Lib.hid (G2.out.trans (Gr.quiet b3))
    clear b3
    go_wp2_with fail
    refine (HU.out top top_ok _ _ _ S3.out L2.out).mono ?_
    rintro e w4 ⟨rfl, v4, s4, g4⟩
    have S4 := Lib.hid s4
    have G4 := Lib.hid (G3.out.trans g4)
    clear s4 g4
    go_wp2_with fail
    refine (symbol_any HH.out 33 _ L3.out S4.out).mono ?_
    rintro e w5 ⟨rfl, v5, s5, g5⟩
    have S5 := Lib.hid s5
    have G5 := Lib.hid (G4.out.trans g5)
    clear s5 g5
    go_wp2
    go_end0
    refine ⟨rfl, v5, ?_, G5.out⟩
    have := S5.out
    simpa only [List.append_assoc, List.cons_append, List.nil_append, if_pos] using this

set_option maxHeartbeats 1600000 in
theorem expr_full {w0 : World} {a : Option Addr} {m cap : Nat} {l : List Nd} {U : Nat → Ps → List Tk} (i : Nat) (n : Nd) (hh : Held w0) (hm : m = l.length) (hmx : m ≤ 1048576) (hi : i < m) (hn : l.getD i default = n) (hc : nd.Lies w0.heap.size w0 a l)
    (hU : CallE 151 w0 a m cap (.func (.func 87) #[] #[]) i (U i)) : CallE 83 w0 a m cap (.func (.func 87) #[] #[]) i (par full l U i) := by
  intro q hq v ts w hst hl
  have hil : i < l.length := hm ▸ hi
  rw [getD_at hil] at hn
  obtain ⟨bl, ol, rfl, hbl, hnode⟩ := nd.lies_at hc hil
  obtain ⟨ak, ck, h5, hik⟩ := hnode i hil
  rw [hn] at h5 hik
  have hpar : par full l U i q = if full n q = true then tok 32 :: (U i top ++ [tok 33]) else U i q := by unfold par; rw [getD_at hil, hn]
  rw [hpar] at hl ⊢
  have X0 := Ex.start hst h5 hbl q
  have HX := Lib.hid X0
  have HS := Lib.hid (hst.alloc (.cells #[.int .i64 q.l, .bool q.d, .bool q.i, .bool q.g, .bool q.s] 26))
  have HG := Lib.hid (show Gr w0.heap.size v v w (w.alloc (.cells #[.int .i64 q.l, .bool q.d, .bool q.i, .bool q.g, .bool q.s] 26)) from Gr.quiet ((Below.refl _ _).alloc (Nat.le_refl _) _))
  have Y0 := Lib.hid X0.drew.c
  have HU := Lib.hid hU
  have HH := Lib.hid hh
  have HQ := Lib.hid hq
  obtain ⟨C, hC⟩ : ∃ C, full n q = C := ⟨_, rfl⟩
  rw [hC] at hl ⊢
  have HC := Lib.hid hC
  have HL := Lib.hid hl
  have hk1 : (0 : Int) ≤ (i : Int) := by omega
  have hk2 : (i : Int) < (m : Int) := by omega
  clear hU hh hst hl hC X0 h5 hik hnode hc hpar hn hm hi hil hq
  obtain ⟨W0, hW0⟩ : ∃ W, W = w.alloc (.cells #[.int .i64 q.l, .bool q.d, .bool q.i, .bool q.g, .bool q.s] 26) := ⟨_, rfl⟩
  cases C
  · have HL2 := Lib.hid (show ts.length + (U i q).length ≤ 1048576 from HL.out)
    go_enter Tryz.func83, Tryz.ntmps83
    go_wp2_with fail
    rw [← hW0] at HX HS HG Y0 ⊢
    clear hW0
    go_region_held3 (fun w' => w'.cell? ⟨w0.heap.size, 0, none⟩ = some (.slice (some ⟨bl, ol, none⟩) m cap) ∧ w'.cell? ⟨w0.heap.size, 1, none⟩ = some (.func (.func 87) #[] #[]) ∧ w'.cell? ⟨w0.heap.size, 2, none⟩ = some v ∧ w'.cell? ⟨bl, ol + i * 5, none⟩ = some (.int .i64 n.k) ∧ w'.cell? ⟨bl, ol + i * 5 + 1, none⟩ = some (.int .i64 n.op) ∧ w'.cell? ⟨bl, ol + i * 5 + 2, none⟩ = some (.string n.s) ∧ w'.cell? ⟨bl, ol + i * 5 + 3, none⟩ = some (.string n.t) ∧ w'.cell? ⟨bl, ol + i * 5 + 4, none⟩ = some (.slice ak n.kids.length ck) ∧ w'.cell? ⟨w.heap.size, 0, none⟩ = some (.int .i64 q.l) ∧ w'.cell? ⟨w.heap.size, 1, none⟩ = some (.bool q.d) ∧ w'.cell? ⟨w.heap.size, 2, none⟩ = some (.bool q.i) ∧ w'.cell? ⟨w.heap.size, 3, none⟩ = some (.bool q.g) ∧ w'.cell? ⟨w.heap.size, 4, none⟩ = some (.bool q.s))
      (first | with_reducible exact Y0.out | with_reducible exact X1.out.c)
      (first | (go_at_call 87; refine (full_any n ak ck q _).mono ?_; rw [HC.out]; rintro e w1 ⟨rfl, b1⟩; have X1 := Lib.hid (HX.out.keep (undrew b1)); have S1 := Lib.hid (HS.out.keep (undrew b1)); have G1 := Lib.hid (HG.out.trans (Gr.quiet (undrew b1))); clear b1))
    obtain ⟨-, -, -, -, -, -, -, -, p0, p1, p2, p3, p4⟩ := X1.out.c
    go_wp2_with (go_at_call 151; refine (HU.out q HQ.out _ _ _ S1.out HL2.out).mono ?_; rintro e w2 ⟨rfl, hput⟩; have HP := Lib.hid hput; clear hput)
    go_end0
    obtain ⟨v2, s2, g2⟩ := HP.out
    exact ⟨rfl, v2, s2, G1.out.trans g2⟩
  · have HL2 := Lib.hid (show ts.length + (tok 32 :: (U i top ++ [tok 33])).length ≤ 1048576 from HL.out)
    simp only [List.length_cons, List.length_append, List.length_nil] at HL2
    go_enter Tryz.func83, Tryz.ntmps83
    go_wp2_with fail
    rw [← hW0] at HX HS HG Y0 ⊢
    clear hW0
    go_region_held3 (fun w' => w'.cell? ⟨w0.heap.size, 0, none⟩ = some (.slice (some ⟨bl, ol, none⟩) m cap) ∧ w'.cell? ⟨w0.heap.size, 1, none⟩ = some (.func (.func 87) #[] #[]) ∧ w'.cell? ⟨w0.heap.size, 2, none⟩ = some v ∧ w'.cell? ⟨bl, ol + i * 5, none⟩ = some (.int .i64 n.k) ∧ w'.cell? ⟨bl, ol + i * 5 + 1, none⟩ = some (.int .i64 n.op) ∧ w'.cell? ⟨bl, ol + i * 5 + 2, none⟩ = some (.string n.s) ∧ w'.cell? ⟨bl, ol + i * 5 + 3, none⟩ = some (.string n.t) ∧ w'.cell? ⟨bl, ol + i * 5 + 4, none⟩ = some (.slice ak n.kids.length ck) ∧ w'.cell? ⟨w.heap.size, 0, none⟩ = some (.int .i64 q.l) ∧ w'.cell? ⟨w.heap.size, 1, none⟩ = some (.bool q.d) ∧ w'.cell? ⟨w.heap.size, 2, none⟩ = some (.bool q.i) ∧ w'.cell? ⟨w.heap.size, 3, none⟩ = some (.bool q.g) ∧ w'.cell? ⟨w.heap.size, 4, none⟩ = some (.bool q.s))
      (first | with_reducible exact Y0.out | with_reducible exact X1.out.c)
      (first | (go_at_call 87; refine (full_any n ak ck q _).mono ?_; rw [HC.out]; rintro e w1 ⟨rfl, b1⟩; have X1 := Lib.hid (HX.out.keep (undrew b1)); have S1 := Lib.hid (HS.out.keep (undrew b1)); have G1 := Lib.hid (HG.out.trans (Gr.quiet (undrew b1))); clear b1))
    have L1 := Lib.hid (show ts.length ≤ 1048576 by have := HL2.out; omega)
    have L2 := Lib.hid (show (ts ++ [tok 32]).length + (U i top).length ≤ 1048576 by have := HL2.out; simp only [List.length_cons, List.length_append, List.length_nil]; omega)
    have L3 := Lib.hid (show (ts ++ [tok 32] ++ U i top).length ≤ 1048576 by have := HL2.out; simp only [List.length_cons, List.length_append, List.length_nil]; omega)
    go_wp2_with fail
    refine (symbol_any HH.out 32 _ L1.out S1.out).mono ?_
    rintro e w2 ⟨rfl, v2, s2, g2⟩
    have S2 := Lib.hid s2
    have G2 := Lib.hid (G1.out.trans g2)
    clear s2 g2
    go_wp2_with fail
    refine (ps.impl_top _).mono ?_
    rintro e w3 ⟨rfl, b3⟩
    have S3 := Lib.hid (S2.out.keep b3)
    have G3 := Lib.hid (G2.out.trans (Gr.quiet b3))
    clear b3
    go_wp2_with fail
    refine (HU.out top top_ok _ _ _ S3.out L2.out).mono ?_
    rintro e w4 ⟨rfl, v4, s4, g4⟩
    have S4 := Lib.hid s4
    have G4 := Lib.hid (G3.out.trans g4)
    clear s4 g4
    go_wp2_with fail
    refine (symbol_any HH.out 33 _ L3.out S4.out).mono ?_
    rintro e w5 ⟨rfl, v5, s5, g5⟩
    have S5 := Lib.hid s5
    have G5 := Lib.hid (G4.out.trans g5)
    clear s5 g5
    go_wp2
    go_end0
    refine ⟨rfl, v5, ?_, G5.out⟩
    have := S5.out
    simpa only [List.append_assoc, List.cons_append, List.nil_append, if_pos] using this
end Go.Proofs.YtiilpnoaocfjgaaGreatDoor.tw

namespace Go.Proofs.YtiilpnoaocfjgaaGreatDoor.tw
open Go.ChangeShapes Go.WideShapes Go.ChangeAt Go.RowKit
open tk (Tk)
open own
open nd (Nd Ints)
open ps (Ps posOk kidI top)
open spell (Held)
open et
set_option linter.unusedVariables false
set_option linter.unusedSimpArgs false
set_option maxRecDepth 20000

theorem of_name (x : Value) (k : Int) (hk : k = 1) (w : World) : Calls Tryz.prog 237 #[x, .int .i64 k] w fun e w' => e = .returned (.func (.func 323) #[x] #[]) ∧ w = w' := by
  subst hk
  have hmf : ∀ (fn : Fn) (first cap : Array Value) (w : World), (Instr.makeFunc fn first cap).run Tryz.prog w = .ok (.func fn first cap) w := fun _ _ _ _ => rfl
  go_enter Tryz.func237, Tryz.ntmps237
  go_wp2
  go_ret
  exact ⟨rfl, rfl⟩

theorem of_number (x : Value) (k : Int) (hk : k = 2) (w : World) : Calls Tryz.prog 237 #[x, .int .i64 k] w fun e w' => e = .returned (.func (.func 309) #[x] #[]) ∧ w = w' := by
  subst hk
  have hmf : ∀ (fn : Fn) (first cap : Array Value) (w : World), (Instr.makeFunc fn first cap).run Tryz.prog w = .ok (.func fn first cap) w := fun _ _ _ _ => rfl
  go_enter Tryz.func237, Tryz.ntmps237
  go_wp2
  go_ret
  exact ⟨rfl, rfl⟩

theorem of_str (x : Value) (k : Int) (hk : k = 3) (w : World) : Calls Tryz.prog 237 #[x, .int .i64 k] w fun e w' => e = .returned (.func (.func 310) #[x] #[]) ∧ w = w' := by
  subst hk
  have hmf : ∀ (fn : Fn) (first cap : Array Value) (w : World), (Instr.makeFunc fn first cap).run Tryz.prog w = .ok (.func fn first cap) w := fun _ _ _ _ => rfl
  go_enter Tryz.func237, Tryz.ntmps237
  go_wp2
  go_ret
  exact ⟨rfl, rfl⟩

theorem of_ere (x : Value) (k : Int) (hk : k = 4) (w : World) : Calls Tryz.prog 237 #[x, .int .i64 k] w fun e w' => e = .returned (.func (.func 311) #[x] #[]) ∧ w = w' := by
  subst hk
  have hmf : ∀ (fn : Fn) (first cap : Array Value) (w : World), (Instr.makeFunc fn first cap).run Tryz.prog w = .ok (.func fn first cap) w := fun _ _ _ _ => rfl
  go_enter Tryz.func237, Tryz.ntmps237
  go_wp2
  go_ret
  exact ⟨rfl, rfl⟩

theorem of_index (x : Value) (k : Int) (hk : k = 5) (w : World) : Calls Tryz.prog 237 #[x, .int .i64 k] w fun e w' => e = .returned (.func (.func 312) #[x] #[]) ∧ w = w' := by
  subst hk
  have hmf : ∀ (fn : Fn) (first cap : Array Value) (w : World), (Instr.makeFunc fn first cap).run Tryz.prog w = .ok (.func fn first cap) w := fun _ _ _ _ => rfl
  go_enter Tryz.func237, Tryz.ntmps237
  go_wp2
  go_ret
  exact ⟨rfl, rfl⟩

theorem of_field (x : Value) (k : Int) (hk : k = 6) (w : World) : Calls Tryz.prog 237 #[x, .int .i64 k] w fun e w' => e = .returned (.func (.func 313) #[x] #[]) ∧ w = w' := by
  subst hk
  have hmf : ∀ (fn : Fn) (first cap : Array Value) (w : World), (Instr.makeFunc fn first cap).run Tryz.prog w = .ok (.func fn first cap) w := fun _ _ _ _ => rfl
  go_enter Tryz.func237, Tryz.ntmps237
  go_wp2
  go_ret
  exact ⟨rfl, rfl⟩

theorem of_call (x : Value) (k : Int) (hk : k = 7) (w : World) : Calls Tryz.prog 237 #[x, .int .i64 k] w fun e w' => e = .returned (.func (.func 314) #[x] #[]) ∧ w = w' := by
  subst hk
  have hmf : ∀ (fn : Fn) (first cap : Array Value) (w : World), (Instr.makeFunc fn first cap).run Tryz.prog w = .ok (.func fn first cap) w := fun _ _ _ _ => rfl
  go_enter Tryz.func237, Tryz.ntmps237
  go_wp2
  go_ret
  exact ⟨rfl, rfl⟩

theorem of_builtin (x : Value) (k : Int) (hk : k = 8) (w : World) : Calls Tryz.prog 237 #[x, .int .i64 k] w fun e w' => e = .returned (.func (.func 315) #[x] #[]) ∧ w = w' := by
  subst hk
  have hmf : ∀ (fn : Fn) (first cap : Array Value) (w : World), (Instr.makeFunc fn first cap).run Tryz.prog w = .ok (.func fn first cap) w := fun _ _ _ _ => rfl
  go_enter Tryz.func237, Tryz.ntmps237
  go_wp2
  go_ret
  exact ⟨rfl, rfl⟩

theorem of_pre (x : Value) (k : Int) (hk : k = 9) (w : World) : Calls Tryz.prog 237 #[x, .int .i64 k] w fun e w' => e = .returned (.func (.func 316) #[x] #[]) ∧ w = w' := by
  subst hk
  have hmf : ∀ (fn : Fn) (first cap : Array Value) (w : World), (Instr.makeFunc fn first cap).run Tryz.prog w = .ok (.func fn first cap) w := fun _ _ _ _ => rfl
  go_enter Tryz.func237, Tryz.ntmps237
  go_wp2
  go_ret
  exact ⟨rfl, rfl⟩

theorem of_post (x : Value) (k : Int) (hk : k = 10) (w : World) : Calls Tryz.prog 237 #[x, .int .i64 k] w fun e w' => e = .returned (.func (.func 317) #[x] #[]) ∧ w = w' := by
  subst hk
  have hmf : ∀ (fn : Fn) (first cap : Array Value) (w : World), (Instr.makeFunc fn first cap).run Tryz.prog w = .ok (.func fn first cap) w := fun _ _ _ _ => rfl
  go_enter Tryz.func237, Tryz.ntmps237
  go_wp2
  go_ret
  exact ⟨rfl, rfl⟩

theorem of_unary (x : Value) (k : Int) (hk : k = 11) (w : World) : Calls Tryz.prog 237 #[x, .int .i64 k] w fun e w' => e = .returned (.func (.func 318) #[x] #[]) ∧ w = w' := by
  subst hk
  have hmf : ∀ (fn : Fn) (first cap : Array Value) (w : World), (Instr.makeFunc fn first cap).run Tryz.prog w = .ok (.func fn first cap) w := fun _ _ _ _ => rfl
  go_enter Tryz.func237, Tryz.ntmps237
  go_wp2
  go_ret
  exact ⟨rfl, rfl⟩

theorem of_binary (x : Value) (k : Int) (hk : k = 12) (w : World) : Calls Tryz.prog 237 #[x, .int .i64 k] w fun e w' => e = .returned (.func (.func 319) #[x] #[]) ∧ w = w' := by
  subst hk
  have hmf : ∀ (fn : Fn) (first cap : Array Value) (w : World), (Instr.makeFunc fn first cap).run Tryz.prog w = .ok (.func fn first cap) w := fun _ _ _ _ => rfl
  go_enter Tryz.func237, Tryz.ntmps237
  go_wp2
  go_ret
  exact ⟨rfl, rfl⟩

theorem of_in (x : Value) (k : Int) (hk : k = 13) (w : World) : Calls Tryz.prog 237 #[x, .int .i64 k] w fun e w' => e = .returned (.func (.func 320) #[x] #[]) ∧ w = w' := by
  subst hk
  have hmf : ∀ (fn : Fn) (first cap : Array Value) (w : World), (Instr.makeFunc fn first cap).run Tryz.prog w = .ok (.func fn first cap) w := fun _ _ _ _ => rfl
  go_enter Tryz.func237, Tryz.ntmps237
  go_wp2
  go_ret
  exact ⟨rfl, rfl⟩

theorem of_cond (x : Value) (k : Int) (hk : k = 14) (w : World) : Calls Tryz.prog 237 #[x, .int .i64 k] w fun e w' => e = .returned (.func (.func 321) #[x] #[]) ∧ w = w' := by
  subst hk
  have hmf : ∀ (fn : Fn) (first cap : Array Value) (w : World), (Instr.makeFunc fn first cap).run Tryz.prog w = .ok (.func fn first cap) w := fun _ _ _ _ => rfl
  go_enter Tryz.func237, Tryz.ntmps237
  go_wp2
  go_ret
  exact ⟨rfl, rfl⟩

theorem of_assign (x : Value) (k : Int) (hk : k = 15) (w : World) : Calls Tryz.prog 237 #[x, .int .i64 k] w fun e w' => e = .returned (.func (.func 322) #[x] #[]) ∧ w = w' := by
  subst hk
  have hmf : ∀ (fn : Fn) (first cap : Array Value) (w : World), (Instr.makeFunc fn first cap).run Tryz.prog w = .ok (.func fn first cap) w := fun _ _ _ _ => rfl
  go_enter Tryz.func237, Tryz.ntmps237
  go_wp2
  go_ret
  exact ⟨rfl, rfl⟩

set_option maxHeartbeats 1600000 in
theorem un_name {w0 : World} {a : Option Addr} {m cap : Nat} {fv : Value} {l : List Nd} {i : Nat} {E U : Nat → Ps → List Tk} (n : Nd) (hc : n.k = 1) (hmx : m ≤ 1048576) (hi : i < m) (bl ol : Nat) (ha : a = some ⟨bl, ol, none⟩) (hbl : bl < w0.heap.size) (ak : Option Addr) (ck : Nat) (h5 : nd.Five w0 bl (ol + i * 5) n ak ck)
    (hv : ∀ p : Ps, posOk p.l p.d = true → Giv w0 a m cap fv l i n ak p E U) : CallE 151 w0 a m cap fv i (fun q => body E U n q) := by
  subst ha
  intro q hq v ts w hst hl
  have HV := Lib.hid (hv q hq)
  have X0 := Ex.start hst h5 hbl q
  obtain ⟨x0, x1, x2, y0, y1, y2, y3, y4, z0, z1, z2, z3, z4⟩ := X0.c
  have HX := Lib.hid X0
  have HS := Lib.hid (hst.alloc (.cells #[.int .i64 q.l, .bool q.d, .bool q.i, .bool q.g, .bool q.s] 26))
  have HG := Lib.hid (show Gr w0.heap.size v v w (w.alloc (.cells #[.int .i64 q.l, .bool q.d, .bool q.i, .bool q.g, .bool q.s] 26)) from Gr.quiet ((Below.refl _ _).alloc (Nat.le_refl _) _))
  have HL := Lib.hid hl
  have HC := Lib.hid hc
  have hk1 : (0 : Int) ≤ (i : Int) := by omega
  have hk2 : (i : Int) < (m : Int) := by omega
  clear hl hst hv h5 X0 hc hi hq
  go_enter Tryz.func151, Tryz.ntmps151
  go_wp2_with fail
  refine (of_name _ _ HC.out _).mono ?_
  rintro e w1 ⟨rfl, rfl⟩
  go_wp2_with fail
  refine (m_name n ak ck q _ HC.out HV.out (HS.out.alloc _) HL.out).mono ?_
  rintro e w2 ⟨rfl, v2, s2, g2⟩
  have S2 := Lib.hid s2
  have G2 := Lib.hid (HG.out.trans ((Gr.quiet ((Below.refl _ _).alloc (Nat.le_refl _) _)).trans g2))
  clear s2 g2
  go_wp2
  go_end0
  exact ⟨rfl, v2, S2.out, G2.out⟩

set_option maxHeartbeats 1600000 in
theorem un_number {w0 : World} {a : Option Addr} {m cap : Nat} {fv : Value} {l : List Nd} {i : Nat} {E U : Nat → Ps → List Tk} (n : Nd) (hc : n.k = 2) (hmx : m ≤ 1048576) (hi : i < m) (bl ol : Nat) (ha : a = some ⟨bl, ol, none⟩) (hbl : bl < w0.heap.size) (ak : Option Addr) (ck : Nat) (h5 : nd.Five w0 bl (ol + i * 5) n ak ck)
    (hv : ∀ p : Ps, posOk p.l p.d = true → Giv w0 a m cap fv l i n ak p E U) : CallE 151 w0 a m cap fv i (fun q => body E U n q) := by
  subst ha
  intro q hq v ts w hst hl
  have HV := Lib.hid (hv q hq)
  have X0 := Ex.start hst h5 hbl q
  obtain ⟨x0, x1, x2, y0, y1, y2, y3, y4, z0, z1, z2, z3, z4⟩ := X0.c
  have HX := Lib.hid X0
  have HS := Lib.hid (hst.alloc (.cells #[.int .i64 q.l, .bool q.d, .bool q.i, .bool q.g, .bool q.s] 26))
  have HG := Lib.hid (show Gr w0.heap.size v v w (w.alloc (.cells #[.int .i64 q.l, .bool q.d, .bool q.i, .bool q.g, .bool q.s] 26)) from Gr.quiet ((Below.refl _ _).alloc (Nat.le_refl _) _))
  have HL := Lib.hid hl
  have HC := Lib.hid hc
  have hk1 : (0 : Int) ≤ (i : Int) := by omega
  have hk2 : (i : Int) < (m : Int) := by omega
  clear hl hst hv h5 X0 hc hi hq
  go_enter Tryz.func151, Tryz.ntmps151
  go_wp2_with fail
  refine (of_number _ _ HC.out _).mono ?_
  rintro e w1 ⟨rfl, rfl⟩
  go_wp2_with fail
  refine (m_number n ak ck q _ HC.out HV.out (HS.out.alloc _) HL.out).mono ?_
  rintro e w2 ⟨rfl, v2, s2, g2⟩
  have S2 := Lib.hid s2
  have G2 := Lib.hid (HG.out.trans ((Gr.quiet ((Below.refl _ _).alloc (Nat.le_refl _) _)).trans g2))
  clear s2 g2
  go_wp2
  go_end0
  exact ⟨rfl, v2, S2.out, G2.out⟩

set_option maxHeartbeats 1600000 in
theorem un_str {w0 : World} {a : Option Addr} {m cap : Nat} {fv : Value} {l : List Nd} {i : Nat} {E U : Nat → Ps → List Tk} (n : Nd) (hc : n.k = 3) (hmx : m ≤ 1048576) (hi : i < m) (bl ol : Nat) (ha : a = some ⟨bl, ol, none⟩) (hbl : bl < w0.heap.size) (ak : Option Addr) (ck : Nat) (h5 : nd.Five w0 bl (ol + i * 5) n ak ck)
    (hv : ∀ p : Ps, posOk p.l p.d = true → Giv w0 a m cap fv l i n ak p E U) : CallE 151 w0 a m cap fv i (fun q => body E U n q) := by
  subst ha
  intro q hq v ts w hst hl
  have HV := Lib.hid (hv q hq)
  have X0 := Ex.start hst h5 hbl q
  obtain ⟨x0, x1, x2, y0, y1, y2, y3, y4, z0, z1, z2, z3, z4⟩ := X0.c
  have HX := Lib.hid X0
  have HS := Lib.hid (hst.alloc (.cells #[.int .i64 q.l, .bool q.d, .bool q.i, .bool q.g, .bool q.s] 26))
  have HG := Lib.hid (show Gr w0.heap.size v v w (w.alloc (.cells #[.int .i64 q.l, .bool q.d, .bool q.i, .bool q.g, .bool q.s] 26)) from Gr.quiet ((Below.refl _ _).alloc (Nat.le_refl _) _))
  have HL := Lib.hid hl
  have HC := Lib.hid hc
  have hk1 : (0 : Int) ≤ (i : Int) := by omega
  have hk2 : (i : Int) < (m : Int) := by omega
  clear hl hst hv h5 X0 hc hi hq
  go_enter Tryz.func151, Tryz.ntmps151
  go_wp2_with fail
  refine (of_str _ _ HC.out _).mono ?_
  rintro e w1 ⟨rfl, rfl⟩
  go_wp2_with fail
  refine (m_str n ak ck q _ HC.out HV.out (HS.out.alloc _) HL.out).mono ?_
  rintro e w2 ⟨rfl, v2, s2, g2⟩
  have S2 := Lib.hid s2
  have G2 := Lib.hid (HG.out.trans ((Gr.quiet ((Below.refl _ _).alloc (Nat.le_refl _) _)).trans g2))
  clear s2 g2
  go_wp2
  go_end0
  exact ⟨rfl, v2, S2.out, G2.out⟩

set_option maxHeartbeats 1600000 in
theorem un_ere {w0 : World} {a : Option Addr} {m cap : Nat} {fv : Value} {l : List Nd} {i : Nat} {E U : Nat → Ps → List Tk} (n : Nd) (hc : n.k = 4) (hmx : m ≤ 1048576) (hi : i < m) (bl ol : Nat) (ha : a = some ⟨bl, ol, none⟩) (hbl : bl < w0.heap.size) (ak : Option Addr) (ck : Nat) (h5 : nd.Five w0 bl (ol + i * 5) n ak ck)
    (hv : ∀ p : Ps, posOk p.l p.d = true → Giv w0 a m cap fv l i n ak p E U) : CallE 151 w0 a m cap fv i (fun q => body E U n q) := by
  subst ha
  intro q hq v ts w hst hl
  have HV := Lib.hid (hv q hq)
  have X0 := Ex.start hst h5 hbl q
  obtain ⟨x0, x1, x2, y0, y1, y2, y3, y4, z0, z1, z2, z3, z4⟩ := X0.c
  have HX := Lib.hid X0
  have HS := Lib.hid (hst.alloc (.cells #[.int .i64 q.l, .bool q.d, .bool q.i, .bool q.g, .bool q.s] 26))
  have HG := Lib.hid (show Gr w0.heap.size v v w (w.alloc (.cells #[.int .i64 q.l, .bool q.d, .bool q.i, .bool q.g, .bool q.s] 26)) from Gr.quiet ((Below.refl _ _).alloc (Nat.le_refl _) _))
  have HL := Lib.hid hl
  have HC := Lib.hid hc
  have hk1 : (0 : Int) ≤ (i : Int) := by omega
  have hk2 : (i : Int) < (m : Int) := by omega
  clear hl hst hv h5 X0 hc hi hq
  go_enter Tryz.func151, Tryz.ntmps151
  go_wp2_with fail
  refine (of_ere _ _ HC.out _).mono ?_
  rintro e w1 ⟨rfl, rfl⟩
  go_wp2_with fail
  refine (m_ere n ak ck q _ HC.out HV.out (HS.out.alloc _) HL.out).mono ?_
  rintro e w2 ⟨rfl, v2, s2, g2⟩
  have S2 := Lib.hid s2
  have G2 := Lib.hid (HG.out.trans ((Gr.quiet ((Below.refl _ _).alloc (Nat.le_refl _) _)).trans g2))
  clear s2 g2
  go_wp2
  go_end0
  exact ⟨rfl, v2, S2.out, G2.out⟩

set_option maxHeartbeats 1600000 in
theorem un_index {w0 : World} {a : Option Addr} {m cap : Nat} {fv : Value} {l : List Nd} {i : Nat} {E U : Nat → Ps → List Tk} (n : Nd) (hc : n.k = 5) (hmx : m ≤ 1048576) (hi : i < m) (bl ol : Nat) (ha : a = some ⟨bl, ol, none⟩) (hbl : bl < w0.heap.size) (ak : Option Addr) (ck : Nat) (h5 : nd.Five w0 bl (ol + i * 5) n ak ck)
    (hv : ∀ p : Ps, posOk p.l p.d = true → Giv w0 a m cap fv l i n ak p E U) : CallE 151 w0 a m cap fv i (fun q => body E U n q) := by
  subst ha
  intro q hq v ts w hst hl
  have HV := Lib.hid (hv q hq)
  have X0 := Ex.start hst h5 hbl q
  obtain ⟨x0, x1, x2, y0, y1, y2, y3, y4, z0, z1, z2, z3, z4⟩ := X0.c
  have HX := Lib.hid X0
  have HS := Lib.hid (hst.alloc (.cells #[.int .i64 q.l, .bool q.d, .bool q.i, .bool q.g, .bool q.s] 26))
  have HG := Lib.hid (show Gr w0.heap.size v v w (w.alloc (.cells #[.int .i64 q.l, .bool q.d, .bool q.i, .bool q.g, .bool q.s] 26)) from Gr.quiet ((Below.refl _ _).alloc (Nat.le_refl _) _))
  have HL := Lib.hid hl
  have HC := Lib.hid hc
  have hk1 : (0 : Int) ≤ (i : Int) := by omega
  have hk2 : (i : Int) < (m : Int) := by omega
  clear hl hst hv h5 X0 hc hi hq
  go_enter Tryz.func151, Tryz.ntmps151
  go_wp2_with fail
  refine (of_index _ _ HC.out _).mono ?_
  rintro e w1 ⟨rfl, rfl⟩
  go_wp2_with fail
  refine (m_index n ak ck q _ HC.out HV.out (HS.out.alloc _) HL.out).mono ?_
  rintro e w2 ⟨rfl, v2, s2, g2⟩
  have S2 := Lib.hid s2
  have G2 := Lib.hid (HG.out.trans ((Gr.quiet ((Below.refl _ _).alloc (Nat.le_refl _) _)).trans g2))
  clear s2 g2
  go_wp2
  go_end0
  exact ⟨rfl, v2, S2.out, G2.out⟩

set_option maxHeartbeats 1600000 in
theorem un_field {w0 : World} {a : Option Addr} {m cap : Nat} {fv : Value} {l : List Nd} {i : Nat} {E U : Nat → Ps → List Tk} (n : Nd) (hc : n.k = 6) (hmx : m ≤ 1048576) (hi : i < m) (bl ol : Nat) (ha : a = some ⟨bl, ol, none⟩) (hbl : bl < w0.heap.size) (ak : Option Addr) (ck : Nat) (h5 : nd.Five w0 bl (ol + i * 5) n ak ck)
    (hv : ∀ p : Ps, posOk p.l p.d = true → Giv w0 a m cap fv l i n ak p E U) : CallE 151 w0 a m cap fv i (fun q => body E U n q) := by
  subst ha
  intro q hq v ts w hst hl
  have HV := Lib.hid (hv q hq)
  have X0 := Ex.start hst h5 hbl q
  obtain ⟨x0, x1, x2, y0, y1, y2, y3, y4, z0, z1, z2, z3, z4⟩ := X0.c
  have HX := Lib.hid X0
  have HS := Lib.hid (hst.alloc (.cells #[.int .i64 q.l, .bool q.d, .bool q.i, .bool q.g, .bool q.s] 26))
  have HG := Lib.hid (show Gr w0.heap.size v v w (w.alloc (.cells #[.int .i64 q.l, .bool q.d, .bool q.i, .bool q.g, .bool q.s] 26)) from Gr.quiet ((Below.refl _ _).alloc (Nat.le_refl _) _))
  have HL := Lib.hid hl
  have HC := Lib.hid hc
  have hk1 : (0 : Int) ≤ (i : Int) := by omega
  have hk2 : (i : Int) < (m : Int) := by omega
  clear hl hst hv h5 X0 hc hi hq
  go_enter Tryz.func151, Tryz.ntmps151
  go_wp2_with fail
  refine (of_field _ _ HC.out _).mono ?_
  rintro e w1 ⟨rfl, rfl⟩
  go_wp2_with fail
  refine (m_field n ak ck q _ HC.out HV.out (HS.out.alloc _) HL.out).mono ?_
  rintro e w2 ⟨rfl, v2, s2, g2⟩
  have S2 := Lib.hid s2
  have G2 := Lib.hid (HG.out.trans ((Gr.quiet ((Below.refl _ _).alloc (Nat.le_refl _) _)).trans g2))
  clear s2 g2
  go_wp2
  go_end0
  exact ⟨rfl, v2, S2.out, G2.out⟩

set_option maxHeartbeats 1600000 in
theorem un_call {w0 : World} {a : Option Addr} {m cap : Nat} {fv : Value} {l : List Nd} {i : Nat} {E U : Nat → Ps → List Tk} (n : Nd) (hc : n.k = 7) (hmx : m ≤ 1048576) (hi : i < m) (bl ol : Nat) (ha : a = some ⟨bl, ol, none⟩) (hbl : bl < w0.heap.size) (ak : Option Addr) (ck : Nat) (h5 : nd.Five w0 bl (ol + i * 5) n ak ck)
    (hv : ∀ p : Ps, posOk p.l p.d = true → Giv w0 a m cap fv l i n ak p E U) : CallE 151 w0 a m cap fv i (fun q => body E U n q) := by
  subst ha
  intro q hq v ts w hst hl
  have HV := Lib.hid (hv q hq)
  have X0 := Ex.start hst h5 hbl q
  obtain ⟨x0, x1, x2, y0, y1, y2, y3, y4, z0, z1, z2, z3, z4⟩ := X0.c
  have HX := Lib.hid X0
  have HS := Lib.hid (hst.alloc (.cells #[.int .i64 q.l, .bool q.d, .bool q.i, .bool q.g, .bool q.s] 26))
  have HG := Lib.hid (show Gr w0.heap.size v v w (w.alloc (.cells #[.int .i64 q.l, .bool q.d, .bool q.i, .bool q.g, .bool q.s] 26)) from Gr.quiet ((Below.refl _ _).alloc (Nat.le_refl _) _))
  have HL := Lib.hid hl
  have HC := Lib.hid hc
  have hk1 : (0 : Int) ≤ (i : Int) := by omega
  have hk2 : (i : Int) < (m : Int) := by omega
  clear hl hst hv h5 X0 hc hi hq
  go_enter Tryz.func151, Tryz.ntmps151
  go_wp2_with fail
  refine (of_call _ _ HC.out _).mono ?_
  rintro e w1 ⟨rfl, rfl⟩
  go_wp2_with fail
  refine (m_call n ak ck q _ HC.out HV.out (HS.out.alloc _) HL.out).mono ?_
  rintro e w2 ⟨rfl, v2, s2, g2⟩
  have S2 := Lib.hid s2
  have G2 := Lib.hid (HG.out.trans ((Gr.quiet ((Below.refl _ _).alloc (Nat.le_refl _) _)).trans g2))
  clear s2 g2
  go_wp2
  go_end0
  exact ⟨rfl, v2, S2.out, G2.out⟩

set_option maxHeartbeats 1600000 in
theorem un_builtin {w0 : World} {a : Option Addr} {m cap : Nat} {fv : Value} {l : List Nd} {i : Nat} {E U : Nat → Ps → List Tk} (n : Nd) (hc : n.k = 8) (hmx : m ≤ 1048576) (hi : i < m) (bl ol : Nat) (ha : a = some ⟨bl, ol, none⟩) (hbl : bl < w0.heap.size) (ak : Option Addr) (ck : Nat) (h5 : nd.Five w0 bl (ol + i * 5) n ak ck)
    (hv : ∀ p : Ps, posOk p.l p.d = true → Giv w0 a m cap fv l i n ak p E U) : CallE 151 w0 a m cap fv i (fun q => body E U n q) := by
  subst ha
  intro q hq v ts w hst hl
  have HV := Lib.hid (hv q hq)
  have X0 := Ex.start hst h5 hbl q
  obtain ⟨x0, x1, x2, y0, y1, y2, y3, y4, z0, z1, z2, z3, z4⟩ := X0.c
  have HX := Lib.hid X0
  have HS := Lib.hid (hst.alloc (.cells #[.int .i64 q.l, .bool q.d, .bool q.i, .bool q.g, .bool q.s] 26))
  have HG := Lib.hid (show Gr w0.heap.size v v w (w.alloc (.cells #[.int .i64 q.l, .bool q.d, .bool q.i, .bool q.g, .bool q.s] 26)) from Gr.quiet ((Below.refl _ _).alloc (Nat.le_refl _) _))
  have HL := Lib.hid hl
  have HC := Lib.hid hc
  have hk1 : (0 : Int) ≤ (i : Int) := by omega
  have hk2 : (i : Int) < (m : Int) := by omega
  clear hl hst hv h5 X0 hc hi hq
  go_enter Tryz.func151, Tryz.ntmps151
  go_wp2_with fail
  refine (of_builtin _ _ HC.out _).mono ?_
  rintro e w1 ⟨rfl, rfl⟩
  go_wp2_with fail
  refine (m_builtin n ak ck q _ HC.out HV.out (HS.out.alloc _) HL.out).mono ?_
  rintro e w2 ⟨rfl, v2, s2, g2⟩
  have S2 := Lib.hid s2
  have G2 := Lib.hid (HG.out.trans ((Gr.quiet ((Below.refl _ _).alloc (Nat.le_refl _) _)).trans g2))
  clear s2 g2
  go_wp2
  go_end0
  exact ⟨rfl, v2, S2.out, G2.out⟩

set_option maxHeartbeats 1600000 in
theorem un_pre {w0 : World} {a : Option Addr} {m cap : Nat} {fv : Value} {l : List Nd} {i : Nat} {E U : Nat → Ps → List Tk} (n : Nd) (hc : n.k = 9) (hmx : m ≤ 1048576) (hi : i < m) (bl ol : Nat) (ha : a = some ⟨bl, ol, none⟩) (hbl : bl < w0.heap.size) (ak : Option Addr) (ck : Nat) (h5 : nd.Five w0 bl (ol + i * 5) n ak ck)
    (hv : ∀ p : Ps, posOk p.l p.d = true → Giv w0 a m cap fv l i n ak p E U) : CallE 151 w0 a m cap fv i (fun q => body E U n q) := by
  subst ha
  intro q hq v ts w hst hl
  have HV := Lib.hid (hv q hq)
  have X0 := Ex.start hst h5 hbl q
  obtain ⟨x0, x1, x2, y0, y1, y2, y3, y4, z0, z1, z2, z3, z4⟩ := X0.c
  have HX := Lib.hid X0
  have HS := Lib.hid (hst.alloc (.cells #[.int .i64 q.l, .bool q.d, .bool q.i, .bool q.g, .bool q.s] 26))
  have HG := Lib.hid (show Gr w0.heap.size v v w (w.alloc (.cells #[.int .i64 q.l, .bool q.d, .bool q.i, .bool q.g, .bool q.s] 26)) from Gr.quiet ((Below.refl _ _).alloc (Nat.le_refl _) _))
  have HL := Lib.hid hl
  have HC := Lib.hid hc
  have hk1 : (0 : Int) ≤ (i : Int) := by omega
  have hk2 : (i : Int) < (m : Int) := by omega
  clear hl hst hv h5 X0 hc hi hq
  go_enter Tryz.func151, Tryz.ntmps151
  go_wp2_with fail
  refine (of_pre _ _ HC.out _).mono ?_
  rintro e w1 ⟨rfl, rfl⟩
  go_wp2_with fail
  refine (m_pre n ak ck q _ HC.out HV.out (HS.out.alloc _) HL.out).mono ?_
  rintro e w2 ⟨rfl, v2, s2, g2⟩
  have S2 := Lib.hid s2
  have G2 := Lib.hid (HG.out.trans ((Gr.quiet ((Below.refl _ _).alloc (Nat.le_refl _) _)).trans g2))
  clear s2 g2
  go_wp2
  go_end0
  exact ⟨rfl, v2, S2.out, G2.out⟩

set_option maxHeartbeats 1600000 in
theorem un_post {w0 : World} {a : Option Addr} {m cap : Nat} {fv : Value} {l : List Nd} {i : Nat} {E U : Nat → Ps → List Tk} (n : Nd) (hc : n.k = 10) (hmx : m ≤ 1048576) (hi : i < m) (bl ol : Nat) (ha : a = some ⟨bl, ol, none⟩) (hbl : bl < w0.heap.size) (ak : Option Addr) (ck : Nat) (h5 : nd.Five w0 bl (ol + i * 5) n ak ck)
    (hv : ∀ p : Ps, posOk p.l p.d = true → Giv w0 a m cap fv l i n ak p E U) : CallE 151 w0 a m cap fv i (fun q => body E U n q) := by
  subst ha
  intro q hq v ts w hst hl
  have HV := Lib.hid (hv q hq)
  have X0 := Ex.start hst h5 hbl q
  obtain ⟨x0, x1, x2, y0, y1, y2, y3, y4, z0, z1, z2, z3, z4⟩ := X0.c
  have HX := Lib.hid X0
  have HS := Lib.hid (hst.alloc (.cells #[.int .i64 q.l, .bool q.d, .bool q.i, .bool q.g, .bool q.s] 26))
  have HG := Lib.hid (show Gr w0.heap.size v v w (w.alloc (.cells #[.int .i64 q.l, .bool q.d, .bool q.i, .bool q.g, .bool q.s] 26)) from Gr.quiet ((Below.refl _ _).alloc (Nat.le_refl _) _))
  have HL := Lib.hid hl
  have HC := Lib.hid hc
  have hk1 : (0 : Int) ≤ (i : Int) := by omega
  have hk2 : (i : Int) < (m : Int) := by omega
  clear hl hst hv h5 X0 hc hi hq
  go_enter Tryz.func151, Tryz.ntmps151
  go_wp2_with fail
  refine (of_post _ _ HC.out _).mono ?_
  rintro e w1 ⟨rfl, rfl⟩
  go_wp2_with fail
  refine (m_post n ak ck q _ HC.out HV.out (HS.out.alloc _) HL.out).mono ?_
  rintro e w2 ⟨rfl, v2, s2, g2⟩
  have S2 := Lib.hid s2
  have G2 := Lib.hid (HG.out.trans ((Gr.quiet ((Below.refl _ _).alloc (Nat.le_refl _) _)).trans g2))
  clear s2 g2
  go_wp2
  go_end0
  exact ⟨rfl, v2, S2.out, G2.out⟩

set_option maxHeartbeats 1600000 in
theorem un_unary {w0 : World} {a : Option Addr} {m cap : Nat} {fv : Value} {l : List Nd} {i : Nat} {E U : Nat → Ps → List Tk} (n : Nd) (hc : n.k = 11) (hmx : m ≤ 1048576) (hi : i < m) (bl ol : Nat) (ha : a = some ⟨bl, ol, none⟩) (hbl : bl < w0.heap.size) (ak : Option Addr) (ck : Nat) (h5 : nd.Five w0 bl (ol + i * 5) n ak ck)
    (hv : ∀ p : Ps, posOk p.l p.d = true → Giv w0 a m cap fv l i n ak p E U) : CallE 151 w0 a m cap fv i (fun q => body E U n q) := by
  subst ha
  intro q hq v ts w hst hl
  have HV := Lib.hid (hv q hq)
  have X0 := Ex.start hst h5 hbl q
  obtain ⟨x0, x1, x2, y0, y1, y2, y3, y4, z0, z1, z2, z3, z4⟩ := X0.c
  have HX := Lib.hid X0
  have HS := Lib.hid (hst.alloc (.cells #[.int .i64 q.l, .bool q.d, .bool q.i, .bool q.g, .bool q.s] 26))
  have HG := Lib.hid (show Gr w0.heap.size v v w (w.alloc (.cells #[.int .i64 q.l, .bool q.d, .bool q.i, .bool q.g, .bool q.s] 26)) from Gr.quiet ((Below.refl _ _).alloc (Nat.le_refl _) _))
  have HL := Lib.hid hl
  have HC := Lib.hid hc
  have hk1 : (0 : Int) ≤ (i : Int) := by omega
  have hk2 : (i : Int) < (m : Int) := by omega
  clear hl hst hv h5 X0 hc hi hq
  go_enter Tryz.func151, Tryz.ntmps151
  go_wp2_with fail
  refine (of_unary _ _ HC.out _).mono ?_
  rintro e w1 ⟨rfl, rfl⟩
  go_wp2_with fail
  refine (m_unary n ak ck q _ HC.out HV.out (HS.out.alloc _) HL.out).mono ?_
  rintro e w2 ⟨rfl, v2, s2, g2⟩
  have S2 := Lib.hid s2
  have G2 := Lib.hid (HG.out.trans ((Gr.quiet ((Below.refl _ _).alloc (Nat.le_refl _) _)).trans g2))
  clear s2 g2
  go_wp2
  go_end0
  exact ⟨rfl, v2, S2.out, G2.out⟩

set_option maxHeartbeats 1600000 in
theorem un_binary {w0 : World} {a : Option Addr} {m cap : Nat} {fv : Value} {l : List Nd} {i : Nat} {E U : Nat → Ps → List Tk} (n : Nd) (hc : n.k = 12) (hmx : m ≤ 1048576) (hi : i < m) (bl ol : Nat) (ha : a = some ⟨bl, ol, none⟩) (hbl : bl < w0.heap.size) (ak : Option Addr) (ck : Nat) (h5 : nd.Five w0 bl (ol + i * 5) n ak ck)
    (hv : ∀ p : Ps, posOk p.l p.d = true → Giv w0 a m cap fv l i n ak p E U) : CallE 151 w0 a m cap fv i (fun q => body E U n q) := by
  subst ha
  intro q hq v ts w hst hl
  have HV := Lib.hid (hv q hq)
  have X0 := Ex.start hst h5 hbl q
  obtain ⟨x0, x1, x2, y0, y1, y2, y3, y4, z0, z1, z2, z3, z4⟩ := X0.c
  have HX := Lib.hid X0
  have HS := Lib.hid (hst.alloc (.cells #[.int .i64 q.l, .bool q.d, .bool q.i, .bool q.g, .bool q.s] 26))
  have HG := Lib.hid (show Gr w0.heap.size v v w (w.alloc (.cells #[.int .i64 q.l, .bool q.d, .bool q.i, .bool q.g, .bool q.s] 26)) from Gr.quiet ((Below.refl _ _).alloc (Nat.le_refl _) _))
  have HL := Lib.hid hl
  have HC := Lib.hid hc
  have hk1 : (0 : Int) ≤ (i : Int) := by omega
  have hk2 : (i : Int) < (m : Int) := by omega
  clear hl hst hv h5 X0 hc hi hq
  go_enter Tryz.func151, Tryz.ntmps151
  go_wp2_with fail
  refine (of_binary _ _ HC.out _).mono ?_
  rintro e w1 ⟨rfl, rfl⟩
  go_wp2_with fail
  refine (m_binary n ak ck q _ HC.out HV.out (HS.out.alloc _) HL.out).mono ?_
  rintro e w2 ⟨rfl, v2, s2, g2⟩
  have S2 := Lib.hid s2
  have G2 := Lib.hid (HG.out.trans ((Gr.quiet ((Below.refl _ _).alloc (Nat.le_refl _) _)).trans g2))
  clear s2 g2
  go_wp2
  go_end0
  exact ⟨rfl, v2, S2.out, G2.out⟩

set_option maxHeartbeats 1600000 in
theorem un_in {w0 : World} {a : Option Addr} {m cap : Nat} {fv : Value} {l : List Nd} {i : Nat} {E U : Nat → Ps → List Tk} (n : Nd) (hc : n.k = 13) (hmx : m ≤ 1048576) (hi : i < m) (bl ol : Nat) (ha : a = some ⟨bl, ol, none⟩) (hbl : bl < w0.heap.size) (ak : Option Addr) (ck : Nat) (h5 : nd.Five w0 bl (ol + i * 5) n ak ck)
    (hv : ∀ p : Ps, posOk p.l p.d = true → Giv w0 a m cap fv l i n ak p E U) : CallE 151 w0 a m cap fv i (fun q => body E U n q) := by
  subst ha
  intro q hq v ts w hst hl
  have HV := Lib.hid (hv q hq)
  have X0 := Ex.start hst h5 hbl q
  obtain ⟨x0, x1, x2, y0, y1, y2, y3, y4, z0, z1, z2, z3, z4⟩ := X0.c
  have HX := Lib.hid X0
  have HS := Lib.hid (hst.alloc (.cells #[.int .i64 q.l, .bool q.d, .bool q.i, .bool q.g, .bool q.s] 26))
  have HG := Lib.hid (show Gr w0.heap.size v v w (w.alloc (.cells #[.int .i64 q.l, .bool q.d, .bool q.i, .bool q.g, .bool q.s] 26)) from Gr.quiet ((Below.refl _ _).alloc (Nat.le_refl _) _))
  have HL := Lib.hid hl
  have HC := Lib.hid hc
  have hk1 : (0 : Int) ≤ (i : Int) := by omega
  have hk2 : (i : Int) < (m : Int) := by omega
  clear hl hst hv h5 X0 hc hi hq
  go_enter Tryz.func151, Tryz.ntmps151
  go_wp2_with fail
  refine (of_in _ _ HC.out _).mono ?_
  rintro e w1 ⟨rfl, rfl⟩
  go_wp2_with fail
  refine (m_in n ak ck q _ HC.out HV.out (HS.out.alloc _) HL.out).mono ?_
  rintro e w2 ⟨rfl, v2, s2, g2⟩
  have S2 := Lib.hid s2
  have G2 := Lib.hid (HG.out.trans ((Gr.quiet ((Below.refl _ _).alloc (Nat.le_refl _) _)).trans g2))
  clear s2 g2
  go_wp2
  go_end0
  exact ⟨rfl, v2, S2.out, G2.out⟩

set_option maxHeartbeats 1600000 in
theorem un_cond {w0 : World} {a : Option Addr} {m cap : Nat} {fv : Value} {l : List Nd} {i : Nat} {E U : Nat → Ps → List Tk} (n : Nd) (hc : n.k = 14) (hmx : m ≤ 1048576) (hi : i < m) (bl ol : Nat) (ha : a = some ⟨bl, ol, none⟩) (hbl : bl < w0.heap.size) (ak : Option Addr) (ck : Nat) (h5 : nd.Five w0 bl (ol + i * 5) n ak ck)
    (hv : ∀ p : Ps, posOk p.l p.d = true → Giv w0 a m cap fv l i n ak p E U) : CallE 151 w0 a m cap fv i (fun q => body E U n q) := by
  subst ha
  intro q hq v ts w hst hl
  have HV := Lib.hid (hv q hq)
  have X0 := Ex.start hst h5 hbl q
  obtain ⟨x0, x1, x2, y0, y1, y2, y3, y4, z0, z1, z2, z3, z4⟩ := X0.c
  have HX := Lib.hid X0
  have HS := Lib.hid (hst.alloc (.cells #[.int .i64 q.l, .bool q.d, .bool q.i, .bool q.g, .bool q.s] 26))
  have HG := Lib.hid (show Gr w0.heap.size v v w (w.alloc (.cells #[.int .i64 q.l, .bool q.d, .bool q.i, .bool q.g, .bool q.s] 26)) from Gr.quiet ((Below.refl _ _).alloc (Nat.le_refl _) _))
  have HL := Lib.hid hl
  have HC := Lib.hid hc
  have hk1 : (0 : Int) ≤ (i : Int) := by omega
  have hk2 : (i : Int) < (m : Int) := by omega
  clear hl hst hv h5 X0 hc hi hq
  go_enter Tryz.func151, Tryz.ntmps151
  go_wp2_with fail
  refine (of_cond _ _ HC.out _).mono ?_
  rintro e w1 ⟨rfl, rfl⟩
  go_wp2_with fail
  refine (m_cond n ak ck q _ HC.out HV.out (HS.out.alloc _) HL.out).mono ?_
  rintro e w2 ⟨rfl, v2, s2, g2⟩
  have S2 := Lib.hid s2
  have G2 := Lib.hid (HG.out.trans ((Gr.quiet ((Below.refl _ _).alloc (Nat.le_refl _) _)).trans g2))
  clear s2 g2
  go_wp2
  go_end0
  exact ⟨rfl, v2, S2.out, G2.out⟩

set_option maxHeartbeats 1600000 in
theorem un_assign {w0 : World} {a : Option Addr} {m cap : Nat} {fv : Value} {l : List Nd} {i : Nat} {E U : Nat → Ps → List Tk} (n : Nd) (hc : n.k = 15) (hmx : m ≤ 1048576) (hi : i < m) (bl ol : Nat) (ha : a = some ⟨bl, ol, none⟩) (hbl : bl < w0.heap.size) (ak : Option Addr) (ck : Nat) (h5 : nd.Five w0 bl (ol + i * 5) n ak ck)
    (hv : ∀ p : Ps, posOk p.l p.d = true → Giv w0 a m cap fv l i n ak p E U) : CallE 151 w0 a m cap fv i (fun q => body E U n q) := by
  subst ha
  intro q hq v ts w hst hl
  have HV := Lib.hid (hv q hq)
  have X0 := Ex.start hst h5 hbl q
  obtain ⟨x0, x1, x2, y0, y1, y2, y3, y4, z0, z1, z2, z3, z4⟩ := X0.c
  have HX := Lib.hid X0
  have HS := Lib.hid (hst.alloc (.cells #[.int .i64 q.l, .bool q.d, .bool q.i, .bool q.g, .bool q.s] 26))
  have HG := Lib.hid (show Gr w0.heap.size v v w (w.alloc (.cells #[.int .i64 q.l, .bool q.d, .bool q.i, .bool q.g, .bool q.s] 26)) from Gr.quiet ((Below.refl _ _).alloc (Nat.le_refl _) _))
  have HL := Lib.hid hl
  have HC := Lib.hid hc
  have hk1 : (0 : Int) ≤ (i : Int) := by omega
  have hk2 : (i : Int) < (m : Int) := by omega
  clear hl hst hv h5 X0 hc hi hq
  go_enter Tryz.func151, Tryz.ntmps151
  go_wp2_with fail
  refine (of_assign _ _ HC.out _).mono ?_
  rintro e w1 ⟨rfl, rfl⟩
  go_wp2_with fail
  refine (m_assign n ak ck q _ HC.out HV.out (HS.out.alloc _) HL.out).mono ?_
  rintro e w2 ⟨rfl, v2, s2, g2⟩
  have S2 := Lib.hid s2
  have G2 := Lib.hid (HG.out.trans ((Gr.quiet ((Below.refl _ _).alloc (Nat.le_refl _) _)).trans g2))
  clear s2 g2
  go_wp2
  go_end0
  exact ⟨rfl, v2, S2.out, G2.out⟩

/-- Every kind of expression. -/
theorem un_any {w0 : World} {a : Option Addr} {m cap : Nat} {fv : Value} {l : List Nd} {i : Nat} {E U : Nat → Ps → List Tk} (n : Nd) (hg : et.Good l i n) (hmx : m ≤ 1048576) (hi : i < m) (bl ol : Nat) (ha : a = some ⟨bl, ol, none⟩) (hbl : bl < w0.heap.size) (ak : Option Addr) (ck : Nat) (h5 : nd.Five w0 bl (ol + i * 5) n ak ck)
    (hv : ∀ p : Ps, posOk p.l p.d = true → Giv w0 a m cap fv l i n ak p E U) : CallE 151 w0 a m cap fv i (fun q => body E U n q) := by
  have hr := expr_range hg.kind
  by_cases c1 : n.k = 1
  · exact un_name n c1 hmx hi bl ol ha hbl ak ck h5 hv
  by_cases c2 : n.k = 2
  · exact un_number n c2 hmx hi bl ol ha hbl ak ck h5 hv
  by_cases c3 : n.k = 3
  · exact un_str n c3 hmx hi bl ol ha hbl ak ck h5 hv
  by_cases c4 : n.k = 4
  · exact un_ere n c4 hmx hi bl ol ha hbl ak ck h5 hv
  by_cases c5 : n.k = 5
  · exact un_index n c5 hmx hi bl ol ha hbl ak ck h5 hv
  by_cases c6 : n.k = 6
  · exact un_field n c6 hmx hi bl ol ha hbl ak ck h5 hv
  by_cases c7 : n.k = 7
  · exact un_call n c7 hmx hi bl ol ha hbl ak ck h5 hv
  by_cases c8 : n.k = 8
  · exact un_builtin n c8 hmx hi bl ol ha hbl ak ck h5 hv
  by_cases c9 : n.k = 9
  · exact un_pre n c9 hmx hi bl ol ha hbl ak ck h5 hv
  by_cases c10 : n.k = 10
  · exact un_post n c10 hmx hi bl ol ha hbl ak ck h5 hv
  by_cases c11 : n.k = 11
  · exact un_unary n c11 hmx hi bl ol ha hbl ak ck h5 hv
  by_cases c12 : n.k = 12
  · exact un_binary n c12 hmx hi bl ol ha hbl ak ck h5 hv
  by_cases c13 : n.k = 13
  · exact un_in n c13 hmx hi bl ol ha hbl ak ck h5 hv
  by_cases c14 : n.k = 14
  · exact un_cond n c14 hmx hi bl ol ha hbl ak ck h5 hv
  exact un_assign n (by omega) hmx hi bl ol ha hbl ak ck h5 hv

/-- The writer at a right tree: what unenclosed and expr put, at each node. -/
theorem all_un {w0 : World} {a : Option Addr} {cap : Nat} {fv : Value} {l : List Nd} {enc : Nd → Ps → Bool} (ht : rt.treeOk l = true) (hmx : l.length ≤ 1048576) (hh : Held w0) (hc : nd.Lies w0.heap.size w0 a l)
    (hE : ∀ (U : Nat → Ps → List Tk) (i : Nat) (n : Nd), i < l.length → l.getD i default = n → CallE 151 w0 a l.length cap fv i (U i) → CallE 83 w0 a l.length cap fv i (par enc l U i)) :
    ∀ (f i : Nat), i < f → i < l.length → rt.isExpr (l.getD i default).k = true → CallE 151 w0 a l.length cap fv i (un enc l f i) := by
  intro f
  induction f with
  | zero => intro i hi; omega
  | succ f ih =>
    intro i hi hl hk
    obtain ⟨n, hn⟩ : ∃ n, l.getD i default = n := ⟨_, rfl⟩
    rw [hn] at hk
    have g := et.Good.at ht hl hn hk
    obtain ⟨bl, ol, ha, hbl, hnode⟩ := nd.lies_at hc hl
    obtain ⟨ak, ck, h5, hik⟩ := hnode i hl
    rw [← getD_at hl, hn] at h5 hik
    have e : un enc l (f + 1) i = fun q => body (ex enc l f) (un enc l f) n q := by
      funext q
      rw [un_succ, hn]
    rw [e]
    refine un_any n g hmx hl bl ol ha hbl ak ck h5 fun p hp => ⟨hh, g, hik, hp, fun K hK => ?_, fun h0 => ?_⟩
    · obtain ⟨k1, k2, k3⟩ := g.kids K hK
      exact hE (un enc l f) (et.kd n K) _ (by omega) rfl (ih (et.kd n K) (by omega) (by omega) k3)
    · obtain ⟨k1, k2, k3⟩ := g.kids 0 h0
      exact ih (et.kd n 0) (by omega) (by omega) k3
end Go.Proofs.YtiilpnoaocfjgaaGreatDoor.tw

namespace Go.Proofs.YtiilpnoaocfjgaaGreatDoor.tw
open Go.ChangeShapes Go.WideShapes Go.ChangeAt Go.RowKit
open tk (Tk)
open own
open nd (Nd Ints)
open ps (Ps posOk kidI top)
open spell (Held)
open et
set_option linter.unusedVariables false
set_option linter.unusedSimpArgs false
set_option maxRecDepth 20000

/-- What ExprTokens, FullTokens answer. -/
def etoks (l : List Nd) (p : Ps) : List Tk := if rt.exprOk l = true ∧ posOk p.l p.d = true then ex mis l l.length (l.length - 1) p else []
def ftoks (l : List Nd) : List Tk := if rt.exprOk l = true then ex full l l.length (l.length - 1) top else []
def Out (T : List Tk) (w : World) (e : Ending) (w' : World) : Prop := ∃ v, e = .returned v ∧ Below w.heap.size w w' ∧ own.Own w.heap.size v T w'
theorem expr_parts {l : List Nd} (h : rt.exprOk l = true) : rt.treeOk l = true ∧ 0 < l.length ∧ rt.isExpr (l.getD (l.length - 1) default).k = true := by
  unfold rt.exprOk at h
  rw [Bool.and_eq_true] at h
  refine ⟨h.1, ?_, h.2⟩
  have := (nd.shape_yes (tree_parts h.1).1).1
  omega
theorem etoks_len (l : List Nd) (p : Ps) : (etoks l p).length ≤ 3200 := by
  unfold etoks
  split
  · next h =>
    obtain ⟨h1, h2, h3⟩ := expr_parts h.1
    exact ex_len h1 (by omega) (by omega) h3
  · simp
theorem ftoks_len (l : List Nd) : (ftoks l).length ≤ 3200 := by
  unfold ftoks
  split
  · next h =>
    obtain ⟨h1, h2, h3⟩ := expr_parts h
    exact ex_len h1 (by omega) (by omega) h3
  · simp

set_option maxHeartbeats 1600000 in
theorem impl_ExprTokens (l : List Nd) (a : Option Addr) (cap : Nat) (p : Ps) (w : World) (hn : l.length ≤ 1048576) (hk : ∀ t ∈ l, t.kids.length ≤ 1048576) (hs : ∀ t ∈ l, t.s.size ≤ 1048576 ∧ t.t.size ≤ 1048576) (hc : nd.Lies w.heap.size w a l) (hh : Held w) :
    Calls Tryz.prog 24 #[.slice a l.length cap, .agg #[.int .i64 p.l, .bool p.d, .bool p.i, .bool p.g, .bool p.s]] w (Out (etoks l p) w) := by
  have HC := Lib.hid hc
  have HN := Lib.hid hn
  have HH := Lib.hid hh
  have HK := Lib.hid hk
  have HS := Lib.hid hs
  have HB0 := Lib.hid (show Below w.heap.size w (w.alloc (.cells #[.int .i64 p.l, .bool p.d, .bool p.i, .bool p.g, .bool p.s] 26)) from ((Below.refl w.heap.size w).alloc (Nat.le_refl _) _))
  clear hc hh hk hs
  cases hx : rt.exprOk l
  · have HE := Lib.hid (show etoks l p = [] by unfold etoks; rw [if_neg (by simp [hx])])
    have HX := Lib.hid hx
    go_enter Tryz.func24, Tryz.ntmps24
    go_wp2_with fail
    refine (rt.impl_expr l a cap _ HN.out HK.out HS.out (HC.out.on HB0.out (Nat.le_refl _)) (HH.out.below HB0.out)).mono ?_
    rw [HX.out]
    rintro e w1 ⟨rfl, b1⟩
    have B1 := Lib.hid (HB0.out.trans (b1.mono HB0.out.size))
    clear b1
    go_wp2
    go_ret
    refine ⟨.slice none 0 0, rfl, B1.out, ?_⟩
    rw [HE.out]
    exact own.Own.nil _ _
  have HX := Lib.hid hx
  cases hp : posOk p.l p.d
  · have HE := Lib.hid (show etoks l p = [] by unfold etoks; rw [if_neg (by simp [hp])])
    have HP := Lib.hid hp
    have HZ := Lib.hid (show ∀ w1, Below (w.alloc (.cells #[.int .i64 p.l, .bool p.d, .bool p.i, .bool p.g, .bool p.s] 26)).heap.size (w.alloc (.cells #[.int .i64 p.l, .bool p.d, .bool p.i, .bool p.g, .bool p.s] 26)) w1 → w1.cell? ⟨w.heap.size, 0, none⟩ = some (.int .i64 p.l) ∧ w1.cell? ⟨w.heap.size, 1, none⟩ = some (.bool p.d) ∧ w1.cell? ⟨w.heap.size, 2, none⟩ = some (.bool p.i) ∧ w1.cell? ⟨w.heap.size, 3, none⟩ = some (.bool p.g) ∧ w1.cell? ⟨w.heap.size, 4, none⟩ = some (.bool p.s) from fun w1 hb => by
      have hb1 := (hb.block w.heap.size (by simp)).trans (heap_alloc_new w (.cells #[.int .i64 p.l, .bool p.d, .bool p.i, .bool p.g, .bool p.s] 26))
      exact ⟨by rw [cell_of_row _ _ 0 _ _ _ hb1]; rfl, by rw [cell_of_row _ _ 1 _ _ _ hb1]; rfl, by rw [cell_of_row _ _ 2 _ _ _ hb1]; rfl, by rw [cell_of_row _ _ 3 _ _ _ hb1]; rfl, by rw [cell_of_row _ _ 4 _ _ _ hb1]; rfl⟩)
    clear hx hp
    go_enter Tryz.func24, Tryz.ntmps24
    go_wp2_with fail
    refine (rt.impl_expr l a cap _ HN.out HK.out HS.out (HC.out.on HB0.out (Nat.le_refl _)) (HH.out.below HB0.out)).mono ?_
    rw [HX.out]
    rintro e w1 ⟨rfl, b1⟩
    have B1 := Lib.hid (HB0.out.trans (b1.mono HB0.out.size))
    obtain ⟨p0, p1, p2, p3, p4⟩ := HZ.out w1 b1
    clear b1
    go_wp2_with fail
    refine (ps.impl_ok p.l p.d p.i p.g p.s _).mono ?_
    rw [HP.out]
    rintro e w2 ⟨rfl, b2⟩
    have B2 := Lib.hid (B1.out.trans (b2.mono B1.out.size))
    clear b2
    go_wp2
    go_ret
    refine ⟨.slice none 0 0, rfl, B2.out, ?_⟩
    rw [HE.out]
    exact own.Own.nil _ _
  have HE := Lib.hid (show etoks l p = ex mis l l.length (l.length - 1) p by unfold etoks; rw [if_pos ⟨hx, hp⟩])
  have HX := Lib.hid hx
  obtain ⟨ht, h0, hlast⟩ := expr_parts hx
  have HLEN := Lib.hid (show ([] : List Tk).length + (ex mis l l.length (l.length - 1) p).length ≤ 1048576 by have := ex_len (enc := mis) (f := l.length) (p := p) ht (by omega) (by omega) hlast; simp; omega)
  have HALL := Lib.hid (show ∀ w0 : World, Held w0 → nd.Lies w0.heap.size w0 a l → CallE 83 w0 a l.length cap (.func (.func 82) #[] #[]) (l.length - 1) (ex mis l l.length (l.length - 1)) from fun w0 hh hc =>
    have hEx : ∀ (U : Nat → Ps → List Tk) (i : Nat) (n : Nd), i < l.length → l.getD i default = n → CallE 151 w0 a l.length cap (.func (.func 82) #[] #[]) i (U i) → CallE 83 w0 a l.length cap (.func (.func 82) #[] #[]) i (par mis l U i) := fun U i n hi hn hU => expr_mis i n hh rfl HN.out hi hn hc hU
    hEx _ _ _ (by omega) rfl (all_un ht HN.out hh hc hEx l.length (l.length - 1) (by omega) (by omega) hlast))
  have HST := Lib.hid (show ∀ w0 : World, St w0 a l.length cap (.func (.func 82) #[] #[]) (.slice none 0 0) [] (w0.alloc (.cells #[.slice a l.length cap, (.func (.func 82) #[] #[]), .slice none 0 0] 113)) from fun w0 => ⟨(Below.refl _ _).alloc (Nat.le_refl _) _, heap_alloc_new w0 _, own.Own.nil _ _⟩)
  obtain ⟨N, hN⟩ : ∃ N, l.length = N := ⟨_, rfl⟩
  obtain ⟨k, hk⟩ : ∃ k, N = k + 1 := ⟨N - 1, by omega⟩
  have HPOS := Lib.hid (show posOk p.l p.d = true from hp)
  have HEX := Lib.hid (show ∀ w1, w1.heap.size ≥ 0 → nd.Lies w1.heap.size w1 a l → Held w1 → Calls Tryz.prog 76 #[.slice a l.length cap] w1 fun e w' => e = .returned (.bool true) ∧ Below w1.heap.size w1 w' from fun w1 _ h1 h2 => (rt.impl_expr l a cap w1 HN.out HK.out HS.out h1 h2).mono fun e w' h => by rw [HX.out] at h; exact h)
  rw [hN] at HALL HST HEX hn HLEN ⊢
  have hkk : N - 1 = k := by omega
  rw [hkk] at HALL HLEN
  have HKE := Lib.hid (show N - 1 = k from hkk)
  have HNE := Lib.hid hN
  have HCALL := Lib.hid (show ∀ w0 : World, Held w0 → nd.Lies w0.heap.size w0 a l → ∀ (v : Value) (ts : List Tk) (w : World), St w0 a N cap (.func (.func 82) #[] #[]) v ts w → ts.length + (ex mis l N k p).length ≤ 1048576 → Calls Tryz.prog 83 #[.pointer (some ⟨w0.heap.size, 0, none⟩), .int .i64 ((N : Int) - 1), .agg #[.int .i64 p.l, .bool p.d, .bool p.i, .bool p.g, .bool p.s]] w (Put w0 a N cap (.func (.func 82) #[] #[]) v ts (ex mis l N k p) w) from fun w0 hh hc v ts w hst hl => by
    have := HALL.out w0 hh hc p HPOS.out v ts w hst hl
    rw [show ((k : Nat) : Int) = (N : Int) - 1 by omega] at this
    exact this)
  have hN1 : (1 : Int) ≤ (N : Int) := by omega
  have HP := Lib.hid hp
  have HZ := Lib.hid (show ∀ w1, Below (w.alloc (.cells #[.int .i64 p.l, .bool p.d, .bool p.i, .bool p.g, .bool p.s] 26)).heap.size (w.alloc (.cells #[.int .i64 p.l, .bool p.d, .bool p.i, .bool p.g, .bool p.s] 26)) w1 → w1.cell? ⟨w.heap.size, 0, none⟩ = some (.int .i64 p.l) ∧ w1.cell? ⟨w.heap.size, 1, none⟩ = some (.bool p.d) ∧ w1.cell? ⟨w.heap.size, 2, none⟩ = some (.bool p.i) ∧ w1.cell? ⟨w.heap.size, 3, none⟩ = some (.bool p.g) ∧ w1.cell? ⟨w.heap.size, 4, none⟩ = some (.bool p.s) from fun w1 hb => by
    have hb1 := (hb.block w.heap.size (by simp)).trans (heap_alloc_new w (.cells #[.int .i64 p.l, .bool p.d, .bool p.i, .bool p.g, .bool p.s] 26))
    exact ⟨by rw [cell_of_row _ _ 0 _ _ _ hb1]; rfl, by rw [cell_of_row _ _ 1 _ _ _ hb1]; rfl, by rw [cell_of_row _ _ 2 _ _ _ hb1]; rfl, by rw [cell_of_row _ _ 3 _ _ _ hb1]; rfl, by rw [cell_of_row _ _ 4 _ _ _ hb1]; rfl⟩)
  clear hx ht h0 hlast hN hk hkk hp
  go_enter Tryz.func24, Tryz.ntmps24
  go_wp2_with fail
  refine (HEX.out _ (Nat.zero_le _) (HC.out.on HB0.out (Nat.le_refl _)) (HH.out.below HB0.out)).mono ?_
  rintro e w1 ⟨rfl, b1⟩
  have B1 := Lib.hid (HB0.out.trans (b1.mono HB0.out.size))
  obtain ⟨p0, p1, p2, p3, p4⟩ := HZ.out w1 b1
  have B01 := Lib.hid b1
  clear b1
  go_wp2_with fail
  refine (ps.impl_ok p.l p.d p.i p.g p.s _).mono ?_
  rw [HP.out]
  rintro e w2 ⟨rfl, b2⟩
  have B2 := Lib.hid (B1.out.trans (b2.mono B1.out.size))
  have HZ2 := Lib.hid (HZ.out _ ((B01.out.trans (b2.mono B01.out.size)).alloc (Nat.le_trans B01.out.size b2.size) (.cells #[.slice a N cap, (.func (.func 82) #[] #[]), .slice none 0 0] 113)))
  obtain ⟨q0, q1, q2, q3, q4⟩ := HZ2.out
  clear b2 p0 p1 p2 p3 p4
  have ST := Lib.hid (HST.out w2)
  obtain ⟨cW, hcW⟩ : ∃ cW, cW = w2 := ⟨_, rfl⟩
  go_wp2_with fail
  refine (HCALL.out w2 (HH.out.below B2.out) (HC.out.on B2.out (Nat.le_refl _)) _ _ _ ST.out HLEN.out).mono ?_
  rintro e w4 ⟨rfl, v4, s4, g4⟩
  obtain ⟨z0, z1, z2⟩ := s4.c
  have S4 := Lib.hid s4
  clear s4 g4
  go_wp2
  go_ret
  refine ⟨v4, rfl, B2.out.trans (S4.out.bel.mono B2.out.size), ?_⟩
  rw [HE.out, HNE.out, HKE.out]
  have := S4.out.own
  rw [List.nil_append] at this
  exact this.up (Nat.le_succ_of_le B2.out.size)

set_option maxHeartbeats 1600000 in
theorem impl_FullTokens (l : List Nd) (a : Option Addr) (cap : Nat) (w : World) (hn : l.length ≤ 1048576) (hk : ∀ t ∈ l, t.kids.length ≤ 1048576) (hs : ∀ t ∈ l, t.s.size ≤ 1048576 ∧ t.t.size ≤ 1048576) (hc : nd.Lies w.heap.size w a l) (hh : Held w) :
    Calls Tryz.prog 28 #[.slice a l.length cap] w (Out (ftoks l) w) := by
  have HC := Lib.hid hc
  have HN := Lib.hid hn
  have HH := Lib.hid hh
  have HK := Lib.hid hk
  have HS := Lib.hid hs
  have HB0 := Lib.hid (show Below w.heap.size w w from (Below.refl w.heap.size w))
  clear hc hh hk hs
  cases hx : rt.exprOk l
  · have HE := Lib.hid (show ftoks l = [] by unfold ftoks; rw [if_neg (by simp [hx])])
    have HX := Lib.hid hx
    go_enter Tryz.func28, Tryz.ntmps28
    go_wp2_with fail
    refine (rt.impl_expr l a cap _ HN.out HK.out HS.out (HC.out.on HB0.out (Nat.le_refl _)) (HH.out.below HB0.out)).mono ?_
    rw [HX.out]
    rintro e w1 ⟨rfl, b1⟩
    have B1 := Lib.hid (HB0.out.trans (b1.mono HB0.out.size))
    clear b1
    go_wp2
    go_ret
    refine ⟨.slice none 0 0, rfl, B1.out, ?_⟩
    rw [HE.out]
    exact own.Own.nil _ _
  have HE := Lib.hid (show ftoks l = ex full l l.length (l.length - 1) top by unfold ftoks; rw [if_pos hx])
  have HX := Lib.hid hx
  obtain ⟨ht, h0, hlast⟩ := expr_parts hx
  have HLEN := Lib.hid (show ([] : List Tk).length + (ex full l l.length (l.length - 1) top).length ≤ 1048576 by have := ex_len (enc := full) (f := l.length) (p := top) ht (by omega) (by omega) hlast; simp; omega)
  have HALL := Lib.hid (show ∀ w0 : World, Held w0 → nd.Lies w0.heap.size w0 a l → CallE 83 w0 a l.length cap (.func (.func 87) #[] #[]) (l.length - 1) (ex full l l.length (l.length - 1)) from fun w0 hh hc =>
    have hEx : ∀ (U : Nat → Ps → List Tk) (i : Nat) (n : Nd), i < l.length → l.getD i default = n → CallE 151 w0 a l.length cap (.func (.func 87) #[] #[]) i (U i) → CallE 83 w0 a l.length cap (.func (.func 87) #[] #[]) i (par full l U i) := fun U i n hi hn hU => expr_full i n hh rfl HN.out hi hn hc hU
    hEx _ _ _ (by omega) rfl (all_un ht HN.out hh hc hEx l.length (l.length - 1) (by omega) (by omega) hlast))
  have HST := Lib.hid (show ∀ w0 : World, St w0 a l.length cap (.func (.func 87) #[] #[]) (.slice none 0 0) [] (w0.alloc (.cells #[.slice a l.length cap, (.func (.func 87) #[] #[]), .slice none 0 0] 113)) from fun w0 => ⟨(Below.refl _ _).alloc (Nat.le_refl _) _, heap_alloc_new w0 _, own.Own.nil _ _⟩)
  obtain ⟨N, hN⟩ : ∃ N, l.length = N := ⟨_, rfl⟩
  obtain ⟨k, hk⟩ : ∃ k, N = k + 1 := ⟨N - 1, by omega⟩
  have HPOS := Lib.hid (show posOk top.l top.d = true from top_ok)
  have HEX := Lib.hid (show ∀ w1, w1.heap.size ≥ 0 → nd.Lies w1.heap.size w1 a l → Held w1 → Calls Tryz.prog 76 #[.slice a l.length cap] w1 fun e w' => e = .returned (.bool true) ∧ Below w1.heap.size w1 w' from fun w1 _ h1 h2 => (rt.impl_expr l a cap w1 HN.out HK.out HS.out h1 h2).mono fun e w' h => by rw [HX.out] at h; exact h)
  rw [hN] at HALL HST HEX hn HLEN ⊢
  have hkk : N - 1 = k := by omega
  rw [hkk] at HALL HLEN
  have HKE := Lib.hid (show N - 1 = k from hkk)
  have HNE := Lib.hid hN
  have HCALL := Lib.hid (show ∀ w0 : World, Held w0 → nd.Lies w0.heap.size w0 a l → ∀ (v : Value) (ts : List Tk) (w : World), St w0 a N cap (.func (.func 87) #[] #[]) v ts w → ts.length + (ex full l N k top).length ≤ 1048576 → Calls Tryz.prog 83 #[.pointer (some ⟨w0.heap.size, 0, none⟩), .int .i64 ((N : Int) - 1), .agg #[.int .i64 1, .bool false, .bool false, .bool false, .bool false]] w (Put w0 a N cap (.func (.func 87) #[] #[]) v ts (ex full l N k top) w) from fun w0 hh hc v ts w hst hl => by
    have := HALL.out w0 hh hc top HPOS.out v ts w hst hl
    rw [show ((k : Nat) : Int) = (N : Int) - 1 by omega] at this
    exact this)
  have hN1 : (1 : Int) ≤ (N : Int) := by omega
  clear hx ht h0 hlast hN hk hkk
  go_enter Tryz.func28, Tryz.ntmps28
  go_wp2_with fail
  refine (HEX.out _ (Nat.zero_le _) (HC.out.on HB0.out (Nat.le_refl _)) (HH.out.below HB0.out)).mono ?_
  rintro e w1 ⟨rfl, b1⟩
  have B1 := Lib.hid (HB0.out.trans (b1.mono HB0.out.size))
  have B2 := Lib.hid B1.out
  clear b1
  have ST := Lib.hid (HST.out w1)
  obtain ⟨cW, hcW⟩ : ∃ cW, cW = w1 := ⟨_, rfl⟩
  go_wp2_with fail
  refine (ps.impl_top _).mono ?_
  rintro e w3 ⟨rfl, b3⟩
  have ST3 := Lib.hid (ST.out.keep b3)
  clear b3
  go_wp2_with fail
  refine (HCALL.out w1 (HH.out.below B2.out) (HC.out.on B2.out (Nat.le_refl _)) _ _ _ ST3.out HLEN.out).mono ?_
  rintro e w4 ⟨rfl, v4, s4, g4⟩
  obtain ⟨z0, z1, z2⟩ := s4.c
  have S4 := Lib.hid s4
  clear s4 g4
  go_wp2
  go_ret
  refine ⟨v4, rfl, B2.out.trans (S4.out.bel.mono B2.out.size), ?_⟩
  rw [HE.out, HNE.out, HKE.out]
  have := S4.out.own
  rw [List.nil_append] at this
  exact this.up (Nat.le_succ_of_le B2.out.size)
end Go.Proofs.YtiilpnoaocfjgaaGreatDoor.tw

namespace Go.Proofs.YtiilpnoaocfjgaaGreatDoor.yd
open Go.ChangeShapes Go.WideShapes Go.ChangeAt Go.RowKit
open tk
set_option linter.unusedVariables false

/-- Is it a kind of tokens with texts of their own? -/
def isL (k : Int) : Bool := decide (3 ≤ k ∧ k ≤ 8)
def oc (l : List Tk) : Nat → Nat
  | 0 => 0
  | I + 1 => oc l I + if isL (l.getD I default).k = true then 1 else 0
theorem oc_le (l : List Tk) : ∀ I, oc l I ≤ I := by
  intro I
  induction I with
  | zero => exact Nat.le_refl _
  | succ I ih =>
    show oc l I + _ ≤ _
    split <;> omega
theorem oc_step {l : List Tk} {I : Nat} (h : I < l.length) : oc l (I + 1) = oc l I + if isL l[I].k = true then 1 else 0 := by
  show oc l I + _ = _
  rw [List.getD_eq_getElem?_getD, List.getElem?_eq_getElem h]
  rfl
theorem impl_is (k : Int) (w : World) : Calls Tryz.prog 91 #[.int .i64 k] w fun e w' => e = .returned (.bool (isL k)) ∧ w = w' := by
  by_cases h3 : 3 ≤ k
  · by_cases h8 : k ≤ 8
    · go_enter Tryz.func91, Tryz.ntmps91
      go_wp2
      all_goals
        go_ret
        exact ⟨congrArg (fun b => Ending.returned (Value.bool b)) (by first | (simp_all [isL]; done) | (simp_all [isL]; omega)), rfl⟩
    · go_enter Tryz.func91, Tryz.ntmps91
      go_wp2
      all_goals
        go_ret
        exact ⟨congrArg (fun b => Ending.returned (Value.bool b)) (by first | (simp_all [isL]; done) | (simp_all [isL]; omega)), rfl⟩
  · go_enter Tryz.func91, Tryz.ntmps91
    go_wp2
    all_goals
      go_ret
      exact ⟨congrArg (fun b => Ending.returned (Value.bool b)) (by first | (simp_all [isL]; done) | (simp_all [isL]; omega)), rfl⟩
theorem spec_is (k : Int) (w : World) : Calls Tryz.prog 210 #[.int .i64 k] w fun e w' => e = .returned (.bool (isL k)) ∧ w = w' := by
  go_enter Tryz.func210, Tryz.ntmps210
  go_wp2_with (go_at_call 86; refine (chars.spec_in _ _ _ _).mono ?_; rintro e w' ⟨rfl, rfl⟩)
  go_ret
  exact ⟨congrArg (fun b => Ending.returned (Value.bool b)) (by rw [Bool.eq_iff_iff]; simp [isL, chars.inR]), rfl⟩

def RelO (w : World) (l : List Tk) (n i : Value) (wr : World) : Prop :=
  ∃ I : Nat, I ≤ l.length ∧ i = .int .i64 (I : Int) ∧ n = .int .i64 (oc l I : Int) ∧ Below w.heap.size w wr

set_option maxHeartbeats 1600000 in
theorem impl_operands (l : List Tk) (a : Option Addr) (cap : Nat) (w : World) (hn : l.length ≤ 1048576) (hc : Lies w.heap.size w a l) :
    Calls Tryz.prog 35 #[.slice a l.length cap] w fun e w' => e = .returned (.int .i64 (oc l l.length : Int)) ∧ Below w.heap.size w w' := by
  have HC := Lib.hid hc
  clear hc
  obtain ⟨n, hln⟩ : ∃ n, n = l.length := ⟨_, rfl⟩
  have HLN := Lib.hid hln
  rw [← hln]
  rw [← hln] at hn
  clear hln
  go_enter Tryz.func35, Tryz.ntmps35
  go_wp2
  go_loopw [3, 8] (fun m i wr => RelO w l m i wr) (fun _ i _ => n - (intOf i).toNat)
  case atStart => exact ⟨0, by omega, rfl, rfl, Below.refl _ _⟩
  case round =>
    obtain ⟨I, hI, rfl, rfl, hbel⟩ := hrel
    have HB := Lib.hid hbel
    rw [← HLN.out] at hI
    clear hbel
    have hpl := oc_le l I
    obtain ⟨P, hP⟩ : ∃ P, P = oc l I := ⟨_, rfl⟩
    rw [← hP] at hpl ⊢
    have HP := Lib.hid hP
    clear hP
    by_cases hlt : I < n
    · have hltl : I < l.length := by have := HLN.out; omega
      obtain ⟨b, o, rfl, hb, hcell⟩ := lies_at HC.out hltl
      obtain ⟨c0, c1, c2⟩ := (hcell I hltl).keep HB.out hb
      have HST := Lib.hid (oc_step hltl)
      obtain ⟨t, ht⟩ : ∃ t, t = l[I] := ⟨_, rfl⟩
      rw [← ht] at c0 c1 c2 HST
      clear hcell ht
      have hi1 : (I : Int) < (n : Int) := by omega
      cases hq : isL t.k
      · have HREL := Lib.hid (show ∀ wr', Below w.heap.size w wr' → RelO w l (.int .i64 (P : Int)) (.int .i64 ((I : Int) + 1)) wr' from fun wr' hb' => ⟨I + 1, by have := HLN.out; omega, rfl, by rw [HST.out, hq, ← HP.out]; rfl, hb'⟩)
        have HQ := Lib.hid hq
        clear hq
        go_wp2_with (go_at_call 91; refine (impl_is _ _).mono ?_; rw [HQ.out]; rintro e w' ⟨rfl, rfl⟩)
        go_roundw
        case rel => exact HREL.out _ ((Below.refl _ _).alloc HB.out.size _ |> HB.out.trans)
        case measure => simp [intOf]; omega
      · have HREL := Lib.hid (show ∀ wr', Below w.heap.size w wr' → RelO w l (.int .i64 ((P : Int) + 1)) (.int .i64 ((I : Int) + 1)) wr' from fun wr' hb' => ⟨I + 1, by have := HLN.out; omega, rfl, by rw [HST.out, hq, ← HP.out]; rfl, hb'⟩)
        have HQ := Lib.hid hq
        clear hq
        go_wp2_with (go_at_call 91; refine (impl_is _ _).mono ?_; rw [HQ.out]; rintro e w' ⟨rfl, rfl⟩)
        go_roundw
        case rel => exact HREL.out _ ((Below.refl _ _).alloc HB.out.size _ |> HB.out.trans)
        case measure => simp [intOf]; omega
    · obtain rfl : I = n := by omega
      go_wp2
      go_ret
      exact ⟨by rw [HP.out]; rfl, HB.out⟩

set_option maxHeartbeats 1600000 in
theorem spec_operands (l : List Tk) (a : Option Addr) (cap : Nat) (w : World) (hn : l.length ≤ 1048576) (hc : Lies w.heap.size w a l) :
    Calls Tryz.prog 135 #[.slice a l.length cap] w fun e w' => e = .returned (.int .i64 (oc l l.length : Int)) ∧ Below w.heap.size w w' := by
  have HC := Lib.hid hc
  clear hc
  obtain ⟨n, hln⟩ : ∃ n, n = l.length := ⟨_, rfl⟩
  have HLN := Lib.hid hln
  rw [← hln]
  rw [← hln] at hn
  clear hln
  go_enter Tryz.func135, Tryz.ntmps135
  go_wp2
  go_loopw [3, 4] (fun m i wr => RelO w l m i wr) (fun _ i _ => n - (intOf i).toNat)
  case atStart => exact ⟨0, by omega, rfl, rfl, Below.refl _ _⟩
  case round =>
    obtain ⟨I, hI, rfl, rfl, hbel⟩ := hrel
    have HB := Lib.hid hbel
    rw [← HLN.out] at hI
    clear hbel
    have hpl := oc_le l I
    obtain ⟨P, hP⟩ : ∃ P, P = oc l I := ⟨_, rfl⟩
    rw [← hP] at hpl ⊢
    have HP := Lib.hid hP
    clear hP
    by_cases hlt : I < n
    · have hltl : I < l.length := by have := HLN.out; omega
      obtain ⟨b, o, rfl, hb, hcell⟩ := lies_at HC.out hltl
      obtain ⟨c0, c1, c2⟩ := (hcell I hltl).keep HB.out hb
      have HST := Lib.hid (oc_step hltl)
      obtain ⟨t, ht⟩ : ∃ t, t = l[I] := ⟨_, rfl⟩
      rw [← ht] at c0 c1 c2 HST
      clear hcell ht
      have hi1 : (I : Int) < (n : Int) := by omega
      cases hq : isL t.k
      · have HREL := Lib.hid (show RelO w l (.int .i64 (P : Int)) (.int .i64 ((I : Int) + 1)) wr from ⟨I + 1, by have := HLN.out; omega, rfl, by rw [HST.out, hq, ← HP.out]; rfl, HB.out⟩)
        have HQ := Lib.hid hq
        clear hq
        go_wp2_with (go_at_call 210; refine (spec_is _ _).mono ?_; rw [HQ.out]; rintro e w' ⟨rfl, rfl⟩)
        go_roundw
        case rel => exact HREL.out
        case measure => simp [intOf]; omega
      · have HREL := Lib.hid (show RelO w l (.int .i64 ((P : Int) + 1)) (.int .i64 ((I : Int) + 1)) wr from ⟨I + 1, by have := HLN.out; omega, rfl, by rw [HST.out, hq, ← HP.out]; rfl, HB.out⟩)
        have HQ := Lib.hid hq
        clear hq
        go_wp2_with (go_at_call 210; refine (spec_is _ _).mono ?_; rw [HQ.out]; rintro e w' ⟨rfl, rfl⟩)
        go_roundw
        case rel => exact HREL.out
        case measure => simp [intOf]; omega
    · obtain rfl : I = n := by omega
      go_wp2
      go_ret
      exact ⟨by rw [HP.out]; rfl, HB.out⟩
end Go.Proofs.YtiilpnoaocfjgaaGreatDoor.yd

namespace Go.Proofs.YtiilpnoaocfjgaaGreatDoor.yd
open tk (Tk)
open nd (Nd)
open ps (Ps top)
open rt (treeOk isExpr)
open et
set_option linter.unusedVariables false
set_option linter.unusedSimpArgs false
set_option maxRecDepth 20000

def keepL (l : List Tk) : List Tk := l.filter fun t => isL t.k
theorem keep_nil : keepL [] = [] := rfl
theorem keep_app (a b : List Tk) : keepL (a ++ b) = keepL a ++ keepL b := List.filter_append ..
theorem keep_yes {t : Tk} (h : isL t.k = true) (l : List Tk) : keepL (t :: l) = t :: keepL l := List.filter_cons_of_pos (by simpa using h)
theorem keep_no {t : Tk} (h : isL t.k = false) (l : List Tk) : keepL (t :: l) = keepL l := List.filter_cons_of_neg (by simp [h])

def pre (n : Nd) : List Tk := if n.k = 5 then [nam 6 n.s] else if n.k = 7 then [nam 7 n.s] else if n.k = 8 then [nam 8 n.s] else []
def suf (n : Nd) : List Tk := if n.k = 13 then [nam 6 n.s] else []
def lf (n : Nd) : List Tk := if n.k = 1 then [nam 6 n.s] else if n.k = 2 then [nam 3 n.s] else if n.k = 3 then [nam 4 n.s] else if n.k = 4 then [nam 5 n.s] else []
def kids (Y : Nat → List Tk) (n : Nd) : Nat → List Tk
  | 0 => []
  | J + 1 => kids Y n J ++ Y (kd n J)
def yn (Y : Nat → List Tk) (n : Nd) : List Tk := pre n ++ kids Y n n.kids.length ++ suf n ++ lf n
def yl (l : List Nd) : Nat → Nat → List Tk
  | 0, _ => []
  | f + 1, i => yn (yl l f) (l.getD i default)
theorem yl_succ (l : List Nd) (f i : Nat) : yl l (f + 1) i = yn (yl l f) (l.getD i default) := rfl

/-- More of a node of a right tree. -/
theorem node_more {l : List Nd} (h : treeOk l = true) {i : Nat} (hi : i < l.length) {n : Nd} (hn : l.getD i default = n) (hk : isExpr n.k = true) : (n.k ≤ 4 → n.kids.length = 0) ∧ ((n.k = 9 ∨ n.k = 10 ∨ n.k = 11 ∨ n.k = 12 ∨ n.k = 15) → isL n.op = false) := by
  rw [getD_at hi] at hn
  subst hn
  obtain ⟨hf, -⟩ := tree_node h hi
  have hr := expr_range hk
  obtain ⟨n, hn⟩ : ∃ n, n = l[i] := ⟨_, rfl⟩
  rw [← hn] at hf hr hk ⊢
  unfold rt.nodeF at hf
  obtain ⟨hop, hl1, hl2⟩ := rt.fields_parts hf
  have hlim : rt.lim n.kids.length n.k n.op n.t = rt.lim0 n.k n.op n.t := by unfold rt.lim; rw [if_neg (by omega)]
  rw [hlim] at hl1 hl2
  refine ⟨fun h4 => ?_, fun hc => ?_⟩
  · have e : rt.lim0 n.k n.op n.t = (0, 0) := by
      have : n.k = 1 ∨ n.k = 2 ∨ n.k = 3 ∨ n.k = 4 := by omega
      rcases this with h | h | h | h <;> simp [rt.lim0, h]
    rw [e] at hl2
    simp at hl2
    exact List.length_eq_zero_iff.2 hl2
  · have hb : ¬ (3 ≤ n.op ∧ n.op ≤ 8) := by
      rcases hc with h | h | h | h | h <;> rw [h] at hop <;> simp [rt.opOk, rt.isBin, chars.inR] at hop <;> omega
    unfold isL
    exact decide_eq_false hb

theorem keep_tok {k : Int} (h : isL k = false) (l : List Tk) : keepL (tok k :: l) = keepL l := keep_no h l
theorem keep_nam {k : Int} (h : isL k = true) (s : ByteArray) (l : List Tk) : keepL (nam k s :: l) = nam k s :: keepL l := keep_yes h l

theorem keep_lst {E : Nat → Ps → List Tk} {Y : Nat → List Tk} {n : Nd} : ∀ J, J ≤ n.kids.length → (∀ j, j < n.kids.length → keepL (E (kd n j) top) = Y (kd n j)) → keepL (lst E n J) = kids Y n J := by
  intro J
  induction J with
  | zero => intro _ _; rfl
  | succ J ih =>
    intro hJ hE
    have h1 := ih (by omega) hE
    have h2 := hE J (by omega)
    simp only [lst, keep_app, kids, h1, h2]
    split
    · simp [keep_nil]
    · simp [keep_nil, keep_tok (show isL 36 = false from rfl)]
theorem keep_brack {E : Nat → Ps → List Tk} {Y : Nat → List Tk} {n : Nd} {a b : Int} (ha : isL a = false) (hb : isL b = false) (hE : ∀ j, j < n.kids.length → keepL (E (kd n j) top) = Y (kd n j)) : keepL (brack E n a b) = kids Y n n.kids.length := by
  unfold brack
  rw [keep_tok ha, keep_app, keep_tok hb, keep_nil, List.append_nil, keep_lst _ (Nat.le_refl _) hE]

theorem keep_un {enc : Nd → Ps → Bool} {l : List Nd} (h : treeOk l = true) : ∀ (f i : Nat) (p : Ps), i < f → i < l.length → isExpr (l.getD i default).k = true → keepL (un enc l f i p) = yl l f i := by
  intro f
  induction f with
  | zero => intro i p hi; omega
  | succ f ih =>
    intro i p hi hl hk
    obtain ⟨n, hn⟩ : ∃ n, l.getD i default = n := ⟨_, rfl⟩
    rw [hn] at hk
    have g := Good.at h hl hn hk
    obtain ⟨m4, mop⟩ := node_more h hl hn hk
    rw [un_succ, yl_succ, hn]
    have hU : ∀ j q, j < n.kids.length → keepL (un enc l f (kd n j) q) = yl l f (kd n j) := fun j q hj => by
      obtain ⟨k1, k2, k3⟩ := g.kids j hj
      exact ih (kd n j) q (by omega) (by omega) k3
    have hE : ∀ j q, j < n.kids.length → keepL (ex enc l f (kd n j) q) = yl l f (kd n j) := fun j q hj => by
      unfold ex par
      split
      · rw [keep_tok rfl, keep_app, keep_tok rfl, keep_nil, List.append_nil]
        exact hU j top hj
      · exact hU j q hj
    have hL := fun a b (ha : isL a = false) (hb : isL b = false) => keep_brack (E := ex enc l f) (Y := yl l f) (n := n) ha hb (fun j hj => hE j top hj)
    have hr := expr_range hk
    unfold yn pre suf lf
    have h2 : n.kids.length = 2 → kids (yl l f) n n.kids.length = yl l f (kd n 0) ++ yl l f (kd n 1) := fun e => by rw [e]; rfl
    have h1 : n.kids.length = 1 → kids (yl l f) n n.kids.length = yl l f (kd n 0) := fun e => by rw [e]; rfl
    have h3 : n.kids.length = 3 → kids (yl l f) n n.kids.length = yl l f (kd n 0) ++ yl l f (kd n 1) ++ yl l f (kd n 2) := fun e => by rw [e]; rfl
    have h0 : n.kids.length = 0 → kids (yl l f) n n.kids.length = [] := fun e => by rw [e]; rfl
    by_cases c1 : n.k = 1
    · rw [body_1 c1, h0 (m4 (by omega))]; simp [c1, keep_nam, keep_nil, isL]
    by_cases c2 : n.k = 2
    · rw [body_2 c2, h0 (m4 (by omega))]; simp [c2, keep_nam, keep_nil, isL]
    by_cases c3 : n.k = 3
    · rw [body_3 c3, h0 (m4 (by omega))]; simp [c3, keep_nam, keep_nil, isL]
    by_cases c4 : n.k = 4
    · rw [body_4 c4, h0 (m4 (by omega))]; simp [c4, keep_nam, keep_nil, isL]
    by_cases c5 : n.k = 5
    · rw [body_5 c5, keep_nam rfl, hL _ _ rfl rfl]; simp [c5]
    by_cases c6 : n.k = 6
    · have e := g.one (by omega); rw [body_6 c6, keep_tok rfl, hE 0 _ (by omega), h1 e]; simp [c6]
    by_cases c7 : n.k = 7
    · rw [body_7 c7, keep_nam rfl, hL _ _ rfl rfl]; simp [c7]
    by_cases c8 : n.k = 8
    · rw [body_8 c8, keep_nam rfl, hL _ _ rfl rfl]; simp [c8]
    by_cases c9 : n.k = 9
    · have e := g.one (by omega); rw [body_9 c9, keep_tok (mop (by omega)), hU 0 _ (by omega), h1 e]; simp [c9]
    by_cases c10 : n.k = 10
    · have e := g.one (by omega); rw [body_10 c10, keep_app, keep_tok (mop (by omega)), hU 0 _ (by omega), h1 e]; simp [c10, keep_nil]
    by_cases c11 : n.k = 11
    · have e := g.one (by omega); rw [body_11 c11, keep_tok (mop (by omega)), hE 0 _ (by omega), h1 e]; simp [c11]
    by_cases c12 : n.k = 12
    · have e := g.two (by omega)
      rw [body_12 c12, keep_app, keep_app, hE 0 _ (by omega), hE 1 _ (by omega), h2 e]
      by_cases h99 : n.op = 99
      · simp [h99, c12, keep_nil]
      · simp [h99, c12, keep_nil, keep_tok (mop (by omega))]
    by_cases c13 : n.k = 13
    · have e := g.least (by omega)
      rw [body_13 c13, keep_app, keep_tok rfl, keep_nam rfl, keep_nil]
      by_cases h1' : 1 < n.kids.length
      · rw [if_pos h1', hL _ _ rfl rfl]; simp [c13]
      · rw [if_neg h1', hE 0 _ (by omega), h1 (by omega)]; simp [c13]
    by_cases c14 : n.k = 14
    · have e := g.three (by omega)
      rw [body_14 c14, keep_app, keep_tok rfl, keep_app, keep_tok rfl, hE 0 _ (by omega), hE 1 _ (by omega), hE 2 _ (by omega), h3 e]; simp [c14]
    · have c15 : n.k = 15 := by omega
      have e := g.two (by omega)
      rw [body_15 c15, keep_app, keep_tok (mop (by omega)), hU 0 _ (by omega), hE 1 _ (by omega), h2 e]; simp [c15]
theorem keep_ex {enc : Nd → Ps → Bool} {l : List Nd} (h : treeOk l = true) {f i : Nat} {p : Ps} (hi : i < f) (hl : i < l.length) (hk : isExpr (l.getD i default).k = true) : keepL (ex enc l f i p) = yl l f i := by
  unfold ex par
  split
  · rw [keep_tok rfl, keep_app, keep_tok rfl, keep_nil, List.append_nil]
    exact keep_un h f i _ hi hl hk
  · exact keep_un h f i _ hi hl hk

/-- How many there are: at most as many as there are tokens. -/
theorem keep_len (l : List Tk) : (keepL l).length ≤ l.length := List.length_filter_le ..
end Go.Proofs.YtiilpnoaocfjgaaGreatDoor.yd

namespace Go.Proofs.YtiilpnoaocfjgaaGreatDoor.yd
open Go.ChangeShapes Go.WideShapes Go.ChangeAt Go.RowKit
open tk (Tk)
open own
open nd (Nd)
open ps (Ps top)
open spell (Held)
open et
set_option linter.unusedVariables false
set_option linter.unusedSimpArgs false
set_option maxRecDepth 20000

theorem take_yes {T : List Tk} {I : Nat} (h : I < T.length) (hq : isL T[I].k = true) : keepL (T.take (I + 1)) = keepL (T.take I) ++ [T[I]] := by
  rw [List.take_succ_eq_append_getElem h, keep_app, keep_yes hq, keep_nil]
theorem take_no {T : List Tk} {I : Nat} (h : I < T.length) (hq : isL T[I].k = false) : keepL (T.take (I + 1)) = keepL (T.take I) := by
  rw [List.take_succ_eq_append_getElem h, keep_app, keep_no hq, keep_nil, List.append_nil]
def RelY (W : World) (T : List Tk) (o i : Value) (wr : World) : Prop :=
  ∃ I : Nat, I ≤ T.length ∧ i = .int .i64 (I : Int) ∧ own.Own W.heap.size o (keepL (T.take I)) wr ∧ Below W.heap.size W wr

set_option maxHeartbeats 3200000 in
theorem impl_yield (l : List Nd) (a : Option Addr) (cap : Nat) (w : World) (hn : l.length ≤ 1048576) (hk : ∀ t ∈ l, t.kids.length ≤ 1048576) (hs : ∀ t ∈ l, t.s.size ≤ 1048576 ∧ t.t.size ≤ 1048576) (hc : nd.Lies w.heap.size w a l) (hh : Held w) :
    Calls Tryz.prog 36 #[.slice a l.length cap] w (tw.Out (keepL (tw.etoks l top)) w) := by
  have HC := Lib.hid hc
  have HN := Lib.hid hn
  have HH := Lib.hid hh
  have HK := Lib.hid hk
  have HS := Lib.hid hs
  have htl := tw.etoks_len l top
  obtain ⟨T, hT⟩ : ∃ T, T = tw.etoks l top := ⟨_, rfl⟩
  rw [← hT] at htl ⊢
  have HT := Lib.hid hT
  clear hc hh hk hs hT
  go_enter Tryz.func36, Tryz.ntmps36
  go_wp2_with fail
  refine (ps.impl_top _).mono ?_
  rintro e w1 ⟨rfl, b1⟩
  have B1 := Lib.hid b1
  clear b1
  go_wp2_with fail
  refine (tw.impl_ExprTokens l a cap top w1 HN.out HK.out HS.out (HC.out.on B1.out (Nat.le_refl _)) (HH.out.below B1.out)).mono ?_
  rintro e W ⟨v2, rfl, b2, o2⟩
  rw [← HT.out] at o2
  obtain ⟨a2, c2, rfl⟩ := o2.form
  have B2 := Lib.hid (B1.out.trans (b2.mono B1.out.size))
  have L2 := Lib.hid (o2.lies rfl)
  obtain ⟨n, hln⟩ : ∃ n, n = T.length := ⟨_, rfl⟩
  have HLN := Lib.hid hln
  rw [← hln]
  rw [← hln] at htl
  clear b2 o2 hln
  go_wp2
  go_loopw [3, 10] (fun o i wr => RelY W T o i wr) (fun _ i _ => n - (intOf i).toNat)
  case atStart => exact ⟨0, by omega, rfl, own.Own.nil _ _, Below.refl _ _⟩
  case round =>
    obtain ⟨I, hI, rfl, own1, b3⟩ := hrel
    have O3 := Lib.hid own1
    have B3 := Lib.hid b3
    rw [← HLN.out] at hI
    clear own1 b3
    by_cases hlt : I < n
    · have hltl : I < T.length := by have := HLN.out; omega
      obtain ⟨b, o, rfl, hb, hcell⟩ := tk.lies_at L2.out hltl
      obtain ⟨c0, c1, c2⟩ := (hcell I hltl).keep B3.out hb
      have TY := Lib.hid (take_yes hltl)
      have TN := Lib.hid (take_no hltl)
      have hd : (keepL (T.take I)).length ≤ 1048576 := by have := keep_len (T.take I); have := List.length_take (i := I) (l := T); omega
      obtain ⟨d, hde⟩ : ∃ d, d = keepL (T.take I) := ⟨_, rfl⟩
      rw [← hde] at O3 TY TN hd
      obtain ⟨t, ht⟩ : ∃ t, t = T[I] := ⟨_, rfl⟩
      rw [← ht] at c0 c1 c2 TY TN
      obtain ⟨ad, cd, rfl⟩ := O3.out.form
      clear hcell ht hde
      have hi1 : (I : Int) < (n : Int) := by omega
      have hsz := B3.out.size
      have HBA := Lib.hid (show Below W.heap.size W (wr.alloc (.cells #[.int .i64 t.k, .string t.s, .int .i64 t.a] 35)) from B3.out.alloc B3.out.size _)
      have HOA := Lib.hid (show own.Own W.heap.size (.slice ad d.length cd) d (wr.alloc (.cells #[.int .i64 t.k, .string t.s, .int .i64 t.a] 35)) from O3.out.keep ((Below.refl wr.heap.size wr).alloc (Nat.le_refl _) _) (Nat.le_refl _))
      cases hq : isL t.k
      · have HQ := Lib.hid hq
        have TN2 := Lib.hid (TN.out hq)
        clear hq TY TN
        go_wp2_with (go_at_call 91; refine (impl_is _ _).mono ?_; rw [HQ.out]; rintro e w' ⟨rfl, rfl⟩)
        go_roundw
        case rel => exact ⟨I + 1, by have := HLN.out; omega, by go_num, by rw [TN2.out]; exact HOA.out, HBA.out⟩
        case measure => simp [intOf]; omega
      · have HQ := Lib.hid hq
        have TY2 := Lib.hid (TY.out hq)
        clear hq TY TN
        go_wp2_with (first | (go_at_call 91; refine (impl_is _ _).mono ?_; rw [HQ.out]; rintro e w' ⟨rfl, rfl⟩) | (at_builtin; refine wpList_append_tok (wr.alloc (.cells #[.int .i64 t.k, .string t.s, .int .i64 t.a] 35)) ⟨t.k, t.s, t.a⟩ rfl _ _ rfl W.heap.size _ d rfl HOA.out (by simp [Act.eval]) ?n1 ?n2 ?n3))
        case n1 => omega
        case n2 => simp; omega
        case n3 =>
          intro v' w3 hown' b3 g3
          have HO := Lib.hid hown'
          have HB4 := Lib.hid (HBA.out.trans b3)
          clear hown' b3 g3
          go_wp2
          go_roundw
          case rel => exact ⟨I + 1, by have := HLN.out; omega, by go_num, by rw [TY2.out]; exact HO.out, HB4.out⟩
          case measure => simp [intOf]; omega
    · obtain rfl : I = n := by omega
      have HE := Lib.hid (show T.take I = T by rw [HLN.out, List.take_length])
      go_wp2
      go_ret
      exact ⟨u3, rfl, B2.out.trans (B3.out.mono B2.out.size), by rw [HE.out] at O3; exact O3.out.up B2.out.size⟩
end Go.Proofs.YtiilpnoaocfjgaaGreatDoor.yd

namespace Go.Proofs.YtiilpnoaocfjgaaGreatDoor.lawBare
open Go.ChangeShapes Go.WideShapes Go.ChangeAt Go.RowKit
open spell (Held held)
open nd (Nd)
open tk (Tk)
open ps (Ps B5 posOk top)
open draw (IsRow)
open et
open yd (keepL oc isL)
set_option linter.unusedVariables false
set_option linter.unusedSimpArgs false
set_option maxRecDepth 20000

theorem oc_take (T : List Tk) : ∀ I, I ≤ T.length → oc T I = (keepL (T.take I)).length := by
  intro I
  induction I with
  | zero => intro _; simp [oc, keepL]
  | succ I ih =>
    intro h
    have hI : I < T.length := by omega
    rw [yd.oc_step hI, ih (by omega)]
    cases hq : isL T[I].k
    · rw [yd.take_no hI hq]; rfl
    · rw [yd.take_yes hI hq, List.length_append]; rfl
theorem oc_all (T : List Tk) : oc T T.length = (keepL T).length := by rw [oc_take T _ (Nat.le_refl _), List.take_length]
theorem b5_2 {q : Nat} {L : Int} {d i g s : Bool} {w : World} (h : B5 q L d i g s w) (u : Bool) : B5 q L d u g s (w.setCell ⟨q, 2, none⟩ (.bool u)) := heap_setCell_same w q 2 _ _ _ h
theorem b5_3 {q : Nat} {L : Int} {d i g s : Bool} {w : World} (h : B5 q L d i g s w) (u : Bool) : B5 q L d i u s (w.setCell ⟨q, 3, none⟩ (.bool u)) := heap_setCell_same w q 3 _ _ _ h
theorem b5_4 {q : Nat} {L : Int} {d i g s : Bool} {w : World} (h : B5 q L d i g s w) (u : Bool) : B5 q L d i g u (w.setCell ⟨q, 4, none⟩ (.bool u)) := heap_setCell_same w q 4 _ _ _ h
/-- The mathematics of the law. -/
structure Right (T : List Tk) (p : Ps) (n : Nat) : Prop where
  some : 0 < T.length
  noIn : p.i = true → pb.bareF 24 T 0 = false
  noGt : p.g = true → pb.bareF 62 T 0 = false
  head : p.s = true → operand.begins (T.getD 0 default).k = true
  count : oc T T.length = n
theorem right {l : List Nd} {p : Ps} (hx : rt.exprOk l = true) (hp : posOk p.l p.d = true) : Right (tw.etoks l p) p (keepL (tw.etoks l top)).length := by
  obtain ⟨ht, h0, hlast⟩ := tw.expr_parts hx
  have e1 : tw.etoks l p = ex mis l l.length (l.length - 1) p := by unfold tw.etoks; rw [if_pos ⟨hx, hp⟩]
  have e2 : tw.etoks l top = ex mis l l.length (l.length - 1) top := by unfold tw.etoks; rw [if_pos ⟨hx, top_ok⟩]
  rw [e1, e2]
  have o24 := br.ok_ex (q := 24) (.inl rfl) ht (show l.length - 1 < l.length by omega) (by omega) hlast hp
  have o62 := br.ok_ex (q := 62) (.inr rfl) ht (show l.length - 1 < l.length by omega) (by omega) hlast hp
  refine ⟨o24.some, fun h => o24.y ⟨fun _ => h, fun e => by omega⟩, fun h => o62.y ⟨fun e => by omega, fun _ => h⟩, o24.head, ?_⟩
  rw [oc_all, yd.keep_ex ht (by omega) (by omega) hlast, yd.keep_ex ht (by omega) (by omega) hlast]

set_option maxHeartbeats 6400000 in
theorem core {a : Option Addr} {len cap : Nat} {zs : List Int} {w : World} (hc : draw.Code w.heap.size w a len zs) (hl : len ≤ 1048576) (hh : Held w) :
    Calls Tryz.prog 7 #[.slice a len cap] w fun e w' => e = .returned (.bool true) ∧ Below w.heap.size w w' := by
  have hbig : decide (1048576 < len) = false := by simp; omega
  have HDR := Lib.hid (draw.drawExprTokens_any (cap := cap) hc hl)
  have HAT := Lib.hid (fun k (hk : k ≤ 10) w2 (hb : Below w.heap.size w w2) => draw.at_code (a := a) (len := len) (zs := zs) (cap := cap) k hk w2 ((hc.keep hb).up hb.size) hl)
  have HH := Lib.hid hh
  clear hc hh
  go_enter Tryz.func7, Tryz.ntmps7
  go_wp2_with fail
  refine (draw.big_any a len cap _ (by omega)).mono ?_
  rw [hbig]
  rintro e w0 ⟨rfl, rfl⟩
  go_wp2_with fail
  refine HDR.out.mono ?_
  rintro e w1 ⟨q, a2, c2, L, d, i, g, s, rfl, hl2, hw, b1⟩
  have HN := Lib.hid (show q.length ≤ 1048576 by have := hw.1; omega)
  have HK := Lib.hid (show ∀ t ∈ q, t.kids.length ≤ 1048576 from fun t ht => by have := hw.2.1 t ht; omega)
  have HS := Lib.hid (show ∀ t ∈ q, t.s.size ≤ 1048576 ∧ t.t.size ≤ 1048576 from fun t ht => by have := hw.2.2 t ht; exact ⟨Nat.le_trans this.1 (by decide), Nat.le_trans this.2 (by decide)⟩)
  have HL := Lib.hid hl2
  obtain ⟨Wa, hWa⟩ : ∃ Wa, Wa = w1.alloc (.cells #[.int .i64 L, .bool d, .bool i, .bool g, .bool s] 26) := ⟨_, rfl⟩
  have Pa := Lib.hid (show B5 w1.heap.size L d i g s Wa by rw [hWa]; exact B5.new _ _ _ _ _ _)
  have Ba := Lib.hid (show Below w.heap.size w Wa by rw [hWa]; exact b1.alloc b1.size _)
  have Ca := Lib.hid (show Below w1.heap.size w1 Wa by rw [hWa]; exact (Below.refl _ _).alloc (Nat.le_refl _) _)
  have Hsz := Lib.hid b1.size
  clear b1 hl2 hw
  go_wp2_with fail
  rw [← hWa]
  clear hWa
  refine (HAT.out 0 (by omega) _ Ba.out).mono ?_
  rintro e w2 ⟨⟨X, hX, rfl⟩, rfl⟩
  obtain ⟨N, hN⟩ : ∃ N : Nat, N = X % 2 := ⟨_, rfl⟩
  have e1 : (X : Int).tmod 2 = (N : Int) := by rw [Int.tmod_eq_emod_of_nonneg (by omega)]; omega
  have e2 : (X : Int) % 2 = (N : Int) := by omega
  obtain ⟨bi, hbi⟩ : ∃ b : Bool, ((N : Int) == 0) = b := ⟨_, rfl⟩
  clear hX hN
  obtain ⟨p0, p1, p2, p3, p4⟩ := Pa.out.c
  have fa := Pa.out.f 2
  obtain ⟨Wb, hWb⟩ : ∃ Wb, Wb = Wa.setCell ⟨w1.heap.size, 2, none⟩ (.bool bi) := ⟨_, rfl⟩
  have Pb := Lib.hid (show B5 w1.heap.size L d bi g s Wb by rw [hWb]; exact b5_2 Pa.out _)
  have Bb := Lib.hid (show Below w.heap.size w Wb by rw [hWb]; exact Ba.out.setCell (p := ⟨w1.heap.size, 2, none⟩) Hsz.out _)
  have Cb := Lib.hid (show Below w1.heap.size w1 Wb by rw [hWb]; exact Ca.out.setCell (p := ⟨w1.heap.size, 2, none⟩) (Nat.le_refl _) _)
  go_wp2_with fail
  rw [← hWb]
  clear hWb p0 p1 p2 p3 p4 fa e1 e2 hbi
  refine (HAT.out 1 (by omega) _ Bb.out).mono ?_
  rintro e w2 ⟨⟨X, hX, rfl⟩, rfl⟩
  obtain ⟨N, hN⟩ : ∃ N : Nat, N = X % 2 := ⟨_, rfl⟩
  have e1 : (X : Int).tmod 2 = (N : Int) := by rw [Int.tmod_eq_emod_of_nonneg (by omega)]; omega
  have e2 : (X : Int) % 2 = (N : Int) := by omega
  obtain ⟨bg, hbg⟩ : ∃ b : Bool, ((N : Int) == 0) = b := ⟨_, rfl⟩
  clear hX hN
  obtain ⟨p0, p1, p2, p3, p4⟩ := Pb.out.c
  have fa := Pb.out.f 3
  obtain ⟨Wc, hWc⟩ : ∃ Wc, Wc = Wb.setCell ⟨w1.heap.size, 3, none⟩ (.bool bg) := ⟨_, rfl⟩
  have Pc := Lib.hid (show B5 w1.heap.size L d bi bg s Wc by rw [hWc]; exact b5_3 Pb.out _)
  have Bc := Lib.hid (show Below w.heap.size w Wc by rw [hWc]; exact Bb.out.setCell (p := ⟨w1.heap.size, 3, none⟩) Hsz.out _)
  have Cc := Lib.hid (show Below w1.heap.size w1 Wc by rw [hWc]; exact Cb.out.setCell (p := ⟨w1.heap.size, 3, none⟩) (Nat.le_refl _) _)
  go_wp2_with fail
  rw [← hWc]
  clear hWc p0 p1 p2 p3 p4 fa e1 e2 hbg
  refine (HAT.out 2 (by omega) _ Bc.out).mono ?_
  rintro e w2 ⟨⟨X, hX, rfl⟩, rfl⟩
  obtain ⟨N, hN⟩ : ∃ N : Nat, N = X % 2 := ⟨_, rfl⟩
  have e1 : (X : Int).tmod 2 = (N : Int) := by rw [Int.tmod_eq_emod_of_nonneg (by omega)]; omega
  have e2 : (X : Int) % 2 = (N : Int) := by omega
  obtain ⟨bs, hbs⟩ : ∃ b : Bool, ((N : Int) == 0) = b := ⟨_, rfl⟩
  clear hX hN
  obtain ⟨p0, p1, p2, p3, p4⟩ := Pc.out.c
  have fa := Pc.out.f 4
  obtain ⟨Wd, hWd⟩ : ∃ Wd, Wd = Wc.setCell ⟨w1.heap.size, 4, none⟩ (.bool bs) := ⟨_, rfl⟩
  have Pd := Lib.hid (show B5 w1.heap.size L d bi bg bs Wd by rw [hWd]; exact b5_4 Pc.out _)
  have Bd := Lib.hid (show Below w.heap.size w Wd by rw [hWd]; exact Bc.out.setCell (p := ⟨w1.heap.size, 4, none⟩) Hsz.out _)
  have Cd := Lib.hid (show Below w1.heap.size w1 Wd by rw [hWd]; exact Cc.out.setCell (p := ⟨w1.heap.size, 4, none⟩) (Nat.le_refl _) _)
  have Qd := Lib.hid Pd.out.c
  rw [hWd] at Qd
  obtain ⟨y0, y1, y2, y3, y4⟩ := Qd.out
  go_wp2_with fail
  rw [← hWd]
  clear hWd p0 p1 p2 p3 p4 fa e1 e2 hbs y0 y1 y2 y3 y4 Qd
  have HPD := Lib.hid (show w1.heap.size < Wd.heap.size from Pd.out.lt)
  refine (tw.impl_ExprTokens q a2 c2 ⟨L, d, bi, bg, bs⟩ Wd HN.out HK.out HS.out (HL.out.on Cd.out (Nat.le_refl _)) (HH.out.below Bd.out)).mono ?_
  rintro e w3 ⟨v, rfl, b3, o3⟩
  have htl := tw.etoks_len q ⟨L, d, bi, bg, bs⟩
  obtain ⟨T, hT⟩ : ∃ T, T = tw.etoks q ⟨L, d, bi, bg, bs⟩ := ⟨_, rfl⟩
  rw [← hT] at o3 htl
  obtain ⟨a3, c3, rfl⟩ := o3.form
  obtain ⟨n, hln⟩ : ∃ n, n = T.length := ⟨_, rfl⟩
  rw [← hln]
  have HLN := Lib.hid hln
  have P3 := Lib.hid (Pd.out.keep b3 HPD.out)
  have B3 := Lib.hid (Bd.out.trans (b3.mono Bd.out.size))
  have C3 := Lib.hid (Cd.out.trans (b3.mono Cd.out.size))
  have K3 := Lib.hid (o3.lies rfl)
  clear b3 o3 hln
  go_wp2_with fail
  refine (rt.spec_expr q a2 c2 _ HN.out HK.out HS.out (HL.out.on C3.out (Nat.le_refl _))).mono ?_
  have HTE := Lib.hid hT
  have HTL := Lib.hid htl
  clear hT
  cases hx : rt.exprOk q
  · have hTl : n = 0 := by rw [HLN.out, HTE.out]; unfold tw.etoks; rw [if_neg (by simp [hx])]; rfl
    rintro e w4 ⟨rfl, b4⟩
    have B4 := Lib.hid (B3.out.trans (b4.mono B3.out.size))
    clear b4 htl hx
    go_wp2
    go_ret
    exact ⟨rfl, B4.out⟩
  rintro e w4 ⟨rfl, b4⟩
  have P4 := Lib.hid (P3.out.keep b4 P3.out.lt)
  have B4 := Lib.hid (B3.out.trans (b4.mono B3.out.size))
  have C4 := Lib.hid (C3.out.trans (b4.mono C3.out.size))
  have K4 := Lib.hid ((K3.out.keep b4 (Nat.le_refl _)).up b4.size)
  have HX := Lib.hid hx
  clear b4 hx
  obtain ⟨p0, p1, p2, p3, p4⟩ := P4.out.c
  go_wp2_with fail
  clear p0 p1 p2 p3 p4
  refine (ps.spec_ok L d bi bg bs _).mono ?_
  cases hp : posOk L d
  · have hTl : n = 0 := by rw [HLN.out, HTE.out]; unfold tw.etoks; rw [if_neg (by simp [hp])]; rfl
    rintro e w5 ⟨rfl, b5⟩
    have B5' := Lib.hid (B4.out.trans (b5.mono B4.out.size))
    clear b5 htl hp
    go_wp2
    go_ret
    exact ⟨rfl, B5'.out⟩
  rintro e w5 ⟨rfl, b5⟩
  have P5 := Lib.hid (P4.out.keep b5 P4.out.lt)
  have B5' := Lib.hid (B4.out.trans (b5.mono B4.out.size))
  have C5 := Lib.hid (C4.out.trans (b5.mono C4.out.size))
  have K5 := Lib.hid ((K4.out.keep b5 (Nat.le_refl _)).up b5.size)
  have HR := Lib.hid (right (l := q) (p := ⟨L, d, bi, bg, bs⟩) HX.out hp)
  rw [← HTE.out] at HR
  clear b5 hp HTE HX
  have h0 := HR.out.some
  rw [← HLN.out] at h0
  have n0 : (0 : Int) < (n : Int) := by omega
  clear htl
  cases bi
  · cases bg
    · cases bs
      · obtain ⟨p0, p1, p2, p3, p4⟩ := P5.out.c
        go_wp2_with fail
        clear p0 p1 p2 p3 p4
        obtain ⟨y, hy⟩ : ∃ y, y = (keepL (tw.etoks q top)).length := ⟨_, rfl⟩
        have HY := Lib.hid hy
        have HOP := Lib.hid (yd.impl_operands T a3 c3 _ (by have := HTL.out; omega) K5.out)
        rw [HR.out.count, ← hy, ← HLN.out] at HOP
        clear hy
        refine HOP.out.mono ?_
        clear HOP
        rintro e w6 ⟨rfl, b6⟩
        have P6 := Lib.hid (P5.out.keep b6 P5.out.lt)
        have B6 := Lib.hid (B5'.out.trans (b6.mono B5'.out.size))
        have C6 := Lib.hid (C5.out.trans (b6.mono C5.out.size))
        have K6 := Lib.hid ((K5.out.keep b6 (Nat.le_refl _)).up b6.size)
        clear b6
        obtain ⟨p0, p1, p2, p3, p4⟩ := P6.out.c
        go_wp2_with fail
        clear p0 p1 p2 p3 p4
        refine (yd.impl_yield q a2 c2 _ HN.out HK.out HS.out (HL.out.on C6.out (Nat.le_refl _)) (HH.out.below B6.out)).mono ?_
        rintro e w7 ⟨v, rfl, b7, o7⟩
        obtain ⟨ay, cy, rfl⟩ : ∃ ay cy, v = .slice ay y cy := by obtain ⟨ay, cy, e⟩ := o7.form; exact ⟨ay, cy, by rw [HY.out]; exact e⟩
        have B7 := Lib.hid (B6.out.trans (b7.mono B6.out.size))
        clear b7 o7
        go_wp2
        go_ret
        exact ⟨rfl, B7.out⟩
      · have hh0 := HR.out.head rfl
        rw [List.getD_eq_getElem?_getD, List.getElem?_eq_getElem HR.out.some] at hh0
        have HHD := Lib.hid hh0
        clear hh0
        obtain ⟨p0, p1, p2, p3, p4⟩ := P5.out.c
        obtain ⟨bt, ot, rfl, hbt, hct⟩ := tk.lies_at K5.out HR.out.some
        obtain ⟨t0, t1, t2⟩ := hct 0 HR.out.some
        rw [Nat.zero_mul, Nat.add_zero] at t0
        clear t1 t2 hct
        go_wp2_with fail
        clear t0
        clear p0 p1 p2 p3 p4
        refine (operand.impl_begins _ _).mono ?_
        rw [show operand.begins (T[0]'HR.out.some).k = true from HHD.out]
        rintro e w' ⟨rfl, rfl⟩
        obtain ⟨p0, p1, p2, p3, p4⟩ := P5.out.c
        go_wp2_with fail
        clear p0 p1 p2 p3 p4
        obtain ⟨y, hy⟩ : ∃ y, y = (keepL (tw.etoks q top)).length := ⟨_, rfl⟩
        have HY := Lib.hid hy
        have HOP := Lib.hid (yd.impl_operands T (some ⟨bt, ot, none⟩) c3 _ (by have := HTL.out; omega) K5.out)
        rw [HR.out.count, ← hy, ← HLN.out] at HOP
        clear hy
        refine HOP.out.mono ?_
        clear HOP
        rintro e w6 ⟨rfl, b6⟩
        have P6 := Lib.hid (P5.out.keep b6 P5.out.lt)
        have B6 := Lib.hid (B5'.out.trans (b6.mono B5'.out.size))
        have C6 := Lib.hid (C5.out.trans (b6.mono C5.out.size))
        have K6 := Lib.hid ((K5.out.keep b6 (Nat.le_refl _)).up b6.size)
        clear b6
        obtain ⟨p0, p1, p2, p3, p4⟩ := P6.out.c
        go_wp2_with fail
        clear p0 p1 p2 p3 p4
        refine (yd.impl_yield q a2 c2 _ HN.out HK.out HS.out (HL.out.on C6.out (Nat.le_refl _)) (HH.out.below B6.out)).mono ?_
        rintro e w7 ⟨v, rfl, b7, o7⟩
        obtain ⟨ay, cy, rfl⟩ : ∃ ay cy, v = .slice ay y cy := by obtain ⟨ay, cy, e⟩ := o7.form; exact ⟨ay, cy, by rw [HY.out]; exact e⟩
        have B7 := Lib.hid (B6.out.trans (b7.mono B6.out.size))
        clear b7 o7
        go_wp2
        go_ret
        exact ⟨rfl, B7.out⟩
    · cases bs
      · obtain ⟨p0, p1, p2, p3, p4⟩ := P5.out.c
        go_wp2_with fail
        clear p0 p1 p2 p3 p4
        have HBR := Lib.hid (pb.impl_bare T a3 c3 62 _ (by have := HTL.out; omega) K5.out)
        rw [HR.out.noGt rfl, ← HLN.out] at HBR
        refine HBR.out.mono ?_
        clear HBR
        rintro e w6 ⟨rfl, b6⟩
        have P6 := Lib.hid (P5.out.keep b6 P5.out.lt)
        have B6 := Lib.hid (B5'.out.trans (b6.mono B5'.out.size))
        have C6 := Lib.hid (C5.out.trans (b6.mono C5.out.size))
        have K6 := Lib.hid ((K5.out.keep b6 (Nat.le_refl _)).up b6.size)
        clear b6
        obtain ⟨p0, p1, p2, p3, p4⟩ := P6.out.c
        go_wp2_with fail
        clear p0 p1 p2 p3 p4
        obtain ⟨y, hy⟩ : ∃ y, y = (keepL (tw.etoks q top)).length := ⟨_, rfl⟩
        have HY := Lib.hid hy
        have HOP := Lib.hid (yd.impl_operands T a3 c3 _ (by have := HTL.out; omega) K6.out)
        rw [HR.out.count, ← hy, ← HLN.out] at HOP
        clear hy
        refine HOP.out.mono ?_
        clear HOP
        rintro e w7 ⟨rfl, b7⟩
        have P7 := Lib.hid (P6.out.keep b7 P6.out.lt)
        have B7 := Lib.hid (B6.out.trans (b7.mono B6.out.size))
        have C7 := Lib.hid (C6.out.trans (b7.mono C6.out.size))
        have K7 := Lib.hid ((K6.out.keep b7 (Nat.le_refl _)).up b7.size)
        clear b7
        obtain ⟨p0, p1, p2, p3, p4⟩ := P7.out.c
        go_wp2_with fail
        clear p0 p1 p2 p3 p4
        refine (yd.impl_yield q a2 c2 _ HN.out HK.out HS.out (HL.out.on C7.out (Nat.le_refl _)) (HH.out.below B7.out)).mono ?_
        rintro e w8 ⟨v, rfl, b8, o8⟩
        obtain ⟨ay, cy, rfl⟩ : ∃ ay cy, v = .slice ay y cy := by obtain ⟨ay, cy, e⟩ := o8.form; exact ⟨ay, cy, by rw [HY.out]; exact e⟩
        have B8 := Lib.hid (B7.out.trans (b8.mono B7.out.size))
        clear b8 o8
        go_wp2
        go_ret
        exact ⟨rfl, B8.out⟩
      · have hh0 := HR.out.head rfl
        rw [List.getD_eq_getElem?_getD, List.getElem?_eq_getElem HR.out.some] at hh0
        have HHD := Lib.hid hh0
        clear hh0
        obtain ⟨p0, p1, p2, p3, p4⟩ := P5.out.c
        go_wp2_with fail
        clear p0 p1 p2 p3 p4
        have HBR := Lib.hid (pb.impl_bare T a3 c3 62 _ (by have := HTL.out; omega) K5.out)
        rw [HR.out.noGt rfl, ← HLN.out] at HBR
        refine HBR.out.mono ?_
        clear HBR
        rintro e w6 ⟨rfl, b6⟩
        have P6 := Lib.hid (P5.out.keep b6 P5.out.lt)
        have B6 := Lib.hid (B5'.out.trans (b6.mono B5'.out.size))
        have C6 := Lib.hid (C5.out.trans (b6.mono C5.out.size))
        have K6 := Lib.hid ((K5.out.keep b6 (Nat.le_refl _)).up b6.size)
        clear b6
        obtain ⟨p0, p1, p2, p3, p4⟩ := P6.out.c
        obtain ⟨bt, ot, rfl, hbt, hct⟩ := tk.lies_at K6.out HR.out.some
        obtain ⟨t0, t1, t2⟩ := hct 0 HR.out.some
        rw [Nat.zero_mul, Nat.add_zero] at t0
        clear t1 t2 hct
        go_wp2_with fail
        clear t0
        clear p0 p1 p2 p3 p4
        refine (operand.impl_begins _ _).mono ?_
        rw [show operand.begins (T[0]'HR.out.some).k = true from HHD.out]
        rintro e w' ⟨rfl, rfl⟩
        obtain ⟨p0, p1, p2, p3, p4⟩ := P6.out.c
        go_wp2_with fail
        clear p0 p1 p2 p3 p4
        obtain ⟨y, hy⟩ : ∃ y, y = (keepL (tw.etoks q top)).length := ⟨_, rfl⟩
        have HY := Lib.hid hy
        have HOP := Lib.hid (yd.impl_operands T (some ⟨bt, ot, none⟩) c3 _ (by have := HTL.out; omega) K6.out)
        rw [HR.out.count, ← hy, ← HLN.out] at HOP
        clear hy
        refine HOP.out.mono ?_
        clear HOP
        rintro e w7 ⟨rfl, b7⟩
        have P7 := Lib.hid (P6.out.keep b7 P6.out.lt)
        have B7 := Lib.hid (B6.out.trans (b7.mono B6.out.size))
        have C7 := Lib.hid (C6.out.trans (b7.mono C6.out.size))
        have K7 := Lib.hid ((K6.out.keep b7 (Nat.le_refl _)).up b7.size)
        clear b7
        obtain ⟨p0, p1, p2, p3, p4⟩ := P7.out.c
        go_wp2_with fail
        clear p0 p1 p2 p3 p4
        refine (yd.impl_yield q a2 c2 _ HN.out HK.out HS.out (HL.out.on C7.out (Nat.le_refl _)) (HH.out.below B7.out)).mono ?_
        rintro e w8 ⟨v, rfl, b8, o8⟩
        obtain ⟨ay, cy, rfl⟩ : ∃ ay cy, v = .slice ay y cy := by obtain ⟨ay, cy, e⟩ := o8.form; exact ⟨ay, cy, by rw [HY.out]; exact e⟩
        have B8 := Lib.hid (B7.out.trans (b8.mono B7.out.size))
        clear b8 o8
        go_wp2
        go_ret
        exact ⟨rfl, B8.out⟩
  · cases bg
    · cases bs
      · obtain ⟨p0, p1, p2, p3, p4⟩ := P5.out.c
        go_wp2_with fail
        clear p0 p1 p2 p3 p4
        have HBR := Lib.hid (pb.impl_bare T a3 c3 24 _ (by have := HTL.out; omega) K5.out)
        rw [HR.out.noIn rfl, ← HLN.out] at HBR
        refine HBR.out.mono ?_
        clear HBR
        rintro e w6 ⟨rfl, b6⟩
        have P6 := Lib.hid (P5.out.keep b6 P5.out.lt)
        have B6 := Lib.hid (B5'.out.trans (b6.mono B5'.out.size))
        have C6 := Lib.hid (C5.out.trans (b6.mono C5.out.size))
        have K6 := Lib.hid ((K5.out.keep b6 (Nat.le_refl _)).up b6.size)
        clear b6
        obtain ⟨p0, p1, p2, p3, p4⟩ := P6.out.c
        go_wp2_with fail
        clear p0 p1 p2 p3 p4
        obtain ⟨y, hy⟩ : ∃ y, y = (keepL (tw.etoks q top)).length := ⟨_, rfl⟩
        have HY := Lib.hid hy
        have HOP := Lib.hid (yd.impl_operands T a3 c3 _ (by have := HTL.out; omega) K6.out)
        rw [HR.out.count, ← hy, ← HLN.out] at HOP
        clear hy
        refine HOP.out.mono ?_
        clear HOP
        rintro e w7 ⟨rfl, b7⟩
        have P7 := Lib.hid (P6.out.keep b7 P6.out.lt)
        have B7 := Lib.hid (B6.out.trans (b7.mono B6.out.size))
        have C7 := Lib.hid (C6.out.trans (b7.mono C6.out.size))
        have K7 := Lib.hid ((K6.out.keep b7 (Nat.le_refl _)).up b7.size)
        clear b7
        obtain ⟨p0, p1, p2, p3, p4⟩ := P7.out.c
        go_wp2_with fail
        clear p0 p1 p2 p3 p4
        refine (yd.impl_yield q a2 c2 _ HN.out HK.out HS.out (HL.out.on C7.out (Nat.le_refl _)) (HH.out.below B7.out)).mono ?_
        rintro e w8 ⟨v, rfl, b8, o8⟩
        obtain ⟨ay, cy, rfl⟩ : ∃ ay cy, v = .slice ay y cy := by obtain ⟨ay, cy, e⟩ := o8.form; exact ⟨ay, cy, by rw [HY.out]; exact e⟩
        have B8 := Lib.hid (B7.out.trans (b8.mono B7.out.size))
        clear b8 o8
        go_wp2
        go_ret
        exact ⟨rfl, B8.out⟩
      · have hh0 := HR.out.head rfl
        rw [List.getD_eq_getElem?_getD, List.getElem?_eq_getElem HR.out.some] at hh0
        have HHD := Lib.hid hh0
        clear hh0
        obtain ⟨p0, p1, p2, p3, p4⟩ := P5.out.c
        go_wp2_with fail
        clear p0 p1 p2 p3 p4
        have HBR := Lib.hid (pb.impl_bare T a3 c3 24 _ (by have := HTL.out; omega) K5.out)
        rw [HR.out.noIn rfl, ← HLN.out] at HBR
        refine HBR.out.mono ?_
        clear HBR
        rintro e w6 ⟨rfl, b6⟩
        have P6 := Lib.hid (P5.out.keep b6 P5.out.lt)
        have B6 := Lib.hid (B5'.out.trans (b6.mono B5'.out.size))
        have C6 := Lib.hid (C5.out.trans (b6.mono C5.out.size))
        have K6 := Lib.hid ((K5.out.keep b6 (Nat.le_refl _)).up b6.size)
        clear b6
        obtain ⟨p0, p1, p2, p3, p4⟩ := P6.out.c
        obtain ⟨bt, ot, rfl, hbt, hct⟩ := tk.lies_at K6.out HR.out.some
        obtain ⟨t0, t1, t2⟩ := hct 0 HR.out.some
        rw [Nat.zero_mul, Nat.add_zero] at t0
        clear t1 t2 hct
        go_wp2_with fail
        clear t0
        clear p0 p1 p2 p3 p4
        refine (operand.impl_begins _ _).mono ?_
        rw [show operand.begins (T[0]'HR.out.some).k = true from HHD.out]
        rintro e w' ⟨rfl, rfl⟩
        obtain ⟨p0, p1, p2, p3, p4⟩ := P6.out.c
        go_wp2_with fail
        clear p0 p1 p2 p3 p4
        obtain ⟨y, hy⟩ : ∃ y, y = (keepL (tw.etoks q top)).length := ⟨_, rfl⟩
        have HY := Lib.hid hy
        have HOP := Lib.hid (yd.impl_operands T (some ⟨bt, ot, none⟩) c3 _ (by have := HTL.out; omega) K6.out)
        rw [HR.out.count, ← hy, ← HLN.out] at HOP
        clear hy
        refine HOP.out.mono ?_
        clear HOP
        rintro e w7 ⟨rfl, b7⟩
        have P7 := Lib.hid (P6.out.keep b7 P6.out.lt)
        have B7 := Lib.hid (B6.out.trans (b7.mono B6.out.size))
        have C7 := Lib.hid (C6.out.trans (b7.mono C6.out.size))
        have K7 := Lib.hid ((K6.out.keep b7 (Nat.le_refl _)).up b7.size)
        clear b7
        obtain ⟨p0, p1, p2, p3, p4⟩ := P7.out.c
        go_wp2_with fail
        clear p0 p1 p2 p3 p4
        refine (yd.impl_yield q a2 c2 _ HN.out HK.out HS.out (HL.out.on C7.out (Nat.le_refl _)) (HH.out.below B7.out)).mono ?_
        rintro e w8 ⟨v, rfl, b8, o8⟩
        obtain ⟨ay, cy, rfl⟩ : ∃ ay cy, v = .slice ay y cy := by obtain ⟨ay, cy, e⟩ := o8.form; exact ⟨ay, cy, by rw [HY.out]; exact e⟩
        have B8 := Lib.hid (B7.out.trans (b8.mono B7.out.size))
        clear b8 o8
        go_wp2
        go_ret
        exact ⟨rfl, B8.out⟩
    · cases bs
      · obtain ⟨p0, p1, p2, p3, p4⟩ := P5.out.c
        go_wp2_with fail
        clear p0 p1 p2 p3 p4
        have HBR := Lib.hid (pb.impl_bare T a3 c3 24 _ (by have := HTL.out; omega) K5.out)
        rw [HR.out.noIn rfl, ← HLN.out] at HBR
        refine HBR.out.mono ?_
        clear HBR
        rintro e w6 ⟨rfl, b6⟩
        have P6 := Lib.hid (P5.out.keep b6 P5.out.lt)
        have B6 := Lib.hid (B5'.out.trans (b6.mono B5'.out.size))
        have C6 := Lib.hid (C5.out.trans (b6.mono C5.out.size))
        have K6 := Lib.hid ((K5.out.keep b6 (Nat.le_refl _)).up b6.size)
        clear b6
        obtain ⟨p0, p1, p2, p3, p4⟩ := P6.out.c
        go_wp2_with fail
        clear p0 p1 p2 p3 p4
        have HBR := Lib.hid (pb.impl_bare T a3 c3 62 _ (by have := HTL.out; omega) K6.out)
        rw [HR.out.noGt rfl, ← HLN.out] at HBR
        refine HBR.out.mono ?_
        clear HBR
        rintro e w7 ⟨rfl, b7⟩
        have P7 := Lib.hid (P6.out.keep b7 P6.out.lt)
        have B7 := Lib.hid (B6.out.trans (b7.mono B6.out.size))
        have C7 := Lib.hid (C6.out.trans (b7.mono C6.out.size))
        have K7 := Lib.hid ((K6.out.keep b7 (Nat.le_refl _)).up b7.size)
        clear b7
        obtain ⟨p0, p1, p2, p3, p4⟩ := P7.out.c
        go_wp2_with fail
        clear p0 p1 p2 p3 p4
        obtain ⟨y, hy⟩ : ∃ y, y = (keepL (tw.etoks q top)).length := ⟨_, rfl⟩
        have HY := Lib.hid hy
        have HOP := Lib.hid (yd.impl_operands T a3 c3 _ (by have := HTL.out; omega) K7.out)
        rw [HR.out.count, ← hy, ← HLN.out] at HOP
        clear hy
        refine HOP.out.mono ?_
        clear HOP
        rintro e w8 ⟨rfl, b8⟩
        have P8 := Lib.hid (P7.out.keep b8 P7.out.lt)
        have B8 := Lib.hid (B7.out.trans (b8.mono B7.out.size))
        have C8 := Lib.hid (C7.out.trans (b8.mono C7.out.size))
        have K8 := Lib.hid ((K7.out.keep b8 (Nat.le_refl _)).up b8.size)
        clear b8
        obtain ⟨p0, p1, p2, p3, p4⟩ := P8.out.c
        go_wp2_with fail
        clear p0 p1 p2 p3 p4
        refine (yd.impl_yield q a2 c2 _ HN.out HK.out HS.out (HL.out.on C8.out (Nat.le_refl _)) (HH.out.below B8.out)).mono ?_
        rintro e w9 ⟨v, rfl, b9, o9⟩
        obtain ⟨ay, cy, rfl⟩ : ∃ ay cy, v = .slice ay y cy := by obtain ⟨ay, cy, e⟩ := o9.form; exact ⟨ay, cy, by rw [HY.out]; exact e⟩
        have B9 := Lib.hid (B8.out.trans (b9.mono B8.out.size))
        clear b9 o9
        go_wp2
        go_ret
        exact ⟨rfl, B9.out⟩
      · have hh0 := HR.out.head rfl
        rw [List.getD_eq_getElem?_getD, List.getElem?_eq_getElem HR.out.some] at hh0
        have HHD := Lib.hid hh0
        clear hh0
        obtain ⟨p0, p1, p2, p3, p4⟩ := P5.out.c
        go_wp2_with fail
        clear p0 p1 p2 p3 p4
        have HBR := Lib.hid (pb.impl_bare T a3 c3 24 _ (by have := HTL.out; omega) K5.out)
        rw [HR.out.noIn rfl, ← HLN.out] at HBR
        refine HBR.out.mono ?_
        clear HBR
        rintro e w6 ⟨rfl, b6⟩
        have P6 := Lib.hid (P5.out.keep b6 P5.out.lt)
        have B6 := Lib.hid (B5'.out.trans (b6.mono B5'.out.size))
        have C6 := Lib.hid (C5.out.trans (b6.mono C5.out.size))
        have K6 := Lib.hid ((K5.out.keep b6 (Nat.le_refl _)).up b6.size)
        clear b6
        obtain ⟨p0, p1, p2, p3, p4⟩ := P6.out.c
        go_wp2_with fail
        clear p0 p1 p2 p3 p4
        have HBR := Lib.hid (pb.impl_bare T a3 c3 62 _ (by have := HTL.out; omega) K6.out)
        rw [HR.out.noGt rfl, ← HLN.out] at HBR
        refine HBR.out.mono ?_
        clear HBR
        rintro e w7 ⟨rfl, b7⟩
        have P7 := Lib.hid (P6.out.keep b7 P6.out.lt)
        have B7 := Lib.hid (B6.out.trans (b7.mono B6.out.size))
        have C7 := Lib.hid (C6.out.trans (b7.mono C6.out.size))
        have K7 := Lib.hid ((K6.out.keep b7 (Nat.le_refl _)).up b7.size)
        clear b7
        obtain ⟨p0, p1, p2, p3, p4⟩ := P7.out.c
        obtain ⟨bt, ot, rfl, hbt, hct⟩ := tk.lies_at K7.out HR.out.some
        obtain ⟨t0, t1, t2⟩ := hct 0 HR.out.some
        rw [Nat.zero_mul, Nat.add_zero] at t0
        clear t1 t2 hct
        go_wp2_with fail
        clear t0
        clear p0 p1 p2 p3 p4
        refine (operand.impl_begins _ _).mono ?_
        rw [show operand.begins (T[0]'HR.out.some).k = true from HHD.out]
        rintro e w' ⟨rfl, rfl⟩
        obtain ⟨p0, p1, p2, p3, p4⟩ := P7.out.c
        go_wp2_with fail
        clear p0 p1 p2 p3 p4
        obtain ⟨y, hy⟩ : ∃ y, y = (keepL (tw.etoks q top)).length := ⟨_, rfl⟩
        have HY := Lib.hid hy
        have HOP := Lib.hid (yd.impl_operands T (some ⟨bt, ot, none⟩) c3 _ (by have := HTL.out; omega) K7.out)
        rw [HR.out.count, ← hy, ← HLN.out] at HOP
        clear hy
        refine HOP.out.mono ?_
        clear HOP
        rintro e w8 ⟨rfl, b8⟩
        have P8 := Lib.hid (P7.out.keep b8 P7.out.lt)
        have B8 := Lib.hid (B7.out.trans (b8.mono B7.out.size))
        have C8 := Lib.hid (C7.out.trans (b8.mono C7.out.size))
        have K8 := Lib.hid ((K7.out.keep b8 (Nat.le_refl _)).up b8.size)
        clear b8
        obtain ⟨p0, p1, p2, p3, p4⟩ := P8.out.c
        go_wp2_with fail
        clear p0 p1 p2 p3 p4
        refine (yd.impl_yield q a2 c2 _ HN.out HK.out HS.out (HL.out.on C8.out (Nat.le_refl _)) (HH.out.below B8.out)).mono ?_
        rintro e w9 ⟨v, rfl, b9, o9⟩
        obtain ⟨ay, cy, rfl⟩ : ∃ ay cy, v = .slice ay y cy := by obtain ⟨ay, cy, e⟩ := o9.form; exact ⟨ay, cy, by rw [HY.out]; exact e⟩
        have B9 := Lib.hid (B8.out.trans (b9.mono B8.out.size))
        clear b9 o9
        go_wp2
        go_ret
        exact ⟨rfl, B9.out⟩

theorem walk (a : Option Addr) (len cap : Nat) (zs : List Int) (w : World) (hz : draw.IsRow .u8 w a len cap zs) (hh : Held w) :
    Calls Tryz.prog 7 #[.slice a len cap] w fun e w' => e = .returned (.bool true) ∧ Below w.heap.size w w' := by
  have hlm : len ≤ maxLen := by
    rcases hz with ⟨_, rfl, _, _⟩ | ⟨x, _, hl, hm, _⟩
    · exact Nat.zero_le _
    · exact Nat.le_trans hl hm
  unfold maxLen at hlm
  by_cases hl : len ≤ 1048576
  · exact core (draw.code_of hz) hl hh
  · have hbig : decide (1048576 < len) = true := by simp; omega
    clear hz
    go_enter Tryz.func7, Tryz.ntmps7
    go_wp2_with fail
    refine (draw.big_any a len cap _ (by omega)).mono ?_
    rw [hbig]
    rintro e w1 ⟨rfl, rfl⟩
    go_wp2
    go_ret
    exact ⟨rfl, Below.refl _ _⟩
end Go.Proofs.YtiilpnoaocfjgaaGreatDoor.lawBare
