/-
  What ParseExpr and ReadExpr answer: the mathematics.
  impl's exprParser: placeOf, tokensFault, sizeFault; ParseExpr: contracts.
  impl's exprParser: ParseExpr: contracts.
  What ReadExpr answers: the mathematics.
  impl's exprParser: ReadExpr: contracts.
  FnLevels: its texts, read: by the kernel.
  'laws.FnLevels' returns true at every slice of bytes, and leaves it as it was. Of any two of thirteen operators between names the one with the higher level binds tighter; equal levels associate to the left, powers to the right; comparisons and matches are a fault at the second operator. No condition.
-/
import Derived.Test.YtiilpnoaocfjgaaGreatDoorPeUp
import Derived.Test.YtiilpnoaocfjgaaGreatDoorGEx
import Derived.Test.YtiilpnoaocfjgaaGreatDoorGLex
import Derived.Test.YtiilpnoaocfjgaaGreatDoorDepthMath
import Derived.Test.YtiilpnoaocfjgaaGreatDoorDepth
import Derived.Test.YtiilpnoaocfjgaaGreatDoorOpSpell
import Derived.Test.YtiilpnoaocfjgaaGreatDoorCards
import Derived.Test.YtiilpnoaocfjgaaGreatDoorTie
import Derived.Test.YtiilpnoaocfjgaaGreatDoorLaidKw
import Derived.Test.YtiilpnoaocfjgaaGreatDoorGArgsA
import Derived.Test.YtiilpnoaocfjgaaGreatDoorSameTree
import Derived.OpenVars
import Derived.Deep.DeepHandedRow
import Derived.Deep.RegionHeld3
import Derived.Laws.StructEq
import Derived.Lib.SmallJoins
import Derived.Stop.LaidErr
namespace Go.Proofs.YtiilpnoaocfjgaaGreatDoor.pe
open Go.RowKit
open nd (Nd depthF)
open tk (Tk)
open ps (Ps posOk)
open tksok (tokensOk)
set_option linter.unusedVariables false
set_option linter.unusedSimpArgs false

def ta (l : List Tk) (i : Nat) : Int := (l[i]?.map (·.a)).getD 0
theorem ta_at {l : List Tk} {i : Nat} (h : i < l.length) : ta l i = l[i].a := by unfold ta; rw [List.getElem?_eq_getElem h]; rfl
/-- Where token i lies, or the end of the last one. -/
def place (l : List Tk) (i : Nat) : Int :=
  if i < l.length then ta l i else if l.length = 0 then 0 else wrap64 (ta l (l.length - 1) + ((tx l (l.length - 1)).size : Int))
/-- The fault of tokens, of a tree: kind and place. -/
def tf (l : List Tk) : Int × Int := if tokensOk l = true then (if 0 ≤ pb.nestOf l then (4, place l (pb.nestOf l).toNat) else (0, 0)) else (2, 0)
def sf (t : List Nd) : Int × Int := if 400 < t.length then (1, 0) else if 40 < depthF t then (4, 0) else (0, 0)
structure Out where
  t : List Nd
  n : Nat
  k : Int
  a : Int
def finish (l : List Tk) : R → Out
  | .bad j => ⟨[], 0, 3, place l j⟩
  | .ok _ _ t j => if (sf t).1 = 0 then ⟨t, j, 0, 0⟩ else ⟨[], 0, (sf t).1, (sf t).2⟩
def parse (l : List Tk) (p : Ps) : Out :=
  if posOk p.l p.d = true then
    (if (tf l).1 = 0 then finish l (ex l (l.length + 1) p 0) else ⟨[], 0, (tf l).1, (tf l).2⟩)
  else ⟨[], 0, 3, 0⟩
theorem toks_len {l : List Tk} (h : (tf l).1 = 0) : tokensOk l = true ∧ l.length ≤ 3000 ∧ pb.nestOf l < 0 := by
  unfold tf at h
  split at h
  · next h1 =>
    refine ⟨h1, ?_, ?_⟩
    · unfold tokensOk at h1
      rw [Bool.and_eq_true, decide_eq_true_eq] at h1
      exact h1.1
    · split at h
      · exact absurd h (show ¬ (4 : Int) = 0 by decide)
      · omega
  · exact absurd h (show ¬ (2 : Int) = 0 by decide)
theorem sf_ok {t : List Nd} (h : (sf t).1 = 0) : t.length ≤ 400 ∧ depthF t ≤ 40 := by
  unfold sf at h
  split at h
  · exact absurd h (show ¬ (1 : Int) = 0 by decide)
  split at h
  · exact absurd h (show ¬ (4 : Int) = 0 by decide)
  · omega
end Go.Proofs.YtiilpnoaocfjgaaGreatDoor.pe

namespace Go.Proofs.YtiilpnoaocfjgaaGreatDoor.pr
open Go.ChangeShapes Go.WideShapes Go.ChangeAt Go.RowKit
open tk (Tk)
open nd (Nd PT KidV IBlk OwnI shN makeT)
open ps (Ps B5 posOk kidI top)
open pe
open spell (Held)
open tksok (tokensOk)
set_option linter.unusedVariables false
set_option linter.unusedSimpArgs false
set_option maxRecDepth 20000

theorem lies_on {w w' : World} {a : Option Addr} {l : List Tk} (h : tk.Lies w.heap.size w a l) (hb : Below w.heap.size w w') : tk.Lies w'.heap.size w' a l := (h.keep hb (Nat.le_refl _)).up hb.size

set_option maxHeartbeats 1600000 in
theorem impl_place (l : List Tk) (a : Option Addr) (cap i : Nat) (w : World) (hc : tk.Lies w.heap.size w a l) (hl : l.length ≤ 1048576) (hi : i ≤ l.length) (hm : ∀ t ∈ l, t.s.size ≤ 1048576) :
    Calls Tryz.prog 63 #[.slice a l.length cap, .int .i64 (i : Int)] w fun e w' => e = .returned (.int .i64 (place l i)) ∧ Below w.heap.size w w' := by
  by_cases h : i < l.length
  · obtain ⟨b, o, rfl, hlt, hat⟩ := tk.lies_at hc h
    obtain ⟨d0, d1, d2⟩ := hat i h
    rw [show place l i = l[i].a by unfold place; rw [if_pos h, pe.ta_at h]]
    obtain ⟨y, hy⟩ : ∃ y, l[i].a = y := ⟨_, rfl⟩
    rw [hy] at d2 ⊢
    obtain ⟨N, hN⟩ : ∃ N, l.length = N := ⟨_, rfl⟩
    rw [hN] at h hl hi ⊢
    have h1 : (i : Int) < (N : Int) := by omega
    have h0 : (0 : Int) ≤ (i : Int) := by omega
    clear hy d0 d1 hc hm hN h hat hlt
    go_enter Tryz.func63, Tryz.ntmps63
    go_wp2
    go_ret
    exact ⟨rfl, Below.refl _ _⟩
  · by_cases h0 : l.length = 0
    · rw [show place l i = 0 by unfold place; rw [if_neg h, if_pos h0]]
      obtain rfl : i = 0 := by omega
      rw [h0]
      clear hc hl hi hm h h0
      go_enter Tryz.func63, Tryz.ntmps63
      go_wp2
      go_ret
      exact ⟨rfl, Below.refl _ _⟩
    · have hlast : l.length - 1 < l.length := by omega
      obtain ⟨b, o, rfl, hlt, hat⟩ := tk.lies_at hc hlast
      obtain ⟨d0, d1, d2⟩ := hat (l.length - 1) hlast
      have hsz := hm _ (List.getElem_mem hlast)
      rw [show place l i = wrap64 (l[l.length - 1].a + (l[l.length - 1].s.size : Int)) by unfold place; rw [if_neg h, if_neg h0, pe.ta_at hlast, tx_at hlast]]
      obtain ⟨t, ht⟩ : ∃ t, l[l.length - 1] = t := ⟨_, rfl⟩
      rw [ht] at d0 d1 d2 hsz ⊢
      obtain ⟨K, hK⟩ : ∃ K, l.length = K + 1 := ⟨l.length - 1, by omega⟩
      rw [hK] at h hl hi h0 d0 d1 d2 ⊢
      rw [show K + 1 - 1 = K by omega] at d0 d1 d2
      obtain rfl : i = K + 1 := by omega
      have q1 : (((K + 1 : Nat) : Int) == 0) = false := by rw [beq_eq_false_iff_ne]; omega
      have q2 : ¬ ((K + 1 : Nat) : Int) < ((K + 1 : Nat) : Int) := by omega
      have q3 : (((K + 1 : Nat) : Int) - 1) = (K : Int) := by omega
      have q4 : (K : Int) < ((K + 1 : Nat) : Int) := by omega
      have q5 : (0 : Int) ≤ (K : Int) := by omega
      have HBEL := Lib.hid (show Below w.heap.size w (w.alloc (.cells #[.int .i64 t.k, .string t.s, .int .i64 t.a] 35)) from (Below.refl _ _).alloc (Nat.le_refl _) _)
      have e0 : ((K + 1 : Nat) : Int) = (K : Int) + 1 := by omega
      rw [e0] at q1 q2 q3 q4
      clear hc hm hat hlt ht hK h h0 hlast
      go_enter Tryz.func63, Tryz.ntmps63
      rw [e0]
      go_wp2
      go_ret
      exact ⟨by first | rfl | (rw [nd.wrap_eq]; rfl) | simp [nd.wrap_eq], HBEL.out⟩

set_option maxHeartbeats 1600000 in
theorem impl_tf (l : List Tk) (a : Option Addr) (cap : Nat) (w : World) (hc : tk.Lies w.heap.size w a l) (hl : l.length ≤ 1048576) (hm : ∀ t ∈ l, t.s.size ≤ 1048576) (hh : Held w) :
    Calls Tryz.prog 61 #[.slice a l.length cap] w fun e w' => e = .returned (.agg #[.int .i64 (tf l).1, .int .i64 (tf l).2]) ∧ Below w.heap.size w w' := by
  have HC := Lib.hid hc
  obtain ⟨W, hW⟩ : ∃ W, W = w.alloc (.cells #[.int .i64 0, .int .i64 0] 31) := ⟨_, rfl⟩
  have hB : Below w.heap.size w W := by rw [hW]; exact (Below.refl _ _).alloc (Nat.le_refl _) _
  have HR := Lib.hid (show Bk w.heap.size #[.int .i64 0, .int .i64 0] 31 W by rw [hW]; exact Bk.new _ _ _)
  have HB := Lib.hid hB
  have HTO := Lib.hid (tksok.impl_toksOk l a cap W hl (lies_on hc hB) hm (hh.below hB))
  have HNE := Lib.hid (fun W2 (hc2 : tk.Lies W2.heap.size W2 a l) => pb.impl_nestOf l a cap W2 hl hc2)
  have HPL := Lib.hid (fun i W2 (hc2 : tk.Lies W2.heap.size W2 a l) hi => impl_place l a cap i W2 hc2 hl hi hm)
  have hnr := pb.nestOf_range l
  obtain ⟨NV, hNV⟩ : ∃ NV, pb.nestOf l = NV := ⟨_, rfl⟩
  rw [hNV] at HNE hnr
  cases ht : tokensOk l with
  | false =>
    rw [show tf l = (2, 0) by unfold tf; rw [ht]; rfl]
    rw [ht] at HTO
    clear hc hl hm hh hB ht hNV hnr
    go_enter Tryz.func61, Tryz.ntmps61
    go_wp2_with fail
    rw [← hW]
    clear hW
    refine HTO.out.mono ?_
    rintro e w1 ⟨rfl, b1⟩
    have R1 := Lib.hid (HR.out.keep b1)
    have B1 := Lib.hid (HB.out.trans (b1.mono HB.out.size))
    clear b1
    obtain ⟨r0, r1⟩ := R1.out.c2
    have g0 := R1.out.f 0
    have g1 := R1.out.f 1
    go_wp2
    obtain ⟨t0, t1⟩ := (R1.out.put2 (.int .i64 2) (.int .i64 0)).c2
    exact bodyPost_ret (v := .agg #[.int .i64 2, .int .i64 0]) (by simp [results, Tryz.results61, go_sem, t0, t1]) rfl ⟨rfl, below_put2 B1.out (Nat.le_refl _) _ _⟩
  | true =>
    rw [ht] at HTO
    by_cases hn : 0 ≤ NV
    · obtain ⟨K, rfl⟩ : ∃ K : Nat, NV = (K : Int) := ⟨NV.toNat, by omega⟩
      rw [show tf l = (4, place l K) by unfold tf; rw [ht, if_pos rfl, hNV, if_pos hn]; simp]
      have HK := Lib.hid (show K ≤ l.length by omega)
      obtain ⟨PV, hPV⟩ : ∃ PV, place l K = PV := ⟨_, rfl⟩
      have HPV := Lib.hid hPV
      rw [hPV]
      clear hc hl hm hh hB ht hNV hnr hPV
      go_enter Tryz.func61, Tryz.ntmps61
      go_wp2_with fail
      rw [← hW]
      clear hW
      refine HTO.out.mono ?_
      rintro e w1 ⟨rfl, b1⟩
      have B1 := Lib.hid (HB.out.trans (b1.mono HB.out.size))
      have R1 := Lib.hid (HR.out.keep b1)
      clear b1
      go_wp2_with fail
      refine (HNE.out _ (lies_on HC.out B1.out)).mono ?_
      rintro e w2 ⟨rfl, b2⟩
      have B2 := Lib.hid (B1.out.trans (b2.mono B1.out.size))
      have R2 := Lib.hid (R1.out.keep b2)
      clear b2
      go_wp2_with fail
      refine (HPL.out K _ (lies_on HC.out B2.out) HK.out).mono ?_
      rw [HPV.out]
      rintro e w3 ⟨rfl, b3⟩
      have B3 := Lib.hid (B2.out.trans (b3.mono B2.out.size))
      have R3 := Lib.hid (R2.out.keep b3)
      clear b3
      obtain ⟨r0, r1⟩ := R3.out.c2
      have g0 := R3.out.f 0
      have g1 := R3.out.f 1
      go_wp2
      obtain ⟨t0, t1⟩ := (R3.out.put2 (.int .i64 4) (.int .i64 PV)).c2
      exact bodyPost_ret (v := .agg #[.int .i64 4, .int .i64 PV]) (by simp [results, Tryz.results61, go_sem, t0, t1]) rfl ⟨rfl, below_put2 B3.out (Nat.le_refl _) _ _⟩
    · rw [show tf l = (0, 0) by unfold tf; rw [ht, if_pos rfl, hNV, if_neg hn]]
      obtain rfl : NV = -1 := by omega
      clear hc hl hm hh hB ht hNV hnr hn
      go_enter Tryz.func61, Tryz.ntmps61
      go_wp2_with fail
      rw [← hW]
      clear hW
      refine HTO.out.mono ?_
      rintro e w1 ⟨rfl, b1⟩
      have B1 := Lib.hid (HB.out.trans (b1.mono HB.out.size))
      have R1 := Lib.hid (HR.out.keep b1)
      clear b1
      go_wp2_with fail
      refine (HNE.out _ (lies_on HC.out B1.out)).mono ?_
      rintro e w2 ⟨rfl, b2⟩
      have B2 := Lib.hid (B1.out.trans (b2.mono B1.out.size))
      have R2 := Lib.hid (R1.out.keep b2)
      clear b2
      obtain ⟨r0, r1⟩ := R2.out.c2
      have g0 := R2.out.f 0
      have g1 := R2.out.f 1
      go_wp2
      obtain ⟨t0, t1⟩ := (R2.out.put2 (.int .i64 0) (.int .i64 0)).c2
      exact bodyPost_ret (v := .agg #[.int .i64 0, .int .i64 0]) (by simp [results, Tryz.results61, go_sem, t0, t1]) rfl ⟨rfl, below_put2 B2.out (Nat.le_refl _) _ _⟩

set_option maxHeartbeats 1600000 in
theorem impl_sf (t : List Nd) (a : Option Addr) (cap : Nat) (w : World) (hc : nd.Lies w.heap.size w a t) (hl : t.length ≤ 1048576) (hk : ∀ n ∈ t, n.kids.length ≤ 1048576) :
    Calls Tryz.prog 64 #[.slice a t.length cap] w fun e w' => e = .returned (.agg #[.int .i64 (sf t).1, .int .i64 (sf t).2]) ∧ Below w.heap.size w w' := by
  obtain ⟨W, hW⟩ : ∃ W, W = w.alloc (.cells #[.int .i64 0, .int .i64 0] 31) := ⟨_, rfl⟩
  have hB : Below w.heap.size w W := by rw [hW]; exact (Below.refl _ _).alloc (Nat.le_refl _) _
  have HR := Lib.hid (show Bk w.heap.size #[.int .i64 0, .int .i64 0] 31 W by rw [hW]; exact Bk.new _ _ _)
  have HB := Lib.hid hB
  have HD := Lib.hid (nd.impl_depth t a cap W hl hk (hc.on hB (Nat.le_refl _)))
  obtain ⟨D, hD⟩ : ∃ D, nd.depthF t = D := ⟨_, rfl⟩
  rw [hD] at HD
  have hsf : sf t = if 400 < t.length then (1, 0) else if 40 < D then (4, 0) else (0, 0) := by unfold sf; rw [hD]
  rw [hsf]
  obtain ⟨N, hN⟩ : ∃ N, t.length = N := ⟨_, rfl⟩
  rw [hN] at HD hl ⊢
  clear hc hk hB hD hsf hN
  by_cases h1 : 400 < N
  · have q1 : (400 : Int) < (N : Int) := by omega
    rw [if_pos h1]
    clear h1
    have hb1 := Bk.new w #[.int .i64 1, .int .i64 0] 31
    have HB1 := Lib.hid (show Below w.heap.size w (w.alloc (.cells #[.int .i64 1, .int .i64 0] 31)) from (Below.refl _ _).alloc (Nat.le_refl _) _)
    obtain ⟨t0, t1⟩ := hb1.c2
    clear hW
    go_enter Tryz.func64, Tryz.ntmps64
    go_wp2
    exact bodyPost_ret (v := .agg #[.int .i64 1, .int .i64 0]) (by simp [results, Tryz.results64, go_sem, t0, t1]) rfl ⟨rfl, HB1.out⟩
  · have q1 : ¬ (400 : Int) < (N : Int) := by omega
    rw [if_neg h1]
    by_cases h2 : 40 < D
    all_goals
      first
      | (have q2 : (40 : Int) < (D : Int) := by omega
         rw [if_pos h2])
      | (have q2 : ¬ (40 : Int) < (D : Int) := by omega
         rw [if_neg h2])
      clear h1 h2
      go_enter Tryz.func64, Tryz.ntmps64
      go_wp2_with fail
      rw [← hW]
      clear hW
      refine HD.out.mono ?_
      rintro e w1 ⟨rfl, b1⟩
      have B1 := Lib.hid (HB.out.trans (b1.mono HB.out.size))
      have R1 := Lib.hid (HR.out.keep b1)
      clear b1
      obtain ⟨r0, r1⟩ := R1.out.c2
      have g0 := R1.out.f 0
      have g1 := R1.out.f 1
      go_wp2
      first
      | (obtain ⟨t0, t1⟩ := (R1.out.put2 (.int .i64 4) (.int .i64 0)).c2
         exact bodyPost_ret (v := .agg #[.int .i64 4, .int .i64 0]) (by simp [results, Tryz.results64, go_sem, t0, t1]) rfl ⟨rfl, below_put2 B1.out (Nat.le_refl _) _ _⟩)
      | (obtain ⟨t0, t1⟩ := (R1.out.put2 (.int .i64 0) (.int .i64 0)).c2
         exact bodyPost_ret (v := .agg #[.int .i64 0, .int .i64 0]) (by simp [results, Tryz.results64, go_sem, t0, t1]) rfl ⟨rfl, below_put2 B1.out (Nat.le_refl _) _ _⟩)
end Go.Proofs.YtiilpnoaocfjgaaGreatDoor.pr

namespace Go.Proofs.YtiilpnoaocfjgaaGreatDoor.pr
open Go.ChangeShapes Go.WideShapes Go.ChangeAt Go.RowKit
open tk (Tk)
open nd (Nd PT KidV IBlk OwnI shN makeT)
open ps (Ps B5 posOk kidI top)
open pe
open spell (Held)
open tksok (tokensOk)
set_option linter.unusedVariables false
set_option linter.unusedSimpArgs false
set_option maxRecDepth 20000


theorem PT.up {B B' : Nat} {v : Value} {z : List (Nd × Value)} {r : Nat → Nat} {w : World} (h : PT B v z r w) (hB : B' ≤ B) : PT B' v z r w :=
  ⟨⟨h.own.1, h.own.2.elim .inl (fun ⟨g, cap, cur, hv, hg, r⟩ => .inr ⟨g, cap, cur, hv, Nat.le_trans hB hg, r⟩)⟩, fun i hi => (h.kid i hi).elim .inl (fun ⟨cap, h1, h2, h3, h4⟩ => .inr ⟨cap, h1, h2, Nat.le_trans hB h3, h4⟩), h.off, h.asc, h.lt⟩
/-- What ParseExpr answers. -/
def POut (O : pe.Out) (w : World) (e : Ending) (w' : World) : Prop :=
  ∃ v z r, e = .returned (.tuple #[v, .int .i64 (O.n : Int), .agg #[.int .i64 O.k, .int .i64 O.a]]) ∧ z.map (·.1) = O.t ∧ PT w.heap.size v z r w' ∧ Below w.heap.size w w'
theorem pout_bad {k a : Int} {w w' : World} {e : Ending} (he : e = .returned (.tuple #[.slice none 0 0, .int .i64 0, .agg #[.int .i64 k, .int .i64 a]])) (hb : Below w.heap.size w w') : POut ⟨[], 0, k, a⟩ w e w' :=
  ⟨.slice none 0 0, [], fun i => i, he, rfl, PT.nil _ _, hb⟩
set_option maxHeartbeats 6400000 in
theorem impl_parse (l : List Tk) (a : Option Addr) (cap : Nat) (p : Ps) (w : World) (hc : tk.Lies w.heap.size w a l) (hl : l.length ≤ 1048576) (hm : ∀ t ∈ l, t.s.size ≤ 1048576) (hh : Held w) :
    Calls Tryz.prog 16 #[.slice a l.length cap, .agg #[.int .i64 p.l, .bool p.d, .bool p.i, .bool p.g, .bool p.s]] w (POut (parse l p) w) := by
  obtain ⟨W, hW⟩ : ∃ W, W = (w.alloc (.cells #[.int .i64 p.l, .bool p.d, .bool p.i, .bool p.g, .bool p.s] 26)).alloc (.cells #[.int .i64 0, .int .i64 0] 31) := ⟨_, rfl⟩
  have hB : Below w.heap.size w W := by rw [hW]; exact ((Below.refl _ _).alloc (Nat.le_refl _) _).alloc (by simp) _
  have P0 := Lib.hid (show Bk w.heap.size #[.int .i64 p.l, .bool p.d, .bool p.i, .bool p.g, .bool p.s] 26 W by rw [hW]; exact (Bk.new _ _ _).alloc _)
  have R0 := Lib.hid (show Bk (w.heap.size + 1) #[.int .i64 0, .int .i64 0] 31 W by
    rw [hW]
    have := Bk.new (w.alloc (.cells #[.int .i64 p.l, .bool p.d, .bool p.i, .bool p.g, .bool p.s] 26)) #[.int .i64 0, .int .i64 0] 31
    simpa using this)
  have B0 := Lib.hid hB
  have HC := Lib.hid hc
  have HL := Lib.hid hl
  have HM := Lib.hid hm
  have HH := Lib.hid hh
  obtain ⟨p0, p1, p2, p3, p4⟩ := P0.out.c5
  rw [hW] at p0 p1 p2 p3 p4
  have HPO := Lib.hid (fun W2 => _root_.Go.Proofs.YtiilpnoaocfjgaaGreatDoor.ps.impl_ok p.l p.d p.i p.g p.s W2)
  clear hB hc hm hh
  cases hp : posOk p.l p.d with
  | false =>
    rw [show parse l p = ⟨[], 0, 3, 0⟩ from by unfold parse; rw [hp]; rfl]
    rw [hp] at HPO
    clear hp
    go_enter Tryz.func16, Tryz.ntmps16
    go_wp2_with fail
    rw [← hW]
    clear hW p0 p1 p2 p3 p4
    refine (HPO.out _).mono ?_
    rintro e w1 ⟨rfl, b1⟩
    have R1 := Lib.hid (R0.out.keep b1)
    have B1 := Lib.hid (B0.out.trans (b1.mono B0.out.size))
    clear b1
    obtain ⟨r0, r1⟩ := R1.out.c2
    have g0 := R1.out.f 0
    have g1 := R1.out.f 1
    go_wp2
    obtain ⟨t0, t1⟩ := (R1.out.put2 (.int .i64 3) (.int .i64 0)).c2
    exact bodyPost_ret (v := .tuple #[.slice none 0 0, .int .i64 0, .agg #[.int .i64 3, .int .i64 0]]) (by simp [results, Tryz.results16, go_sem, t0, t1]) rfl (pout_bad rfl (below_put2 B1.out (Nat.le_succ _) _ _))
  | true =>
    rw [hp] at HPO
    have HTF := Lib.hid (fun W2 hc2 hh2 => impl_tf l a cap W2 hc2 hl HM.out hh2)
    obtain ⟨FK, hFK⟩ : ∃ FK, (tf l).1 = FK := ⟨_, rfl⟩
    obtain ⟨FA, hFA⟩ : ∃ FA, (tf l).2 = FA := ⟨_, rfl⟩
    rw [hFK, hFA] at HTF
    by_cases hf : FK = 0
    case neg =>
      rw [show parse l p = ⟨[], 0, FK, FA⟩ from by unfold parse; rw [hp, if_pos rfl, hFK, if_neg hf, hFA]]
      obtain ⟨q1, q2⟩ := ne_facts hf
      clear hp hFK hFA hf
      go_enter Tryz.func16, Tryz.ntmps16
      go_wp2_with fail
      rw [← hW]
      clear hW p0 p1 p2 p3 p4
      refine (HPO.out _).mono ?_
      rintro e w1 ⟨rfl, b1⟩
      have R1 := Lib.hid (R0.out.keep b1)
      have B1 := Lib.hid (B0.out.trans (b1.mono B0.out.size))
      clear b1
      go_wp2_with fail
      refine (HTF.out _ (lies_on HC.out B1.out) (HH.out.below B1.out)).mono ?_
      rintro e w2 ⟨rfl, b2⟩
      have R2 := Lib.hid (R1.out.keep b2)
      have B2 := Lib.hid (B1.out.trans (b2.mono B1.out.size))
      clear b2
      obtain ⟨W3, hW3⟩ : ∃ W3, W3 = w2.alloc (.cells #[.int .i64 FK, .int .i64 FA] 31) := ⟨_, rfl⟩
      have R3 := Lib.hid (show Bk (w.heap.size + 1) #[.int .i64 0, .int .i64 0] 31 W3 by rw [hW3]; exact R2.out.alloc _)
      have Q3 := Lib.hid (show Bk w2.heap.size #[.int .i64 FK, .int .i64 FA] 31 W3 by rw [hW3]; exact Bk.new _ _ _)
      have B3 := Lib.hid (show Below w.heap.size w W3 by rw [hW3]; exact B2.out.alloc B2.out.size _)
      obtain ⟨r0, r1⟩ := R3.out.c2
      have g0 := R3.out.f 0
      have g1 := R3.out.f 1
      obtain ⟨s0, s1⟩ := Q3.out.c2
      rw [hW3] at r0 r1 g0 g1 s0 s1
      go_wp2
      rw [← hW3] at r0 r1 g0 g1 s0 s1 ⊢
      clear hW3
      go_region
      go_wp2
      obtain ⟨t0, t1⟩ := (R3.out.put2 (.int .i64 FK) (.int .i64 FA)).c2
      have hdr : ∀ j, (((W3.setCell ⟨w.heap.size + 1, 0, none⟩ (.int .i64 FK)).setCell ⟨w.heap.size + 1, 1, none⟩ (.int .i64 FA)).drew).cell? j = ((W3.setCell ⟨w.heap.size + 1, 0, none⟩ (.int .i64 FK)).setCell ⟨w.heap.size + 1, 1, none⟩ (.int .i64 FA)).cell? j := fun _ => rfl
      exact bodyPost_ret (v := .tuple #[.slice none 0 0, .int .i64 0, .agg #[.int .i64 FK, .int .i64 FA]]) (by simp [results, Tryz.results16, go_sem, t0, t1]) rfl (pout_bad rfl (below_put2 (B3.out.drew) (Nat.le_succ _) _ _))
    case pos =>
      subst hf
      obtain ⟨hto, hl3, hne⟩ := toks_len hFK
      rw [show parse l p = finish l (ex l (l.length + 1) p 0) from by unfold parse; rw [hp, if_pos rfl, hFK, if_pos rfl]]
      have HOKX := Lib.hid (ex_ok (l := l) (M := 1048576) HM.out (by omega) (l.length + 1) p 0 (Nat.zero_le _))
      have HEX := Lib.hid (fun (w0 : World) (hc0 : tk.Lies w0.heap.size w0 a l) => expr_all (w0 := w0) (a := a) (cap := cap) HM.out (by omega) hc0 (l.length + 1) 0 (by omega))
      have HPL := Lib.hid (fun i W2 (hc2 : tk.Lies W2.heap.size W2 a l) hi => impl_place l a cap i W2 hc2 hl hi HM.out)
      have HL3 := Lib.hid hl3
      obtain ⟨R, hR⟩ : ∃ R, ex l (l.length + 1) p 0 = R := ⟨_, rfl⟩
      rw [hR] at HOKX ⊢
      have HR := Lib.hid hR
      have hfl := fld_l
      obtain ⟨n, hn⟩ : ∃ n, l.length = n := ⟨_, rfl⟩
      have HN := Lib.hid hn
      rw [hn]
      rw [hn] at HTF HPL
      clear hp hFK hFA hto hl3 hne hR
      cases R with
      | bad j =>
        have hj := HOKX.out.2
        rw [show finish l (.bad j) = ⟨[], 0, 3, place l j⟩ from rfl]
        obtain ⟨PV, hPV⟩ : ∃ PV, place l j = PV := ⟨_, rfl⟩
        have HPV := Lib.hid hPV
        rw [hn] at hj
        have HJ := Lib.hid hj
        rw [hPV]
        clear hPV hj hn
        go_enter Tryz.func16, Tryz.ntmps16
        go_wp2_with fail
        rw [← hW]
        clear hW p0 p1 p2 p3 p4
        refine (HPO.out _).mono ?_
        rintro e w1 ⟨rfl, b1⟩
        have R1 := Lib.hid (R0.out.keep b1)
        have P1 := Lib.hid (P0.out.keep b1)
        have B1 := Lib.hid (B0.out.trans (b1.mono B0.out.size))
        clear b1
        go_wp2_with fail
        refine (HTF.out _ (lies_on HC.out B1.out) (HH.out.below B1.out)).mono ?_
        rintro e w2 ⟨rfl, b2⟩
        obtain ⟨w0, hw0⟩ : ∃ w0, w0 = w2.alloc (.cells #[.int .i64 0, .int .i64 FA] 31) := ⟨_, rfl⟩
        have hb20 : Below w2.heap.size w2 w0 := by rw [hw0]; exact (Below.refl _ _).alloc (Nat.le_refl _) _
        have R2 := Lib.hid ((R1.out.keep b2).keep hb20)
        have P2 := Lib.hid ((P1.out.keep b2).keep hb20)
        have B2 := Lib.hid ((B1.out.trans (b2.mono B1.out.size)).trans (hb20.mono (Nat.le_trans B1.out.size b2.size)))
        have HB2 := Lib.hid (show w.heap.size + 1 < w0.heap.size from R2.out.lt)
        have QF := Lib.hid (show Bk w2.heap.size #[.int .i64 0, .int .i64 FA] 31 w0 by rw [hw0]; exact Bk.new _ _ _)
        have HSZ0 := Lib.hid (show w0.heap.size = w2.heap.size + 1 by rw [hw0]; simp)
        clear b2 hb20
        obtain ⟨W3, hW3⟩ : ∃ W3, W3 = w0.alloc (.cells #[.slice a n cap, .int .i64 0, .slice none 0 0] 85) := ⟨_, rfl⟩
        have hb3 : Below w0.heap.size w0 W3 := by rw [hW3]; exact (Below.refl _ _).alloc (Nat.le_refl _) _
        have S3 := Lib.hid (show St w0 a n cap 0 (.slice none 0 0) [] (fun i => i) W3 from ⟨hb3, by rw [hW3]; exact Bk.new _ _ _, PT.nil _ _, fun j hj => by simp at hj⟩)
        have R3 := Lib.hid (R2.out.keep hb3)
        have P3 := Lib.hid (P2.out.keep hb3)
        have HE3 := Lib.hid (HEX.out w0 (lies_on HC.out B2.out) p 0 (.slice none 0 0) [] (fun i => i) W3 (Nat.le_refl _) (Nat.zero_le _) (by have := HL3.out; simp; omega) (by rw [HN.out]; exact S3.out))
        rw [HR.out, HN.out] at HE3
        obtain ⟨p0, p1, p2, p3, p4⟩ := P3.out.c5
        obtain ⟨s0, s1⟩ := QF.out.c2
        rw [hW3, hw0] at p0 p1 p2 p3 p4
        rw [hw0] at s0 s1
        clear hb3
        go_wp2_with fail
        rw [← hw0, ← HSZ0.out, ← hW3]
        clear hW3 hw0 p0 p1 p2 p3 p4 s0 s1
        refine HE3.out.mono ?_
        rintro e w4 ⟨rfl, v4, z4, r4, s4, e4, m4⟩
        have hq : Res w0 a n cap [] (X0 w0.heap.size) (.slice none 0 0) [] (fun i => i) W3 (.bad j) (.returned (.agg #[.int .i64 0, .bool false])) w4 := ⟨rfl, v4, z4, r4, s4, e4, m4⟩
        have R4 := Lib.hid (hq.bk R3.out (by unfold X0; have := HB2.out; omega) (by simp [Value.ownBlock]))
        have B4 := Lib.hid (show Below w.heap.size w w4 from B2.out.trans (s4.bel.mono B2.out.size))
        have L4 := Lib.hid (lies_on HC.out B4.out)
        obtain ⟨c0, c1, c2⟩ := s4.c
        simp only [lvR, tgR, atR] at c1 ⊢
        clear hq s4 e4 m4
        go_wp2_with fail
        refine (HPL.out j _ L4.out HJ.out).mono ?_
        rw [HPV.out]
        rintro e w5 ⟨rfl, b5⟩
        have R5 := Lib.hid (R4.out.keep b5)
        have B5 := Lib.hid (B4.out.trans (b5.mono B4.out.size))
        clear b5 c0 c1 c2
        obtain ⟨r0, r1⟩ := R5.out.c2
        have g0 := R5.out.f 0
        have g1 := R5.out.f 1
        go_wp2
        obtain ⟨t0, t1⟩ := (R5.out.put2 (.int .i64 3) (.int .i64 PV)).c2
        exact bodyPost_ret (v := .tuple #[.slice none 0 0, .int .i64 0, .agg #[.int .i64 3, .int .i64 PV]]) (by simp [results, Tryz.results16, go_sem, t0, t1]) rfl (pout_bad rfl (below_put2 B5.out (Nat.le_succ _) _ _))
      | ok lv tg t j =>
        obtain ⟨o1, o2, o3, o4, o5, o6⟩ := HOKX.out
        have q1 : (lv == 0) = false := by rw [beq_eq_false_iff_ne]; omega
        have q3 : ¬ lv = 0 := by omega
        obtain ⟨SK, hSK⟩ : ∃ SK, (sf t).1 = SK := ⟨_, rfl⟩
        obtain ⟨SA, hSA⟩ : ∃ SA, (sf t).2 = SA := ⟨_, rfl⟩
        have HFIN := Lib.hid (show finish l (.ok lv tg t j) = if SK = 0 then ⟨t, j, 0, 0⟩ else ⟨[], 0, SK, SA⟩ by show (if (sf t).1 = 0 then (⟨t, j, 0, 0⟩ : pe.Out) else ⟨[], 0, (sf t).1, (sf t).2⟩) = _; rw [hSK, hSA])
        have HSF := Lib.hid (fun av cv W2 (hc2 : nd.Lies W2.heap.size W2 av t) => impl_sf t av cv W2 hc2 (by have := HL3.out; omega) (fun n hn => by have := (o6 n hn).1; omega))
        rw [hSK, hSA] at HSF
        have HT0 := Lib.hid (sh_zero o6)
        rw [HFIN.out]
        clear o1 o2 o3 o4 o5 o6 hSK hSA hn HFIN
        by_cases hs : SK = 0
        · subst hs
          rw [if_pos rfl]
          go_enter Tryz.func16, Tryz.ntmps16
          go_wp2_with fail
          rw [← hW]
          clear hW p0 p1 p2 p3 p4
          refine (HPO.out _).mono ?_
          rintro e w1 ⟨rfl, b1⟩
          have R1 := Lib.hid (R0.out.keep b1)
          have P1 := Lib.hid (P0.out.keep b1)
          have B1 := Lib.hid (B0.out.trans (b1.mono B0.out.size))
          clear b1
          go_wp2_with fail
          refine (HTF.out _ (lies_on HC.out B1.out) (HH.out.below B1.out)).mono ?_
          rintro e w2 ⟨rfl, b2⟩
          obtain ⟨w0, hw0⟩ : ∃ w0, w0 = w2.alloc (.cells #[.int .i64 0, .int .i64 FA] 31) := ⟨_, rfl⟩
          have hb20 : Below w2.heap.size w2 w0 := by rw [hw0]; exact (Below.refl _ _).alloc (Nat.le_refl _) _
          have R2 := Lib.hid ((R1.out.keep b2).keep hb20)
          have P2 := Lib.hid ((P1.out.keep b2).keep hb20)
          have B2 := Lib.hid ((B1.out.trans (b2.mono B1.out.size)).trans (hb20.mono (Nat.le_trans B1.out.size b2.size)))
          have HB2 := Lib.hid (show w.heap.size + 1 < w0.heap.size from R2.out.lt)
          have QF := Lib.hid (show Bk w2.heap.size #[.int .i64 0, .int .i64 FA] 31 w0 by rw [hw0]; exact Bk.new _ _ _)
          have HSZ0 := Lib.hid (show w0.heap.size = w2.heap.size + 1 by rw [hw0]; simp)
          clear b2 hb20
          obtain ⟨W3, hW3⟩ : ∃ W3, W3 = w0.alloc (.cells #[.slice a n cap, .int .i64 0, .slice none 0 0] 85) := ⟨_, rfl⟩
          have hb3 : Below w0.heap.size w0 W3 := by rw [hW3]; exact (Below.refl _ _).alloc (Nat.le_refl _) _
          have S3 := Lib.hid (show St w0 a n cap 0 (.slice none 0 0) [] (fun i => i) W3 from ⟨hb3, by rw [hW3]; exact Bk.new _ _ _, PT.nil _ _, fun j hj => by simp at hj⟩)
          have R3 := Lib.hid (R2.out.keep hb3)
          have P3 := Lib.hid (P2.out.keep hb3)
          have HE3 := Lib.hid (HEX.out w0 (lies_on HC.out B2.out) p 0 (.slice none 0 0) [] (fun i => i) W3 (Nat.le_refl _) (Nat.zero_le _) (by have := HL3.out; simp; omega) (by rw [HN.out]; exact S3.out))
          rw [HR.out, HN.out] at HE3
          obtain ⟨p0, p1, p2, p3, p4⟩ := P3.out.c5
          obtain ⟨s0, s1⟩ := QF.out.c2
          rw [hW3, hw0] at p0 p1 p2 p3 p4
          rw [hw0] at s0 s1
          clear hb3
          go_wp2_with fail
          rw [← hw0, ← HSZ0.out, ← hW3]
          clear hW3 hw0 p0 p1 p2 p3 p4 s0 s1
          refine HE3.out.mono ?_
          rintro e w4 ⟨rfl, v4, z4, r4, s4, e4, m4⟩
          have hz4 := m4 _ _ _ _ rfl
          simp only [List.nil_append, List.length_nil] at hz4
          have hz4 : z4.map (·.1) = t := hz4.trans HT0.out
          have hq : Res w0 a n cap [] (X0 w0.heap.size) (.slice none 0 0) [] (fun i => i) W3 (.ok lv tg t j) (.returned (.agg #[.int .i64 lv, .bool tg])) w4 := ⟨rfl, v4, z4, r4, s4, e4, m4⟩
          have R4 := Lib.hid (hq.bk R3.out (by unfold X0; have := HB2.out; omega) (by simp [Value.ownBlock]))
          have B4 := Lib.hid (show Below w.heap.size w w4 from B2.out.trans (s4.bel.mono B2.out.size))
          simp only [atR] at s4
          simp only [lvR, tgR]
          have S4 := Lib.hid s4
          have Z4 := Lib.hid hz4
          obtain ⟨av, cv, hv⟩ := s4.own.form
          have hzl : z4.length = t.length := by rw [← hz4]; simp
          rw [hzl] at hv
          subst hv
          have hnl : nd.Lies w4.heap.size w4 av t := by rw [← hz4]; exact s4.own.lies
          have NL4 := Lib.hid hnl
          obtain ⟨c0, c1, c2⟩ := s4.c
          have hG : ∀ x : Nat, w0.heap.size + 1 ≤ x → x ≠ w.heap.size + 1 := fun x hx => by have := HB2.out; omega
          have HG := Lib.hid hG
          have HPT := Lib.hid s4.own
          have HGE := Lib.hid s4.ge
          clear hq s4 e4 m4 hz4 hzl hnl hG
          go_wp2_with fail
          refine (HSF.out av cv _ NL4.out).mono ?_
          rintro e w5 ⟨rfl, b5⟩
          have S5 := Lib.hid (S4.out.keep b5)
          have R5 := Lib.hid (R4.out.keep b5)
          have B5 := Lib.hid (B4.out.trans (b5.mono B4.out.size))
          clear b5 c0 c1 c2
          obtain ⟨W6, hW6⟩ : ∃ W6, W6 = w5.alloc (.cells #[.int .i64 0, .int .i64 SA] 31) := ⟨_, rfl⟩
          have R6 := Lib.hid (show Bk (w.heap.size + 1) #[.int .i64 0, .int .i64 0] 31 W6 by rw [hW6]; exact R5.out.alloc _)
          have Q6 := Lib.hid (show Bk w5.heap.size #[.int .i64 0, .int .i64 SA] 31 W6 by rw [hW6]; exact Bk.new _ _ _)
          have B6 := Lib.hid (show Below w.heap.size w W6 by rw [hW6]; exact B5.out.alloc B5.out.size _)
          have S6 := Lib.hid (show St w0 a n cap j (.slice av t.length cv) z4 r4 W6 by rw [hW6]; exact S5.out.alloc _)
          obtain ⟨r0, r1⟩ := R6.out.c2
          have g0 := R6.out.f 0
          have g1 := R6.out.f 1
          obtain ⟨s0, s1⟩ := Q6.out.c2
          obtain ⟨c0, c1, c2⟩ := S6.out.c
          rw [hW6] at r0 r1 g0 g1 s0 s1 c0 c1 c2
          go_wp2
          rw [← hW6] at r0 r1 g0 g1 s0 s1 c0 c1 c2 ⊢
          clear hW6
          go_region
          go_wp2
          obtain ⟨t0, t1⟩ := (R6.out.put2 (.int .i64 0) (.int .i64 0)).c2
          have hpt : PT w.heap.size (.slice av t.length cv) z4 r4 ((W6.setCell ⟨w.heap.size + 1, 0, none⟩ (.int .i64 0)).setCell ⟨w.heap.size + 1, 1, none⟩ (.int .i64 0)) := by
            have hg := HG.out
            have h1 : (Value.slice av t.length cv).ownBlock ≠ some (w.heap.size + 1) := fun e => hg _ (World.ownsRow.lt S6.out.own.own _ e).1 rfl
            have h2 : ∀ k, k < z4.length → r4 k ≠ w.heap.size + 1 := fun k hk => hg _ (HGE.out k hk)
            exact PT.up ((S6.out.own.kept (nd.grown_one W6 _ 0 _) h1 h2).kept (nd.grown_one _ _ 1 _) h1 h2) (by have := HB2.out; omega)
          exact bodyPost_ret (v := .tuple #[.slice av t.length cv, .int .i64 (j : Int), .agg #[.int .i64 0, .int .i64 0]]) (by simp [results, Tryz.results16, go_sem, t0, t1]) rfl ⟨.slice av t.length cv, z4, r4, rfl, Z4.out, hpt.keep (below_drewN (Below.refl _ _) 1) (Nat.le_refl _), below_put2 (B6.out.drew) (Nat.le_succ _) _ _⟩
        · rw [if_neg hs]
          obtain ⟨a1, a2⟩ := ne_facts hs
          clear hs
          go_enter Tryz.func16, Tryz.ntmps16
          go_wp2_with fail
          rw [← hW]
          clear hW p0 p1 p2 p3 p4
          refine (HPO.out _).mono ?_
          rintro e w1 ⟨rfl, b1⟩
          have R1 := Lib.hid (R0.out.keep b1)
          have P1 := Lib.hid (P0.out.keep b1)
          have B1 := Lib.hid (B0.out.trans (b1.mono B0.out.size))
          clear b1
          go_wp2_with fail
          refine (HTF.out _ (lies_on HC.out B1.out) (HH.out.below B1.out)).mono ?_
          rintro e w2 ⟨rfl, b2⟩
          obtain ⟨w0, hw0⟩ : ∃ w0, w0 = w2.alloc (.cells #[.int .i64 0, .int .i64 FA] 31) := ⟨_, rfl⟩
          have hb20 : Below w2.heap.size w2 w0 := by rw [hw0]; exact (Below.refl _ _).alloc (Nat.le_refl _) _
          have R2 := Lib.hid ((R1.out.keep b2).keep hb20)
          have P2 := Lib.hid ((P1.out.keep b2).keep hb20)
          have B2 := Lib.hid ((B1.out.trans (b2.mono B1.out.size)).trans (hb20.mono (Nat.le_trans B1.out.size b2.size)))
          have HB2 := Lib.hid (show w.heap.size + 1 < w0.heap.size from R2.out.lt)
          have QF := Lib.hid (show Bk w2.heap.size #[.int .i64 0, .int .i64 FA] 31 w0 by rw [hw0]; exact Bk.new _ _ _)
          have HSZ0 := Lib.hid (show w0.heap.size = w2.heap.size + 1 by rw [hw0]; simp)
          clear b2 hb20
          obtain ⟨W3, hW3⟩ : ∃ W3, W3 = w0.alloc (.cells #[.slice a n cap, .int .i64 0, .slice none 0 0] 85) := ⟨_, rfl⟩
          have hb3 : Below w0.heap.size w0 W3 := by rw [hW3]; exact (Below.refl _ _).alloc (Nat.le_refl _) _
          have S3 := Lib.hid (show St w0 a n cap 0 (.slice none 0 0) [] (fun i => i) W3 from ⟨hb3, by rw [hW3]; exact Bk.new _ _ _, PT.nil _ _, fun j hj => by simp at hj⟩)
          have R3 := Lib.hid (R2.out.keep hb3)
          have P3 := Lib.hid (P2.out.keep hb3)
          have HE3 := Lib.hid (HEX.out w0 (lies_on HC.out B2.out) p 0 (.slice none 0 0) [] (fun i => i) W3 (Nat.le_refl _) (Nat.zero_le _) (by have := HL3.out; simp; omega) (by rw [HN.out]; exact S3.out))
          rw [HR.out, HN.out] at HE3
          obtain ⟨p0, p1, p2, p3, p4⟩ := P3.out.c5
          obtain ⟨s0, s1⟩ := QF.out.c2
          rw [hW3, hw0] at p0 p1 p2 p3 p4
          rw [hw0] at s0 s1
          clear hb3
          go_wp2_with fail
          rw [← hw0, ← HSZ0.out, ← hW3]
          clear hW3 hw0 p0 p1 p2 p3 p4 s0 s1
          refine HE3.out.mono ?_
          rintro e w4 ⟨rfl, v4, z4, r4, s4, e4, m4⟩
          have hz4 := m4 _ _ _ _ rfl
          simp only [List.nil_append, List.length_nil] at hz4
          have hz4 : z4.map (·.1) = t := hz4.trans HT0.out
          have hq : Res w0 a n cap [] (X0 w0.heap.size) (.slice none 0 0) [] (fun i => i) W3 (.ok lv tg t j) (.returned (.agg #[.int .i64 lv, .bool tg])) w4 := ⟨rfl, v4, z4, r4, s4, e4, m4⟩
          have R4 := Lib.hid (hq.bk R3.out (by unfold X0; have := HB2.out; omega) (by simp [Value.ownBlock]))
          have B4 := Lib.hid (show Below w.heap.size w w4 from B2.out.trans (s4.bel.mono B2.out.size))
          simp only [atR] at s4
          simp only [lvR, tgR]
          have S4 := Lib.hid s4
          have Z4 := Lib.hid hz4
          obtain ⟨av, cv, hv⟩ := s4.own.form
          have hzl : z4.length = t.length := by rw [← hz4]; simp
          rw [hzl] at hv
          subst hv
          have hnl : nd.Lies w4.heap.size w4 av t := by rw [← hz4]; exact s4.own.lies
          have NL4 := Lib.hid hnl
          obtain ⟨c0, c1, c2⟩ := s4.c
          have hG : ∀ x : Nat, w0.heap.size + 1 ≤ x → x ≠ w.heap.size + 1 := fun x hx => by have := HB2.out; omega
          have HG := Lib.hid hG
          have HPT := Lib.hid s4.own
          have HGE := Lib.hid s4.ge
          clear hq s4 e4 m4 hz4 hzl hnl hG
          go_wp2_with fail
          refine (HSF.out av cv _ NL4.out).mono ?_
          rintro e w5 ⟨rfl, b5⟩
          have S5 := Lib.hid (S4.out.keep b5)
          have R5 := Lib.hid (R4.out.keep b5)
          have B5 := Lib.hid (B4.out.trans (b5.mono B4.out.size))
          clear b5 c0 c1 c2
          obtain ⟨W6, hW6⟩ : ∃ W6, W6 = w5.alloc (.cells #[.int .i64 SK, .int .i64 SA] 31) := ⟨_, rfl⟩
          have R6 := Lib.hid (show Bk (w.heap.size + 1) #[.int .i64 0, .int .i64 0] 31 W6 by rw [hW6]; exact R5.out.alloc _)
          have Q6 := Lib.hid (show Bk w5.heap.size #[.int .i64 SK, .int .i64 SA] 31 W6 by rw [hW6]; exact Bk.new _ _ _)
          have B6 := Lib.hid (show Below w.heap.size w W6 by rw [hW6]; exact B5.out.alloc B5.out.size _)
          have S6 := Lib.hid (show St w0 a n cap j (.slice av t.length cv) z4 r4 W6 by rw [hW6]; exact S5.out.alloc _)
          obtain ⟨r0, r1⟩ := R6.out.c2
          have g0 := R6.out.f 0
          have g1 := R6.out.f 1
          obtain ⟨s0, s1⟩ := Q6.out.c2
          obtain ⟨c0, c1, c2⟩ := S6.out.c
          rw [hW6] at r0 r1 g0 g1 s0 s1 c0 c1 c2
          go_wp2
          rw [← hW6] at r0 r1 g0 g1 s0 s1 c0 c1 c2 ⊢
          clear hW6
          go_region
          go_wp2
          obtain ⟨t0, t1⟩ := (R6.out.put2 (.int .i64 SK) (.int .i64 SA)).c2
          exact bodyPost_ret (v := .tuple #[.slice none 0 0, .int .i64 0, .agg #[.int .i64 SK, .int .i64 SA]]) (by simp [results, Tryz.results16, go_sem, t0, t1]) rfl (pout_bad rfl (below_put2 (B6.out.drew) (Nat.le_succ _) _ _))
end Go.Proofs.YtiilpnoaocfjgaaGreatDoor.pr

namespace Go.Proofs.YtiilpnoaocfjgaaGreatDoor.pe
open Go.RowKit
open nd (Nd)
open tk (Tk)
open ps (Ps posOk top)
open lex (lexF lexZ gapZ kindAt)
set_option linter.unusedVariables false
set_option linter.unusedSimpArgs false

theorem lexZ_sz (s : ByteArray) : ∀ n i prev l, s.size - i ≤ n → lexZ s i prev = .inr l → (∀ t ∈ l, t.s.size ≤ s.size) ∧ l.length ≤ n := by
  intro n
  induction n with
  | zero =>
    intro i prev l h hl
    rw [lexZ] at hl
    have hg := (lex.gap_bd s i).1
    rw [dif_neg (by omega)] at hl
    injection hl with hl
    subst hl
    exact ⟨fun t ht => by simp at ht, Nat.le_refl _⟩
  | succ n ih =>
    intro i prev l h hl
    rw [lexZ] at hl
    have hg := (lex.gap_bd s i).1
    by_cases h1 : gapZ s i < s.size
    · rw [dif_pos h1] at hl
      by_cases h2 : (gapZ s i : Int) < (kindAt s (gapZ s i) prev).2
      · rw [dif_pos h2] at hl
        cases hr : lexZ s (kindAt s (gapZ s i) prev).2.toNat (kindAt s (gapZ s i) prev).1 with
        | inl f => rw [hr] at hl; cases hl
        | inr l' =>
          rw [hr] at hl
          injection hl with hl
          subst hl
          obtain ⟨a1, a2⟩ := ih _ _ _ (by omega) hr
          refine ⟨fun t ht => ?_, by simp; omega⟩
          rcases List.mem_cons.1 ht with rfl | ht
          · show (s.extract _ _).size ≤ s.size
            rw [ByteArray.size_extract]
            omega
          · exact a1 t ht
      · rw [dif_neg h2] at hl; cases hl
    · rw [dif_neg h1] at hl
      injection hl with hl
      subst hl
      exact ⟨fun t ht => by simp at ht, Nat.zero_le _⟩
theorem lexF_sz (s : ByteArray) : (∀ t ∈ (lexF s).1, t.s.size ≤ 3000) ∧ (lexF s).1.length ≤ 3000 := by
  unfold lexF
  split
  · exact ⟨fun t ht => by simp at ht, Nat.zero_le _⟩
  · next h =>
    cases hr : lexZ s 0 0 with
    | inl f => exact ⟨fun t ht => by simp at ht, Nat.zero_le _⟩
    | inr l =>
      obtain ⟨a1, a2⟩ := lexZ_sz s s.size 0 0 l (by omega) hr
      exact ⟨fun t ht => by have := a1 t ht; omega, by show l.length ≤ 3000; omega⟩
/-- ReadExpr's answer, of what the lexer and the parser say. -/
def readO (L : List Tk) (LK LA : Int) : Out :=
  if LK = 0 then
    (if (parse L top).k = 0 then
      (if (parse L top).n < L.length then ⟨[], 0, 3, place L (parse L top).n⟩ else ⟨(parse L top).t, 0, 0, 0⟩)
    else ⟨[], 0, (parse L top).k, (parse L top).a⟩)
  else ⟨[], 0, LK, LA⟩
def readF (s : ByteArray) : Out := readO (lexF s).1 (lexF s).2.1 (lexF s).2.2
theorem parse_n {l : List Tk} {p : Ps} {M : Nat} (hM : ∀ t ∈ l, t.s.size ≤ M) : (parse l p).n ≤ l.length := by
  unfold parse
  split
  · split
    · next h =>
      obtain ⟨-, h3, -⟩ := toks_len h
      have := ex_ok hM (by omega) (l.length + 1) p 0 (Nat.zero_le _)
      cases hr : ex l (l.length + 1) p 0 with
      | bad j => exact Nat.zero_le _
      | ok lv tg t j =>
        rw [hr] at this
        unfold finish
        simp only
        split
        · exact this.2.1
        · exact Nat.zero_le _
    · exact Nat.zero_le _
  · exact Nat.zero_le _
end Go.Proofs.YtiilpnoaocfjgaaGreatDoor.pe

namespace Go.Proofs.YtiilpnoaocfjgaaGreatDoor.pr
open Go.ChangeShapes Go.WideShapes Go.ChangeAt Go.RowKit
open tk (Tk)
open nd (Nd PT KidV IBlk OwnI shN makeT)
open ps (Ps B5 posOk kidI top)
open pe
open spell (Held)
open lex (lexF LexOut)
set_option linter.unusedVariables false
set_option linter.unusedSimpArgs false
set_option maxRecDepth 20000


/-- What ReadExpr answers. -/
def ROut (O : pe.Out) (w : World) (e : Ending) (w' : World) : Prop :=
  ∃ v z r, e = .returned (.tuple #[v, .agg #[.int .i64 O.k, .int .i64 O.a]]) ∧ z.map (·.1) = O.t ∧ PT w.heap.size v z r w' ∧ Below w.heap.size w w'
theorem rout_bad {k a : Int} {w w' : World} {e : Ending} {n : Nat} (he : e = .returned (.tuple #[.slice none 0 0, .agg #[.int .i64 k, .int .i64 a]])) (hb : Below w.heap.size w w') : ROut ⟨[], n, k, a⟩ w e w' :=
  ⟨.slice none 0 0, [], fun i => i, he, rfl, PT.nil _ _, hb⟩
/-- A write below a list's own memory leaves it. -/
theorem pt_low {B g : Nat} {v : Value} {z : List (Nd × Value)} {r : Nat → Nat} {w : World} (h : PT B v z r w) (hg : g < B) (j : Nat) (u : Value) : PT B v z r (w.setCell ⟨g, j, none⟩ u) := by
  have hb : ∀ k, k ≠ g → (w.setCell ⟨g, j, none⟩ u).heap[k]? = w.heap[k]? := fun k hk => heap_setCell_other w ⟨g, j, none⟩ k u hk
  refine ⟨ownsRow_setCell_below h.own (a := ⟨g, j, none⟩) hg u, fun i hi => ?_, h.off, h.asc, fun i hi => by simpa using h.lt i hi⟩
  rcases h.kid i hi with h1 | ⟨cap, e1, e2, e3, e4⟩
  · exact .inl h1
  · exact .inr ⟨cap, e1, e2.of_block (hb _ (by omega)), e3, e4⟩
theorem below_drew2 {B : Nat} {w w1 : World} (h : Below B w w1) : Below B w w1.drew := ⟨h.os, h.tape, h.output, h.size, h.block⟩
set_option maxHeartbeats 6400000 in
theorem impl_read (s : ByteArray) (w : World) (hs : s.size ≤ 1048576) (hh : Held w) :
    Calls Tryz.prog 39 #[.string s] w (ROut (readF s) w) := by
  obtain ⟨W, hW⟩ : ∃ W, W = w.alloc (.cells #[.int .i64 0, .int .i64 0] 31) := ⟨_, rfl⟩
  have hB : Below w.heap.size w W := by rw [hW]; exact (Below.refl _ _).alloc (Nat.le_refl _) _
  have R0 := Lib.hid (show Bk w.heap.size #[.int .i64 0, .int .i64 0] 31 W by rw [hW]; exact Bk.new _ _ _)
  have B0 := Lib.hid hB
  have HH := Lib.hid hh
  have HLX := Lib.hid (lex.impl_lex s W hs (hh.below hB))
  obtain ⟨hsz1, hsz2⟩ := lexF_sz s
  unfold LexOut at HLX
  unfold readF
  obtain ⟨L, hL⟩ : ∃ L, (lexF s).1 = L := ⟨_, rfl⟩
  obtain ⟨LK, hLK⟩ : ∃ LK, (lexF s).2.1 = LK := ⟨_, rfl⟩
  obtain ⟨LA, hLA⟩ : ∃ LA, (lexF s).2.2 = LA := ⟨_, rfl⟩
  rw [hL, hLK, hLA] at HLX ⊢
  rw [hL] at hsz1 hsz2
  have HS1 := Lib.hid (show ∀ t ∈ L, t.s.size ≤ 1048576 from fun t ht => by have := hsz1 t ht; omega)
  have HS2 := Lib.hid hsz2
  clear hB hh hs hL hLK hLA hsz1 hsz2
  have hpre : True := trivial
  by_cases hk : LK = 0
  case neg =>
    rw [show readO L LK LA = ⟨[], 0, LK, LA⟩ from if_neg hk]
    obtain ⟨q1, q2⟩ := ne_facts hk
    clear hk
    go_enter Tryz.func39, Tryz.ntmps39
    go_wp2_with fail
    rw [← hW]
    clear hW
    refine HLX.out.mono ?_
    rintro e w3 ⟨lv3, rfl, b3, o3⟩
    obtain ⟨a, c, hlv⟩ := o3.form
    subst hlv
    obtain ⟨W3, hW3⟩ : ∃ W3, W3 = w3.alloc (.cells #[.int .i64 LK, .int .i64 LA] 31) := ⟨_, rfl⟩
    have hb3 : Below w3.heap.size w3 W3 := by rw [hW3]; exact (Below.refl _ _).alloc (Nat.le_refl _) _
    have R3 := Lib.hid ((R0.out.keep b3).keep hb3)
    have Q3 := Lib.hid (show Bk w3.heap.size #[.int .i64 LK, .int .i64 LA] 31 W3 by rw [hW3]; exact Bk.new _ _ _)
    have B3 := Lib.hid ((B0.out.trans (b3.mono B0.out.size)).trans (hb3.mono (Nat.le_trans B0.out.size b3.size)))
    have LQ0 := Lib.hid (lies_on (o3.lies rfl) hb3)
    have LQ00 := Lib.hid (show tk.Lies w3.heap.size w3 a L from o3.lies rfl)
    have HB33 := Lib.hid hb3
    have HQG := Lib.hid (show w.heap.size ≤ w3.heap.size from Nat.le_trans B0.out.size b3.size)
    have HNE := Lib.hid (show ¬ w.heap.size = w3.heap.size by have := R0.out.lt; have := b3.size; omega)
    clear b3 hb3 o3
    obtain ⟨r0, r1⟩ := R3.out.c2
    have g0 := R3.out.f 0
    have g1 := R3.out.f 1
    obtain ⟨s0, s1⟩ := Q3.out.c2
    rw [hW3] at r0 r1 g0 g1 s0 s1
    go_wp2
    rw [← hW3] at r0 r1 g0 g1 s0 s1 ⊢
    clear hW3
    go_region
    go_wp2
    obtain ⟨t0, t1⟩ := (R3.out.put2 (.int .i64 LK) (.int .i64 LA)).c2
    exact bodyPost_ret (v := .tuple #[.slice none 0 0, .agg #[.int .i64 LK, .int .i64 LA]]) (by simp [results, Tryz.results39, go_sem, t0, t1]) rfl (rout_bad rfl (below_put2 (below_drew2 B3.out) (Nat.le_refl _) _ _))
  case pos =>
    subst hk
    have HPE := Lib.hid (fun a cap W2 (hc2 : tk.Lies W2.heap.size W2 a L) hh2 => impl_parse L a cap top W2 hc2 (by have := HS2.out; omega) HS1.out hh2)
    have HPL := Lib.hid (fun a cap i W2 (hc2 : tk.Lies W2.heap.size W2 a L) hi => impl_place L a cap i W2 hc2 (by have := HS2.out; omega) hi HS1.out)
    have hpn := parse_n (p := top) HS1.out
    unfold readO
    rw [if_pos rfl]
    obtain ⟨O, hO⟩ : ∃ O, parse L top = O := ⟨_, rfl⟩
    rw [hO] at HPE hpn ⊢
    obtain ⟨ot, on, ok, oa⟩ := O
    simp only at hpn ⊢
    have HON := Lib.hid hpn
    clear hO
    by_cases hk2 : ok = 0
    case neg =>
      rw [if_neg hk2]
      obtain ⟨q1, q2⟩ := ne_facts hk2
      clear hk2 hpn
      go_enter Tryz.func39, Tryz.ntmps39
      go_wp2_with fail
      rw [← hW]
      clear hW
      refine HLX.out.mono ?_
      rintro e w3 ⟨lv3, rfl, b3, o3⟩
      obtain ⟨a, c, hlv⟩ := o3.form
      subst hlv
      obtain ⟨W3, hW3⟩ : ∃ W3, W3 = w3.alloc (.cells #[.int .i64 0, .int .i64 LA] 31) := ⟨_, rfl⟩
      have hb3 : Below w3.heap.size w3 W3 := by rw [hW3]; exact (Below.refl _ _).alloc (Nat.le_refl _) _
      have R3 := Lib.hid ((R0.out.keep b3).keep hb3)
      have Q3 := Lib.hid (show Bk w3.heap.size #[.int .i64 0, .int .i64 LA] 31 W3 by rw [hW3]; exact Bk.new _ _ _)
      have B3 := Lib.hid ((B0.out.trans (b3.mono B0.out.size)).trans (hb3.mono (Nat.le_trans B0.out.size b3.size)))
      have LQ0 := Lib.hid (lies_on (o3.lies rfl) hb3)
      have LQ00 := Lib.hid (show tk.Lies w3.heap.size w3 a L from o3.lies rfl)
      have HB33 := Lib.hid hb3
      have HQG := Lib.hid (show w.heap.size ≤ w3.heap.size from Nat.le_trans B0.out.size b3.size)
      have HNE := Lib.hid (show ¬ w.heap.size = w3.heap.size by have := R0.out.lt; have := b3.size; omega)
      clear b3 hb3 o3
      obtain ⟨s0, s1⟩ := Q3.out.c2
      rw [hW3] at s0 s1
      go_wp2_with (go_at_call 29; rw [← hW3]; refine (_root_.Go.Proofs.YtiilpnoaocfjgaaGreatDoor.ps.impl_top _).mono ?_; rintro e w4 ⟨rfl, b4⟩; have R4 := Lib.hid (R3.out.keep b4); have Q4 := Lib.hid (Q3.out.keep b4); have B4 := Lib.hid (B3.out.trans (b4.mono B3.out.size)); have LQ := Lib.hid (lies_on LQ0.out b4); have HSZ4 := Lib.hid (show w3.heap.size < w4.heap.size from Nat.lt_of_lt_of_le Q3.out.lt b4.size); have HB34 := Lib.hid (HB33.out.trans (b4.mono HB33.out.size)); clear b4)
      clear hW3 s0 s1
      refine (HPE.out a c _ LQ.out (HH.out.below B4.out)).mono ?_
      rintro e w5 ⟨v5, z5, r5, rfl, hz5, pt5, b5⟩
      have R5 := Lib.hid (R4.out.keep b5)
      have Q5 := Lib.hid (Q4.out.keep b5)
      have B5 := Lib.hid (B4.out.trans (b5.mono B4.out.size))
      have PT5 := Lib.hid pt5
      have Z5 := Lib.hid hz5
      have HB35 := Lib.hid (HB34.out.trans (b5.mono HB34.out.size))
      have HSZ5 := Lib.hid (show w4.heap.size ≤ w5.heap.size from b5.size)
      clear b5 hz5 pt5
      obtain ⟨r0, r1⟩ := R5.out.c2
      have g0 := R5.out.f 0
      have g1 := R5.out.f 1
      obtain ⟨s0, s1⟩ := Q5.out.c2
      have u0 := Q5.out.f 0
      have u1 := Q5.out.f 1
      obtain ⟨s0', s1'⟩ := (Q5.out.put2 (.int .i64 ok) (.int .i64 oa)).c2
      have R6 := Lib.hid ((R5.out.oth HNE.out 0 (.int .i64 ok)).oth HNE.out 1 (.int .i64 oa))
      obtain ⟨r0', r1'⟩ := R6.out.c2
      have g0' := R6.out.f 0
      have g1' := R6.out.f 1
      have B6 := Lib.hid (below_put2 B5.out HQG.out (.int .i64 ok) (.int .i64 oa))
      go_wp2
      go_region
      go_wp2
      obtain ⟨t0, t1⟩ := (R6.out.put2 (.int .i64 ok) (.int .i64 oa)).c2
      exact bodyPost_ret (v := .tuple #[.slice none 0 0, .agg #[.int .i64 ok, .int .i64 oa]]) (by simp [results, Tryz.results39, go_sem, t0, t1]) rfl (rout_bad rfl (below_put2 (below_drew2 B6.out) (Nat.le_refl _) _ _))
    case pos =>
      subst hk2
      rw [if_pos rfl]
      obtain ⟨NL, hNL⟩ : ∃ NL, L.length = NL := ⟨_, rfl⟩
      by_cases hrest : on < L.length
      · rw [if_pos hrest]
        obtain ⟨PV, hPV⟩ : ∃ PV, place L on = PV := ⟨_, rfl⟩
        have HPV := Lib.hid hPV
        rw [hPV]
        have hr1 : (on : Int) < (L.length : Int) := by omega
        clear hpn hrest hNL hPV
        go_enter Tryz.func39, Tryz.ntmps39
        go_wp2_with fail
        rw [← hW]
        clear hW
        refine HLX.out.mono ?_
        rintro e w3 ⟨lv3, rfl, b3, o3⟩
        obtain ⟨a, c, hlv⟩ := o3.form
        subst hlv
        obtain ⟨W3, hW3⟩ : ∃ W3, W3 = w3.alloc (.cells #[.int .i64 0, .int .i64 LA] 31) := ⟨_, rfl⟩
        have hb3 : Below w3.heap.size w3 W3 := by rw [hW3]; exact (Below.refl _ _).alloc (Nat.le_refl _) _
        have R3 := Lib.hid ((R0.out.keep b3).keep hb3)
        have Q3 := Lib.hid (show Bk w3.heap.size #[.int .i64 0, .int .i64 LA] 31 W3 by rw [hW3]; exact Bk.new _ _ _)
        have B3 := Lib.hid ((B0.out.trans (b3.mono B0.out.size)).trans (hb3.mono (Nat.le_trans B0.out.size b3.size)))
        have LQ0 := Lib.hid (lies_on (o3.lies rfl) hb3)
        have LQ00 := Lib.hid (show tk.Lies w3.heap.size w3 a L from o3.lies rfl)
        have HB33 := Lib.hid hb3
        have HQG := Lib.hid (show w.heap.size ≤ w3.heap.size from Nat.le_trans B0.out.size b3.size)
        have HNE := Lib.hid (show ¬ w.heap.size = w3.heap.size by have := R0.out.lt; have := b3.size; omega)
        clear b3 hb3 o3
        obtain ⟨s0, s1⟩ := Q3.out.c2
        rw [hW3] at s0 s1
        go_wp2_with (go_at_call 29; rw [← hW3]; refine (_root_.Go.Proofs.YtiilpnoaocfjgaaGreatDoor.ps.impl_top _).mono ?_; rintro e w4 ⟨rfl, b4⟩; have R4 := Lib.hid (R3.out.keep b4); have Q4 := Lib.hid (Q3.out.keep b4); have B4 := Lib.hid (B3.out.trans (b4.mono B3.out.size)); have LQ := Lib.hid (lies_on LQ0.out b4); have HSZ4 := Lib.hid (show w3.heap.size < w4.heap.size from Nat.lt_of_lt_of_le Q3.out.lt b4.size); have HB34 := Lib.hid (HB33.out.trans (b4.mono HB33.out.size)); clear b4)
        clear hW3 s0 s1
        refine (HPE.out a c _ LQ.out (HH.out.below B4.out)).mono ?_
        rintro e w5 ⟨v5, z5, r5, rfl, hz5, pt5, b5⟩
        have R5 := Lib.hid (R4.out.keep b5)
        have Q5 := Lib.hid (Q4.out.keep b5)
        have B5 := Lib.hid (B4.out.trans (b5.mono B4.out.size))
        have PT5 := Lib.hid pt5
        have Z5 := Lib.hid hz5
        have HB35 := Lib.hid (HB34.out.trans (b5.mono HB34.out.size))
        have HSZ5 := Lib.hid (show w4.heap.size ≤ w5.heap.size from b5.size)
        clear b5 hz5 pt5
        obtain ⟨s0, s1⟩ := Q5.out.c2
        have u0 := Q5.out.f 0
        have u1 := Q5.out.f 1
        obtain ⟨s0', s1'⟩ := (Q5.out.put2 (.int .i64 0) (.int .i64 oa)).c2
        have R6 := Lib.hid ((R5.out.oth HNE.out 0 (.int .i64 0)).oth HNE.out 1 (.int .i64 oa))
        have B6 := Lib.hid (below_put2 B5.out HQG.out (.int .i64 0) (.int .i64 oa))
        have L6 := Lib.hid (show tk.Lies ((w5.setCell ⟨w3.heap.size, 0, none⟩ (.int .i64 0)).setCell ⟨w3.heap.size, 1, none⟩ (.int .i64 oa)).heap.size _ a L from (LQ00.out.keep (below_put2 HB35.out (Nat.le_refl _) (.int .i64 0) (.int .i64 oa)) (Nat.le_refl _)).up (by simp; exact HB35.out.size))
        go_wp2_with fail
        refine (HPL.out a c on _ L6.out HON.out).mono ?_
        rw [HPV.out]
        rintro e w7 ⟨rfl, b7⟩
        have R7 := Lib.hid (R6.out.keep b7)
        have B7 := Lib.hid (B6.out.trans (b7.mono B6.out.size))
        clear b7
        obtain ⟨r0, r1⟩ := R7.out.c2
        have g0 := R7.out.f 0
        have g1 := R7.out.f 1
        go_wp2
        obtain ⟨t0, t1⟩ := (R7.out.put2 (.int .i64 3) (.int .i64 PV)).c2
        exact bodyPost_ret (v := .tuple #[.slice none 0 0, .agg #[.int .i64 3, .int .i64 PV]]) (by simp [results, Tryz.results39, go_sem, t0, t1]) rfl (rout_bad rfl (below_put2 B7.out (Nat.le_refl _) _ _))
      · rw [if_neg hrest]
        have hr1 : ¬ (on : Int) < (L.length : Int) := by omega
        clear hpn hrest hNL
        go_enter Tryz.func39, Tryz.ntmps39
        go_wp2_with fail
        rw [← hW]
        clear hW
        refine HLX.out.mono ?_
        rintro e w3 ⟨lv3, rfl, b3, o3⟩
        obtain ⟨a, c, hlv⟩ := o3.form
        subst hlv
        obtain ⟨W3, hW3⟩ : ∃ W3, W3 = w3.alloc (.cells #[.int .i64 0, .int .i64 LA] 31) := ⟨_, rfl⟩
        have hb3 : Below w3.heap.size w3 W3 := by rw [hW3]; exact (Below.refl _ _).alloc (Nat.le_refl _) _
        have R3 := Lib.hid ((R0.out.keep b3).keep hb3)
        have Q3 := Lib.hid (show Bk w3.heap.size #[.int .i64 0, .int .i64 LA] 31 W3 by rw [hW3]; exact Bk.new _ _ _)
        have B3 := Lib.hid ((B0.out.trans (b3.mono B0.out.size)).trans (hb3.mono (Nat.le_trans B0.out.size b3.size)))
        have LQ0 := Lib.hid (lies_on (o3.lies rfl) hb3)
        have LQ00 := Lib.hid (show tk.Lies w3.heap.size w3 a L from o3.lies rfl)
        have HB33 := Lib.hid hb3
        have HQG := Lib.hid (show w.heap.size ≤ w3.heap.size from Nat.le_trans B0.out.size b3.size)
        have HNE := Lib.hid (show ¬ w.heap.size = w3.heap.size by have := R0.out.lt; have := b3.size; omega)
        clear b3 hb3 o3
        obtain ⟨s0, s1⟩ := Q3.out.c2
        rw [hW3] at s0 s1
        go_wp2_with (go_at_call 29; rw [← hW3]; refine (_root_.Go.Proofs.YtiilpnoaocfjgaaGreatDoor.ps.impl_top _).mono ?_; rintro e w4 ⟨rfl, b4⟩; have R4 := Lib.hid (R3.out.keep b4); have Q4 := Lib.hid (Q3.out.keep b4); have B4 := Lib.hid (B3.out.trans (b4.mono B3.out.size)); have LQ := Lib.hid (lies_on LQ0.out b4); have HSZ4 := Lib.hid (show w3.heap.size < w4.heap.size from Nat.lt_of_lt_of_le Q3.out.lt b4.size); have HB34 := Lib.hid (HB33.out.trans (b4.mono HB33.out.size)); clear b4)
        clear hW3 s0 s1
        refine (HPE.out a c _ LQ.out (HH.out.below B4.out)).mono ?_
        rintro e w5 ⟨v5, z5, r5, rfl, hz5, pt5, b5⟩
        have R5 := Lib.hid (R4.out.keep b5)
        have Q5 := Lib.hid (Q4.out.keep b5)
        have B5 := Lib.hid (B4.out.trans (b5.mono B4.out.size))
        have PT5 := Lib.hid pt5
        have Z5 := Lib.hid hz5
        have HB35 := Lib.hid (HB34.out.trans (b5.mono HB34.out.size))
        have HSZ5 := Lib.hid (show w4.heap.size ≤ w5.heap.size from b5.size)
        clear b5 hz5 pt5
        obtain ⟨s0, s1⟩ := Q5.out.c2
        have u0 := Q5.out.f 0
        have u1 := Q5.out.f 1
        obtain ⟨s0', s1'⟩ := (Q5.out.put2 (.int .i64 0) (.int .i64 oa)).c2
        have R6 := Lib.hid ((R5.out.oth HNE.out 0 (.int .i64 0)).oth HNE.out 1 (.int .i64 oa))
        have B6 := Lib.hid (below_put2 B5.out HQG.out (.int .i64 0) (.int .i64 oa))
        obtain ⟨r0, r1⟩ := R6.out.c2
        have g0 := R6.out.f 0
        have g1 := R6.out.f 1
        go_wp2
        obtain ⟨t0, t1⟩ := (R6.out.put2 (.int .i64 0) (.int .i64 0)).c2
        have hpt : PT w4.heap.size v5 z5 r5 ((((w5.setCell ⟨w3.heap.size, 0, none⟩ (.int .i64 0)).setCell ⟨w3.heap.size, 1, none⟩ (.int .i64 oa)).setCell ⟨w.heap.size, 0, none⟩ (.int .i64 0)).setCell ⟨w.heap.size, 1, none⟩ (.int .i64 0)) := by
          have k : ∀ (g : Nat), g < w4.heap.size → ∀ (W : World), PT w4.heap.size v5 z5 r5 W → ∀ j u, PT w4.heap.size v5 z5 r5 (W.setCell ⟨g, j, none⟩ u) := fun g hg W h j u => pt_low h hg j u
          have h1 : w3.heap.size < w4.heap.size := HSZ4.out
          have h2 : w.heap.size < w4.heap.size := Nat.lt_of_le_of_lt HQG.out HSZ4.out
          exact k _ h2 _ (k _ h2 _ (k _ h1 _ (k _ h1 _ PT5.out _ _) _ _) _ _) _ _
        exact bodyPost_ret (v := .tuple #[v5, .agg #[.int .i64 0, .int .i64 0]]) (by simp [results, Tryz.results39, go_sem, t0, t1]) rfl ⟨v5, z5, r5, rfl, Z5.out, PT.up hpt (Nat.le_of_lt (Nat.lt_of_le_of_lt HQG.out HSZ4.out)), below_put2 B6.out (Nat.le_refl _) _ _⟩
end Go.Proofs.YtiilpnoaocfjgaaGreatDoor.pr

namespace Go.Proofs.YtiilpnoaocfjgaaGreatDoor.lawLevels
open nd (Nd)
open pe (readF)
open lv (opLevel opSpell)
set_option maxRecDepth 100000

def opsL : List Int := [60, 57, 58, 59, 55, 56, 63, 47, 49, 67, 46, 45, 44]
def s1 (a b : Int) : ByteArray := ((((⟨#[120, 32]⟩ : ByteArray) ++ opSpell a) ++ ⟨#[32, 121, 32]⟩) ++ opSpell b) ++ ⟨#[32, 122]⟩
def s2 (a b : Int) : ByteArray := ((((⟨#[40, 120, 32]⟩ : ByteArray) ++ opSpell a) ++ ⟨#[32, 121, 41, 32]⟩) ++ opSpell b) ++ ⟨#[32, 122]⟩
def s3 (a b : Int) : ByteArray := ((((⟨#[120, 32]⟩ : ByteArray) ++ opSpell a) ++ ⟨#[32, 40, 121, 32]⟩) ++ opSpell b) ++ ⟨#[32, 122, 41]⟩
def small (t : List Nd) : Bool := decide (t.length ≤ 10) && t.all fun n => decide (n.kids.length ≤ 10)
def same (x y : Int) : Bool := x == y && (x == 7 || x == 6)
def first (x y a : Int) : Bool := decide (y < x) || (x == y && a != 60)
def right (a b : Int) : Bool :=
  decide ((s1 a b).size ≤ 1000) && (decide ((s2 a b).size ≤ 1000) && (decide ((s3 a b).size ≤ 1000) && (decide ((opSpell a).size ≤ 1000) &&
  (small (readF (s1 a b)).t && (small (readF (s2 a b)).t && (small (readF (s3 a b)).t &&
  (if same (opLevel a) (opLevel b) = true then decide ((readF (s1 a b)).k = 3 ∧ (readF (s1 a b)).a = 5 + ((opSpell a).size : Int)) && (readF (s1 a b)).t.length == 0
  else decide ((readF (s1 a b)).k = 0) && ((readF (s1 a b)).t.length == 5 &&
    (if first (opLevel a) (opLevel b) a = true then decide ((readF (s1 a b)).t = (readF (s2 a b)).t) && !decide ((readF (s1 a b)).t = (readF (s3 a b)).t)
    else decide ((readF (s1 a b)).t = (readF (s3 a b)).t) && !decide ((readF (s1 a b)).t = (readF (s2 a b)).t))))))))))
theorem row60 : (opsL.all fun b => right 60 b) = true := by decide +kernel
theorem row57 : (opsL.all fun b => right 57 b) = true := by decide +kernel
theorem row58 : (opsL.all fun b => right 58 b) = true := by decide +kernel
theorem row59 : (opsL.all fun b => right 59 b) = true := by decide +kernel
theorem row55 : (opsL.all fun b => right 55 b) = true := by decide +kernel
theorem row56 : (opsL.all fun b => right 56 b) = true := by decide +kernel
theorem row63 : (opsL.all fun b => right 63 b) = true := by decide +kernel
theorem row47 : (opsL.all fun b => right 47 b) = true := by decide +kernel
theorem row49 : (opsL.all fun b => right 49 b) = true := by decide +kernel
theorem row67 : (opsL.all fun b => right 67 b) = true := by decide +kernel
theorem row46 : (opsL.all fun b => right 46 b) = true := by decide +kernel
theorem row45 : (opsL.all fun b => right 45 b) = true := by decide +kernel
theorem row44 : (opsL.all fun b => right 44 b) = true := by decide +kernel
theorem row {A : Nat} (h : A < 13) : (opsL.all fun b => right (opsL.getD A 0) b) = true := by
  rcases (show A = 0 ∨ A = 1 ∨ A = 2 ∨ A = 3 ∨ A = 4 ∨ A = 5 ∨ A = 6 ∨ A = 7 ∨ A = 8 ∨ A = 9 ∨ A = 10 ∨ A = 11 ∨ A = 12 by omega) with rfl | rfl | rfl | rfl | rfl | rfl | rfl | rfl | rfl | rfl | rfl | rfl | rfl
  · exact row60
  · exact row57
  · exact row58
  · exact row59
  · exact row55
  · exact row56
  · exact row63
  · exact row47
  · exact row49
  · exact row67
  · exact row46
  · exact row45
  · exact row44
theorem right_all {A B : Nat} (h1 : A < 13) (h2 : B < 13) : right (opsL.getD A 0) (opsL.getD B 0) = true := by
  have h3 := row h1
  have hm : opsL.getD B 0 ∈ opsL := by
    rw [List.getD_eq_getElem?_getD, List.getElem?_eq_getElem (show B < opsL.length from h2)]
    exact List.getElem_mem _
  rw [List.all_eq_true] at h3
  exact h3 _ hm
end Go.Proofs.YtiilpnoaocfjgaaGreatDoor.lawLevels

namespace Go.Proofs.YtiilpnoaocfjgaaGreatDoor.lawLevels
open Go.ChangeShapes Go.WideShapes Go.ChangeAt Go.RowKit
open spell (Held held)
open nd (Nd PT)
open draw (IsRow)
open pe (readF)
open lv (opLevel opSpell)
open pr (ROut impl_read)
set_option linter.unusedVariables false
set_option linter.unusedSimpArgs false
set_option maxRecDepth 20000

theorem small_len {t : List Nd} (h : small t = true) : t.length ≤ 1048576 ∧ ∀ n ∈ t, n.kids.length ≤ 1048576 := by
  unfold small at h
  rw [Bool.and_eq_true, decide_eq_true_eq, List.all_eq_true] at h
  exact ⟨by omega, fun n hn => by have := h.2 n hn; rw [decide_eq_true_eq] at this; omega⟩
/-- What a reading hands back, in a world behind it. -/
structure Rd (t : List Nd) (v : Value) (w : World) : Prop where
  lies : ∃ a c, v = .slice a t.length c ∧ nd.Lies w.heap.size w a t
theorem Rd.of {B : Nat} {t : List Nd} {v : Value} {z : List (Nd × Value)} {r : Nat → Nat} {w : World} (h : PT B v z r w) (hz : z.map (·.1) = t) : Rd t v w := by
  obtain ⟨a, c, rfl⟩ := h.form
  have hl : z.length = t.length := by rw [← hz, List.length_map]
  exact ⟨a, c, by rw [hl], by rw [← hz]; exact h.lies⟩
theorem Rd.keep {t : List Nd} {v : Value} {w w' : World} (h : Rd t v w) (hb : Below w.heap.size w w') : Rd t v w' := by
  obtain ⟨a, c, e, hl⟩ := h.lies
  exact ⟨a, c, e, hl.on hb (Nat.le_refl _)⟩
theorem Rd.at {t : List Nd} {a : Option Addr} {n c : Nat} {w : World} (h : Rd t (.slice a n c) w) : nd.Lies w.heap.size w a t := by
  obtain ⟨a', c', e, hl⟩ := h.lies
  injection e with e1 e2 e3
  subst e1
  exact hl
theorem fbox_c {g : Nat} {k a : Int} {w : World} (h : pr.Bk g #[.int .i64 k, .int .i64 a] 31 w) : w.cell? ⟨g, 0, none⟩ = some (.int .i64 k) ∧ w.cell? ⟨g, 1, none⟩ = some (.int .i64 a) := h.c2

theorem eqF (z : Int) (W : World) : (binOp .eql 31 (.agg #[.int .i64 3, .int .i64 z]) (.agg #[.int .i64 3, .int .i64 z])).run Tryz.prog W = .ok (.bool true) W := by
  rw [run_eql_struct, run_equalIn_agg (d := 9999) W 31 _ _ (by kernel_rfl) (by kernel_rfl)]
  simp [go_sem]
theorem eqG (x y : Operand) (xs ys : Array Value) (W : World) : (eqGuard .eql 31 x y (.agg xs) (.agg ys)).run Tryz.prog W = .ok () W :=
  run_eqGuard_agg W .eql 31 x y xs ys (by kernel_rfl)

set_option maxHeartbeats 12800000 in
theorem core {a : Option Addr} {len cap : Nat} {zs : List Int} {w : World} (hc : draw.Code w.heap.size w a len zs) (hl : len ≤ 1048576) (hh : Held w) :
    Calls Tryz.prog 8 #[.slice a len cap] w fun e w' => e = .returned (.bool true) ∧ Below w.heap.size w w' := by
  have hbig : decide (1048576 < len) = false := by simp; omega
  have HAT := Lib.hid (fun k (hk : k ≤ 10) w2 (hb : Below w.heap.size w w2) => draw.at_code (a := a) (len := len) (zs := zs) (cap := cap) k hk w2 ((hc.keep hb).up hb.size) hl)
  have HH := Lib.hid hh
  clear hc hh
  go_enter Tryz.func8, Tryz.ntmps8
  go_wp2_with fail
  refine (draw.big_any a len cap _ (by omega)).mono ?_
  rw [hbig]
  rintro e w0 ⟨rfl, rfl⟩
  obtain ⟨W1, hW1⟩ : ∃ W1, W1 = w.alloc (.cells #[.int .i64 60, .int .i64 57, .int .i64 58, .int .i64 59, .int .i64 55, .int .i64 56, .int .i64 63, .int .i64 47, .int .i64 49, .int .i64 67, .int .i64 46, .int .i64 45, .int .i64 44] 3) := ⟨_, rfl⟩
  have B1 := Lib.hid (show Below w.heap.size w W1 by rw [hW1]; exact (Below.refl _ _).alloc (Nat.le_refl _) _)
  have hcell : ∀ A : Nat, A < 13 → W1.cell? ⟨w.heap.size, A, none⟩ = some (.int .i64 (opsL.getD A 0)) := by
    intro A hA
    have hr := heap_alloc_new w (.cells #[.int .i64 60, .int .i64 57, .int .i64 58, .int .i64 59, .int .i64 55, .int .i64 56, .int .i64 63, .int .i64 47, .int .i64 49, .int .i64 67, .int .i64 46, .int .i64 45, .int .i64 44] 3)
    rw [hW1, cell_of_row _ _ _ _ _ _ hr]
    rcases (show A = 0 ∨ A = 1 ∨ A = 2 ∨ A = 3 ∨ A = 4 ∨ A = 5 ∨ A = 6 ∨ A = 7 ∨ A = 8 ∨ A = 9 ∨ A = 10 ∨ A = 11 ∨ A = 12 by omega) with rfl | rfl | rfl | rfl | rfl | rfl | rfl | rfl | rfl | rfl | rfl | rfl | rfl <;> rfl
  have HCELL := Lib.hid hcell
  have HS1 := Lib.hid (show W1.heap.size = w.heap.size + 1 by rw [hW1]; simp)
  clear hcell
  go_wp2_with fail
  rw [← hW1]
  clear hW1
  refine (HAT.out 0 (by omega) _ B1.out).mono ?_
  rintro e w2 ⟨⟨X, hX, rfl⟩, rfl⟩
  obtain ⟨A, hA⟩ : ∃ A : Nat, A = X % 13 := ⟨_, rfl⟩
  have e1 : (X : Int).tmod 13 = (A : Int) := by rw [Int.tmod_eq_emod_of_nonneg (by omega)]; omega
  have e2 : (X : Int) % 13 = (A : Int) := by omega
  have hA2 : A < 13 := by omega
  have q0 : (0 : Int) ≤ (A : Int) := by omega
  have q1 : (A : Int) < 13 := by omega
  have cA := HCELL.out A hA2
  obtain ⟨va, hva⟩ : ∃ va, va = opsL.getD A 0 := ⟨_, rfl⟩
  rw [← hva] at cA
  have HVA := Lib.hid hva
  clear hX hA hva
  go_wp2_with fail
  clear cA e1 e2 q0 q1
  refine (HAT.out 1 (by omega) _ B1.out).mono ?_
  rintro e w2 ⟨⟨X, hX, rfl⟩, rfl⟩
  obtain ⟨B, hB⟩ : ∃ B : Nat, B = X % 13 := ⟨_, rfl⟩
  have e1 : (X : Int).tmod 13 = (B : Int) := by rw [Int.tmod_eq_emod_of_nonneg (by omega)]; omega
  have e2 : (X : Int) % 13 = (B : Int) := by omega
  have hB2 : B < 13 := by omega
  have q0 : (0 : Int) ≤ (B : Int) := by omega
  have q1 : (B : Int) < 13 := by omega
  have cB := HCELL.out B hB2
  obtain ⟨vb, hvb⟩ : ∃ vb, vb = opsL.getD B 0 := ⟨_, rfl⟩
  rw [← hvb] at cB
  have hr := right_all hA2 hB2
  rw [← HVA.out, ← hvb] at hr
  have HR := Lib.hid hr
  clear hX hB hvb hr HVA
  go_wp2_with fail
  clear cB e1 e2 q0 q1 hA2 hB2 HCELL
  refine (lv.impl_op va _).mono ?_
  rintro e w3 ⟨rfl, b3⟩
  have B3 := Lib.hid (B1.out.trans (b3.mono B1.out.size))
  clear b3
  go_wp2_with fail
  refine (lv.impl_op vb _).mono ?_
  rintro e w4 ⟨rfl, b4⟩
  have B4 := Lib.hid (B3.out.trans (b4.mono B3.out.size))
  clear b4
  have hr := HR.out
  unfold right at hr
  simp only [Bool.and_eq_true, decide_eq_true_eq] at hr
  obtain ⟨z1, z2, z3, za, y1, y2, y3, hr⟩ := hr
  have Y1 := Lib.hid (small_len y1)
  have Y2 := Lib.hid (small_len y2)
  have Y3 := Lib.hid (small_len y3)
  have HX := Lib.hid hr
  clear y1 y2 y3 hr HR
  have R1 := Lib.hid (fun w2 hh2 => impl_read (s1 va vb) w2 (by omega) hh2)
  have R2 := Lib.hid (fun w2 hh2 => impl_read (s2 va vb) w2 (by omega) hh2)
  have R3 := Lib.hid (fun w2 hh2 => impl_read (s3 va vb) w2 (by omega) hh2)
  obtain ⟨O1, hO1⟩ : ∃ O, readF (s1 va vb) = O := ⟨_, rfl⟩
  obtain ⟨O2, hO2⟩ : ∃ O, readF (s2 va vb) = O := ⟨_, rfl⟩
  obtain ⟨O3, hO3⟩ : ∃ O, readF (s3 va vb) = O := ⟨_, rfl⟩
  rw [hO1] at R1 HX Y1
  rw [hO2] at R2 HX Y2
  rw [hO3] at R3 HX Y3
  clear hO1 hO2 hO3
  have HSA := Lib.hid (fun w2 (hb : Below w.heap.size w w2) => lv.impl_opSpell va w2 (HH.out.below hb))
  have HSB := Lib.hid (fun w2 (hb : Below w.heap.size w w2) => lv.impl_opSpell vb w2 (HH.out.below hb))
  have E1 : ((((⟨#[120, 32]⟩ : ByteArray) ++ opSpell va) ++ ⟨#[32, 121, 32]⟩) ++ opSpell vb) ++ ⟨#[32, 122]⟩ = s1 va vb := rfl
  have E2 : ((((⟨#[40, 120, 32]⟩ : ByteArray) ++ opSpell va) ++ ⟨#[32, 121, 41, 32]⟩) ++ opSpell vb) ++ ⟨#[32, 122]⟩ = s2 va vb := rfl
  have E3 : ((((⟨#[120, 32]⟩ : ByteArray) ++ opSpell va) ++ ⟨#[32, 40, 121, 32]⟩) ++ opSpell vb) ++ ⟨#[32, 122, 41]⟩ = s3 va vb := rfl
  have z1' := z1
  unfold s1 at z1'
  simp only [ByteArray.size_append] at z1'
  have zx1 : (⟨#[120, 32]⟩ : ByteArray).size = 2 := rfl
  have zx2 : (⟨#[32, 121, 32]⟩ : ByteArray).size = 3 := rfl
  have zx3 : (⟨#[32, 122]⟩ : ByteArray).size = 2 := rfl
  have zb : (opSpell vb).size ≤ 1000 := by omega
  obtain ⟨S1, hS1⟩ : ∃ S, s1 va vb = S := ⟨_, rfl⟩
  obtain ⟨S2, hS2⟩ : ∃ S, s2 va vb = S := ⟨_, rfl⟩
  obtain ⟨S3, hS3⟩ : ∃ S, s3 va vb = S := ⟨_, rfl⟩
  rw [hS1] at E1 R1
  rw [hS2] at E2 R2
  rw [hS3] at E3 R3
  have HE1 := Lib.hid E1
  have HE2 := Lib.hid E2
  have HE3 := Lib.hid E3
  clear E1 E2 E3 hS1 hS2 hS3 z1 z2 z3 z1' zx1 zx2 zx3
  obtain ⟨p, hp⟩ : ∃ p, opSpell va = p := ⟨_, rfl⟩
  obtain ⟨q, hq⟩ : ∃ q, opSpell vb = q := ⟨_, rfl⟩
  obtain ⟨x, hx⟩ : ∃ x, opLevel va = x := ⟨_, rfl⟩
  obtain ⟨y, hy⟩ : ∃ y, opLevel vb = y := ⟨_, rfl⟩
  rw [hp] at HE1 HE2 HE3 HSA HX za
  rw [hq] at HE1 HE2 HE3 HSB zb
  rw [hx, hy] at HX
  rw [hx, hy]
  clear hp hq hx hy
  go_wp2_with fail
  refine (HSA.out _ B4.out).mono ?_
  rintro e w5 ⟨rfl, b5⟩
  have B5 := Lib.hid (B4.out.trans (b5.mono B4.out.size))
  clear b5
  go_wp2_with fail
  refine (HSB.out _ B5.out).mono ?_
  rintro e w6 ⟨rfl, b6⟩
  have B6 := Lib.hid (B5.out.trans (b6.mono B5.out.size))
  clear b6
  go_wp2_with fail
  rw [HE1.out]
  refine (R1.out _ (HH.out.below B6.out)).mono ?_
  rintro e w7 ⟨v1, z1, r1, rfl, hz1, pt1, b7⟩
  have D1 := Lib.hid (Rd.of pt1 hz1)
  have B7 := Lib.hid (B6.out.trans (b7.mono B6.out.size))
  clear b7 pt1 hz1
  obtain ⟨o1t, o1n, o1k, o1a⟩ := O1
  obtain ⟨W7, hW7⟩ : ∃ W, W = w7.alloc (.cells #[.int .i64 o1k, .int .i64 o1a] 31) := ⟨_, rfl⟩
  have X7 := Lib.hid (show pr.Bk w7.heap.size #[.int .i64 o1k, .int .i64 o1a] 31 W7 by rw [hW7]; exact pr.Bk.new _ _ _)
  have C7 := Lib.hid (show Below w7.heap.size w7 W7 by rw [hW7]; exact (Below.refl _ _).alloc (Nat.le_refl _) _)
  have BA := Lib.hid (show Below w.heap.size w W7 from B7.out.trans (C7.out.mono B7.out.size))
  have D7 := Lib.hid (D1.out.keep C7.out)
  obtain ⟨a1, c1, rfl, -⟩ := D7.out.lies
  have Q7 := Lib.hid X7.out.c2
  rw [hW7] at Q7
  have hr := HX.out
  clear HX
  by_cases hsm : same x y = true
  · rw [if_pos hsm] at hr
    simp only [Bool.and_eq_true, decide_eq_true_eq, beq_iff_eq] at hr
    obtain ⟨⟨rfl, rfl⟩, h0⟩ := hr
    unfold same at hsm
    rw [Bool.and_eq_true, Bool.or_eq_true, beq_iff_eq, beq_iff_eq, beq_iff_eq] at hsm
    obtain ⟨rfl, h7⟩ := hsm
    have h0' := h0
    dsimp only
    rw [h0]
    obtain ⟨y0, y1⟩ := Q7.out
    obtain ⟨z, hz⟩ : ∃ z : Int, z = 5 + (p.size : Int) := ⟨_, rfl⟩
    rw [← hz] at hW7 X7 Q7 y0 y1 ⊢
    have s1 : IntKind.i64.wrap (5 + (p.size : Int)) = z := by rw [hz, IntKind.wrap_i64]; omega
    have HZ := Lib.hid (show ∀ W, Below W7.heap.size W7 W → W.cell? ⟨w7.heap.size, 0, none⟩ = some (.int .i64 3) ∧ W.cell? ⟨w7.heap.size, 1, none⟩ = some (.int .i64 z) from fun W hb => (X7.out.keep hb).c2)
    have zz : (z == z) = true := by simp
    clear hz
    rcases h7 with rfl | rfl
    all_goals
      go_wp2_with fail
      rw [← hW7]
      clear hW7 Q7 y0 y1 zz
      have YB := Lib.hid (HZ.out _ (show Below W7.heap.size W7 W7.drew from (Below.refl _ _).drew))
      go_region_held3 (fun w' => w'.cell? ⟨w7.heap.size, 0, none⟩ = some (.int .i64 3) ∧ w'.cell? ⟨w7.heap.size, 1, none⟩ = some (.int .i64 z))
        (first | (with_reducible exact YB.out) | (with_reducible exact HZ.out _ B9.out))
        (first | (go_at_call 38; refine (HSA.out _ (show Below w.heap.size w _ from BA.out.drew)).mono ?_; rintro e w9 ⟨rfl, b9⟩; have B9 := Lib.hid (show Below W7.heap.size W7 w9 from ⟨b9.os, b9.tape, b9.output, b9.size, b9.block⟩); clear b9))
      all_goals
        go_wp2
        go_ret
        exact ⟨rfl, BA.out.trans (B9.out.mono BA.out.size)⟩
  · rw [if_neg hsm] at hr
    simp only [Bool.and_eq_true, decide_eq_true_eq, beq_iff_eq] at hr
    obtain ⟨rfl, h5, hr⟩ := hr
    dsimp only
    have HL5 := Lib.hid h5
    rw [h5]
    obtain ⟨y0, y1⟩ := Q7.out
    have HHR := Lib.hid hr
    clear h5 hr
    by_cases he : x = y
    · subst he
      have n7 : ¬ x = 7 := fun h => hsm (by rw [h]; rfl)
      have n6 : ¬ x = 6 := fun h => hsm (by rw [h]; rfl)
      have q7 : (x == 7) = false := by rw [beq_eq_false_iff_ne]; exact n7
      have q6 : (x == 6) = false := by rw [beq_eq_false_iff_ne]; exact n6
      clear hsm n7 n6
      by_cases h60 : va = 60
      · have HF := Lib.hid (show ¬ first x x va = true by unfold first; rw [h60]; simp)
        have q60 : (va != 60) = false := by rw [h60]; rfl
        clear h60
        go_wp2_with fail
        rw [← hW7]
        clear hW7 Q7 y0 y1
        refine (HSA.out _ BA.out).mono ?_
        rintro e w8 ⟨rfl, b8⟩
        have B8 := Lib.hid (BA.out.trans (b8.mono BA.out.size))
        have D8 := Lib.hid (D7.out.keep b8)
        clear b8
        go_wp2_with fail
        refine (HSB.out _ B8.out).mono ?_
        rintro e w9 ⟨rfl, b9⟩
        have B9 := Lib.hid (B8.out.trans (b9.mono B8.out.size))
        have D9 := Lib.hid (D8.out.keep b9)
        clear b9
        go_wp2_with fail
        rw [HE2.out]
        refine (R2.out _ (HH.out.below B9.out)).mono ?_
        rintro e w10 ⟨v2, z2, r2, rfl, hz2, pt2, b10⟩
        have F10 := Lib.hid (Rd.of pt2 hz2)
        have B10 := Lib.hid (B9.out.trans (b10.mono B9.out.size))
        have D10 := Lib.hid (D9.out.keep b10)
        clear b10 pt2 hz2
        obtain ⟨o2t, o2n, o2k, o2a⟩ := O2
        obtain ⟨a2, c2, rfl, -⟩ := F10.out.lies
        obtain ⟨W10, hW10⟩ : ∃ W, W = w10.alloc (.cells #[.int .i64 o2k, .int .i64 o2a] 31) := ⟨_, rfl⟩
        have C10 := Lib.hid (show Below w10.heap.size w10 W10 by rw [hW10]; exact (Below.refl _ _).alloc (Nat.le_refl _) _)
        have B10x := Lib.hid (B10.out.trans (C10.out.mono B10.out.size))
        have D10x := Lib.hid (D10.out.keep C10.out)
        have F10x := Lib.hid (F10.out.keep C10.out)
        dsimp only
        go_wp2_with fail
        rw [← hW10]
        clear hW10
        refine (HSA.out _ B10x.out).mono ?_
        rintro e w11 ⟨rfl, b11⟩
        have B11 := Lib.hid (B10x.out.trans (b11.mono B10x.out.size))
        have D11 := Lib.hid (D10x.out.keep b11)
        have F11 := Lib.hid (F10x.out.keep b11)
        clear b11
        go_wp2_with fail
        refine (HSB.out _ B11.out).mono ?_
        rintro e w12 ⟨rfl, b12⟩
        have B12 := Lib.hid (B11.out.trans (b12.mono B11.out.size))
        have D12 := Lib.hid (D11.out.keep b12)
        have F12 := Lib.hid (F11.out.keep b12)
        clear b12
        go_wp2_with fail
        rw [HE3.out]
        refine (R3.out _ (HH.out.below B12.out)).mono ?_
        rintro e w13 ⟨v3, z3, r3, rfl, hz3, pt3, b13⟩
        have G13 := Lib.hid (Rd.of pt3 hz3)
        have B13 := Lib.hid (B12.out.trans (b13.mono B12.out.size))
        have D13 := Lib.hid (D12.out.keep b13)
        have F13 := Lib.hid (F12.out.keep b13)
        clear b13 pt3 hz3
        obtain ⟨o3t, o3n, o3k, o3a⟩ := O3
        obtain ⟨a3, c3, rfl, -⟩ := G13.out.lies
        obtain ⟨W13, hW13⟩ : ∃ W, W = w13.alloc (.cells #[.int .i64 o3k, .int .i64 o3a] 31) := ⟨_, rfl⟩
        have C13 := Lib.hid (show Below w13.heap.size w13 W13 by rw [hW13]; exact (Below.refl _ _).alloc (Nat.le_refl _) _)
        have B13x := Lib.hid (B13.out.trans (C13.out.mono B13.out.size))
        have D13x := Lib.hid (D13.out.keep C13.out)
        have F13x := Lib.hid (F13.out.keep C13.out)
        have G13x := Lib.hid (G13.out.keep C13.out)
        dsimp only
        have hr := HHR.out
        have hr2 := hr
        clear hr
        go_wp2_with fail
        rw [← hW13]
        clear hW13
        rw [if_neg HF.out] at hr2
        simp only [Bool.and_eq_true, Bool.not_eq_true', decide_eq_true_eq, decide_eq_false_iff_not] at hr2
        have HQ3 := Lib.hid (show decide (o1t = o3t) = true from decide_eq_true hr2.1)
        have HQ2 := Lib.hid (show decide (o1t = o2t) = false from decide_eq_false hr2.2)
        clear hr2
        have HS14 := Lib.hid (nd.spec_same o1t o3t a1 a3 c1 c3 _ Y1.out.1 Y3.out.1 Y1.out.2 Y3.out.2 D13x.out.at G13x.out.at)
        rw [show decide (o1t = o3t) = true from HQ3.out, HL5.out] at HS14
        refine HS14.out.mono ?_
        clear HS14
        rintro e w14 ⟨rfl, b14⟩
        have B14 := Lib.hid (B13x.out.trans (b14.mono B13x.out.size))
        have D14 := Lib.hid (D13x.out.keep b14)
        have F14 := Lib.hid (F13x.out.keep b14)
        have G14 := Lib.hid (G13x.out.keep b14)
        clear b14
        go_wp2_with fail
        have HS15 := Lib.hid (nd.spec_same o1t o2t a1 a2 c1 c2 _ Y1.out.1 Y2.out.1 Y1.out.2 Y2.out.2 D14.out.at F14.out.at)
        rw [show decide (o1t = o2t) = false from HQ2.out, HL5.out] at HS15
        refine HS15.out.mono ?_
        clear HS15
        rintro e w15 ⟨rfl, b15⟩
        have B15 := Lib.hid (B14.out.trans (b15.mono B14.out.size))
        have D15 := Lib.hid (D14.out.keep b15)
        have F15 := Lib.hid (F14.out.keep b15)
        have G15 := Lib.hid (G14.out.keep b15)
        clear b15
        go_wp2
        go_ret
        exact ⟨rfl, B15.out⟩
      · have HF := Lib.hid (show first x x va = true by unfold first; simp [h60])
        have q60 : (va != 60) = true := by simp [h60]
        clear h60
        go_wp2_with fail
        rw [← hW7]
        clear hW7 Q7 y0 y1
        refine (HSA.out _ BA.out).mono ?_
        rintro e w8 ⟨rfl, b8⟩
        have B8 := Lib.hid (BA.out.trans (b8.mono BA.out.size))
        have D8 := Lib.hid (D7.out.keep b8)
        clear b8
        go_wp2_with fail
        refine (HSB.out _ B8.out).mono ?_
        rintro e w9 ⟨rfl, b9⟩
        have B9 := Lib.hid (B8.out.trans (b9.mono B8.out.size))
        have D9 := Lib.hid (D8.out.keep b9)
        clear b9
        go_wp2_with fail
        rw [HE2.out]
        refine (R2.out _ (HH.out.below B9.out)).mono ?_
        rintro e w10 ⟨v2, z2, r2, rfl, hz2, pt2, b10⟩
        have F10 := Lib.hid (Rd.of pt2 hz2)
        have B10 := Lib.hid (B9.out.trans (b10.mono B9.out.size))
        have D10 := Lib.hid (D9.out.keep b10)
        clear b10 pt2 hz2
        obtain ⟨o2t, o2n, o2k, o2a⟩ := O2
        obtain ⟨a2, c2, rfl, -⟩ := F10.out.lies
        obtain ⟨W10, hW10⟩ : ∃ W, W = w10.alloc (.cells #[.int .i64 o2k, .int .i64 o2a] 31) := ⟨_, rfl⟩
        have C10 := Lib.hid (show Below w10.heap.size w10 W10 by rw [hW10]; exact (Below.refl _ _).alloc (Nat.le_refl _) _)
        have B10x := Lib.hid (B10.out.trans (C10.out.mono B10.out.size))
        have D10x := Lib.hid (D10.out.keep C10.out)
        have F10x := Lib.hid (F10.out.keep C10.out)
        dsimp only
        go_wp2_with fail
        rw [← hW10]
        clear hW10
        refine (HSA.out _ B10x.out).mono ?_
        rintro e w11 ⟨rfl, b11⟩
        have B11 := Lib.hid (B10x.out.trans (b11.mono B10x.out.size))
        have D11 := Lib.hid (D10x.out.keep b11)
        have F11 := Lib.hid (F10x.out.keep b11)
        clear b11
        go_wp2_with fail
        refine (HSB.out _ B11.out).mono ?_
        rintro e w12 ⟨rfl, b12⟩
        have B12 := Lib.hid (B11.out.trans (b12.mono B11.out.size))
        have D12 := Lib.hid (D11.out.keep b12)
        have F12 := Lib.hid (F11.out.keep b12)
        clear b12
        go_wp2_with fail
        rw [HE3.out]
        refine (R3.out _ (HH.out.below B12.out)).mono ?_
        rintro e w13 ⟨v3, z3, r3, rfl, hz3, pt3, b13⟩
        have G13 := Lib.hid (Rd.of pt3 hz3)
        have B13 := Lib.hid (B12.out.trans (b13.mono B12.out.size))
        have D13 := Lib.hid (D12.out.keep b13)
        have F13 := Lib.hid (F12.out.keep b13)
        clear b13 pt3 hz3
        obtain ⟨o3t, o3n, o3k, o3a⟩ := O3
        obtain ⟨a3, c3, rfl, -⟩ := G13.out.lies
        obtain ⟨W13, hW13⟩ : ∃ W, W = w13.alloc (.cells #[.int .i64 o3k, .int .i64 o3a] 31) := ⟨_, rfl⟩
        have C13 := Lib.hid (show Below w13.heap.size w13 W13 by rw [hW13]; exact (Below.refl _ _).alloc (Nat.le_refl _) _)
        have B13x := Lib.hid (B13.out.trans (C13.out.mono B13.out.size))
        have D13x := Lib.hid (D13.out.keep C13.out)
        have F13x := Lib.hid (F13.out.keep C13.out)
        have G13x := Lib.hid (G13.out.keep C13.out)
        dsimp only
        have hr := HHR.out
        have hr2 := hr
        clear hr
        go_wp2_with fail
        rw [← hW13]
        clear hW13
        rw [if_pos HF.out] at hr2
        simp only [Bool.and_eq_true, Bool.not_eq_true', decide_eq_true_eq, decide_eq_false_iff_not] at hr2
        have HQ2 := Lib.hid (show decide (o1t = o2t) = true from decide_eq_true hr2.1)
        have HQ3 := Lib.hid (show decide (o1t = o3t) = false from decide_eq_false hr2.2)
        clear hr2
        have HS14 := Lib.hid (nd.spec_same o1t o2t a1 a2 c1 c2 _ Y1.out.1 Y2.out.1 Y1.out.2 Y2.out.2 D13x.out.at F13x.out.at)
        rw [show decide (o1t = o2t) = true from HQ2.out, HL5.out] at HS14
        refine HS14.out.mono ?_
        clear HS14
        rintro e w14 ⟨rfl, b14⟩
        have B14 := Lib.hid (B13x.out.trans (b14.mono B13x.out.size))
        have D14 := Lib.hid (D13x.out.keep b14)
        have F14 := Lib.hid (F13x.out.keep b14)
        have G14 := Lib.hid (G13x.out.keep b14)
        clear b14
        go_wp2_with fail
        have HS15 := Lib.hid (nd.spec_same o1t o3t a1 a3 c1 c3 _ Y1.out.1 Y3.out.1 Y1.out.2 Y3.out.2 D14.out.at G14.out.at)
        rw [show decide (o1t = o3t) = false from HQ3.out, HL5.out] at HS15
        refine HS15.out.mono ?_
        clear HS15
        rintro e w15 ⟨rfl, b15⟩
        have B15 := Lib.hid (B14.out.trans (b15.mono B14.out.size))
        have D15 := Lib.hid (D14.out.keep b15)
        have F15 := Lib.hid (F14.out.keep b15)
        have G15 := Lib.hid (G14.out.keep b15)
        clear b15
        go_wp2
        go_ret
        exact ⟨rfl, B15.out⟩
    · have qe : (x == y) = false := by rw [beq_eq_false_iff_ne]; exact he
      clear hsm
      by_cases hlt : y < x
      · have HF := Lib.hid (show first x y va = true by unfold first; simp [hlt])
        go_wp2_with fail
        rw [← hW7]
        clear hW7 Q7 y0 y1
        refine (HSA.out _ BA.out).mono ?_
        rintro e w8 ⟨rfl, b8⟩
        have B8 := Lib.hid (BA.out.trans (b8.mono BA.out.size))
        have D8 := Lib.hid (D7.out.keep b8)
        clear b8
        go_wp2_with fail
        refine (HSB.out _ B8.out).mono ?_
        rintro e w9 ⟨rfl, b9⟩
        have B9 := Lib.hid (B8.out.trans (b9.mono B8.out.size))
        have D9 := Lib.hid (D8.out.keep b9)
        clear b9
        go_wp2_with fail
        rw [HE2.out]
        refine (R2.out _ (HH.out.below B9.out)).mono ?_
        rintro e w10 ⟨v2, z2, r2, rfl, hz2, pt2, b10⟩
        have F10 := Lib.hid (Rd.of pt2 hz2)
        have B10 := Lib.hid (B9.out.trans (b10.mono B9.out.size))
        have D10 := Lib.hid (D9.out.keep b10)
        clear b10 pt2 hz2
        obtain ⟨o2t, o2n, o2k, o2a⟩ := O2
        obtain ⟨a2, c2, rfl, -⟩ := F10.out.lies
        obtain ⟨W10, hW10⟩ : ∃ W, W = w10.alloc (.cells #[.int .i64 o2k, .int .i64 o2a] 31) := ⟨_, rfl⟩
        have C10 := Lib.hid (show Below w10.heap.size w10 W10 by rw [hW10]; exact (Below.refl _ _).alloc (Nat.le_refl _) _)
        have B10x := Lib.hid (B10.out.trans (C10.out.mono B10.out.size))
        have D10x := Lib.hid (D10.out.keep C10.out)
        have F10x := Lib.hid (F10.out.keep C10.out)
        dsimp only
        go_wp2_with fail
        rw [← hW10]
        clear hW10
        refine (HSA.out _ B10x.out).mono ?_
        rintro e w11 ⟨rfl, b11⟩
        have B11 := Lib.hid (B10x.out.trans (b11.mono B10x.out.size))
        have D11 := Lib.hid (D10x.out.keep b11)
        have F11 := Lib.hid (F10x.out.keep b11)
        clear b11
        go_wp2_with fail
        refine (HSB.out _ B11.out).mono ?_
        rintro e w12 ⟨rfl, b12⟩
        have B12 := Lib.hid (B11.out.trans (b12.mono B11.out.size))
        have D12 := Lib.hid (D11.out.keep b12)
        have F12 := Lib.hid (F11.out.keep b12)
        clear b12
        go_wp2_with fail
        rw [HE3.out]
        refine (R3.out _ (HH.out.below B12.out)).mono ?_
        rintro e w13 ⟨v3, z3, r3, rfl, hz3, pt3, b13⟩
        have G13 := Lib.hid (Rd.of pt3 hz3)
        have B13 := Lib.hid (B12.out.trans (b13.mono B12.out.size))
        have D13 := Lib.hid (D12.out.keep b13)
        have F13 := Lib.hid (F12.out.keep b13)
        clear b13 pt3 hz3
        obtain ⟨o3t, o3n, o3k, o3a⟩ := O3
        obtain ⟨a3, c3, rfl, -⟩ := G13.out.lies
        obtain ⟨W13, hW13⟩ : ∃ W, W = w13.alloc (.cells #[.int .i64 o3k, .int .i64 o3a] 31) := ⟨_, rfl⟩
        have C13 := Lib.hid (show Below w13.heap.size w13 W13 by rw [hW13]; exact (Below.refl _ _).alloc (Nat.le_refl _) _)
        have B13x := Lib.hid (B13.out.trans (C13.out.mono B13.out.size))
        have D13x := Lib.hid (D13.out.keep C13.out)
        have F13x := Lib.hid (F13.out.keep C13.out)
        have G13x := Lib.hid (G13.out.keep C13.out)
        dsimp only
        have hr := HHR.out
        have hr2 := hr
        clear hr
        go_wp2_with fail
        rw [← hW13]
        clear hW13
        rw [if_pos HF.out] at hr2
        simp only [Bool.and_eq_true, Bool.not_eq_true', decide_eq_true_eq, decide_eq_false_iff_not] at hr2
        have HQ2 := Lib.hid (show decide (o1t = o2t) = true from decide_eq_true hr2.1)
        have HQ3 := Lib.hid (show decide (o1t = o3t) = false from decide_eq_false hr2.2)
        clear hr2
        have HS14 := Lib.hid (nd.spec_same o1t o2t a1 a2 c1 c2 _ Y1.out.1 Y2.out.1 Y1.out.2 Y2.out.2 D13x.out.at F13x.out.at)
        rw [show decide (o1t = o2t) = true from HQ2.out, HL5.out] at HS14
        refine HS14.out.mono ?_
        clear HS14
        rintro e w14 ⟨rfl, b14⟩
        have B14 := Lib.hid (B13x.out.trans (b14.mono B13x.out.size))
        have D14 := Lib.hid (D13x.out.keep b14)
        have F14 := Lib.hid (F13x.out.keep b14)
        have G14 := Lib.hid (G13x.out.keep b14)
        clear b14
        go_wp2_with fail
        have HS15 := Lib.hid (nd.spec_same o1t o3t a1 a3 c1 c3 _ Y1.out.1 Y3.out.1 Y1.out.2 Y3.out.2 D14.out.at G14.out.at)
        rw [show decide (o1t = o3t) = false from HQ3.out, HL5.out] at HS15
        refine HS15.out.mono ?_
        clear HS15
        rintro e w15 ⟨rfl, b15⟩
        have B15 := Lib.hid (B14.out.trans (b15.mono B14.out.size))
        have D15 := Lib.hid (D14.out.keep b15)
        have F15 := Lib.hid (F14.out.keep b15)
        have G15 := Lib.hid (G14.out.keep b15)
        clear b15
        go_wp2
        go_ret
        exact ⟨rfl, B15.out⟩
      · have HF := Lib.hid (show ¬ first x y va = true by unfold first; simp [hlt, qe])
        go_wp2_with fail
        rw [← hW7]
        clear hW7 Q7 y0 y1
        refine (HSA.out _ BA.out).mono ?_
        rintro e w8 ⟨rfl, b8⟩
        have B8 := Lib.hid (BA.out.trans (b8.mono BA.out.size))
        have D8 := Lib.hid (D7.out.keep b8)
        clear b8
        go_wp2_with fail
        refine (HSB.out _ B8.out).mono ?_
        rintro e w9 ⟨rfl, b9⟩
        have B9 := Lib.hid (B8.out.trans (b9.mono B8.out.size))
        have D9 := Lib.hid (D8.out.keep b9)
        clear b9
        go_wp2_with fail
        rw [HE2.out]
        refine (R2.out _ (HH.out.below B9.out)).mono ?_
        rintro e w10 ⟨v2, z2, r2, rfl, hz2, pt2, b10⟩
        have F10 := Lib.hid (Rd.of pt2 hz2)
        have B10 := Lib.hid (B9.out.trans (b10.mono B9.out.size))
        have D10 := Lib.hid (D9.out.keep b10)
        clear b10 pt2 hz2
        obtain ⟨o2t, o2n, o2k, o2a⟩ := O2
        obtain ⟨a2, c2, rfl, -⟩ := F10.out.lies
        obtain ⟨W10, hW10⟩ : ∃ W, W = w10.alloc (.cells #[.int .i64 o2k, .int .i64 o2a] 31) := ⟨_, rfl⟩
        have C10 := Lib.hid (show Below w10.heap.size w10 W10 by rw [hW10]; exact (Below.refl _ _).alloc (Nat.le_refl _) _)
        have B10x := Lib.hid (B10.out.trans (C10.out.mono B10.out.size))
        have D10x := Lib.hid (D10.out.keep C10.out)
        have F10x := Lib.hid (F10.out.keep C10.out)
        dsimp only
        go_wp2_with fail
        rw [← hW10]
        clear hW10
        refine (HSA.out _ B10x.out).mono ?_
        rintro e w11 ⟨rfl, b11⟩
        have B11 := Lib.hid (B10x.out.trans (b11.mono B10x.out.size))
        have D11 := Lib.hid (D10x.out.keep b11)
        have F11 := Lib.hid (F10x.out.keep b11)
        clear b11
        go_wp2_with fail
        refine (HSB.out _ B11.out).mono ?_
        rintro e w12 ⟨rfl, b12⟩
        have B12 := Lib.hid (B11.out.trans (b12.mono B11.out.size))
        have D12 := Lib.hid (D11.out.keep b12)
        have F12 := Lib.hid (F11.out.keep b12)
        clear b12
        go_wp2_with fail
        rw [HE3.out]
        refine (R3.out _ (HH.out.below B12.out)).mono ?_
        rintro e w13 ⟨v3, z3, r3, rfl, hz3, pt3, b13⟩
        have G13 := Lib.hid (Rd.of pt3 hz3)
        have B13 := Lib.hid (B12.out.trans (b13.mono B12.out.size))
        have D13 := Lib.hid (D12.out.keep b13)
        have F13 := Lib.hid (F12.out.keep b13)
        clear b13 pt3 hz3
        obtain ⟨o3t, o3n, o3k, o3a⟩ := O3
        obtain ⟨a3, c3, rfl, -⟩ := G13.out.lies
        obtain ⟨W13, hW13⟩ : ∃ W, W = w13.alloc (.cells #[.int .i64 o3k, .int .i64 o3a] 31) := ⟨_, rfl⟩
        have C13 := Lib.hid (show Below w13.heap.size w13 W13 by rw [hW13]; exact (Below.refl _ _).alloc (Nat.le_refl _) _)
        have B13x := Lib.hid (B13.out.trans (C13.out.mono B13.out.size))
        have D13x := Lib.hid (D13.out.keep C13.out)
        have F13x := Lib.hid (F13.out.keep C13.out)
        have G13x := Lib.hid (G13.out.keep C13.out)
        dsimp only
        have hr := HHR.out
        have hr2 := hr
        clear hr
        go_wp2_with fail
        rw [← hW13]
        clear hW13
        rw [if_neg HF.out] at hr2
        simp only [Bool.and_eq_true, Bool.not_eq_true', decide_eq_true_eq, decide_eq_false_iff_not] at hr2
        have HQ3 := Lib.hid (show decide (o1t = o3t) = true from decide_eq_true hr2.1)
        have HQ2 := Lib.hid (show decide (o1t = o2t) = false from decide_eq_false hr2.2)
        clear hr2
        have HS14 := Lib.hid (nd.spec_same o1t o3t a1 a3 c1 c3 _ Y1.out.1 Y3.out.1 Y1.out.2 Y3.out.2 D13x.out.at G13x.out.at)
        rw [show decide (o1t = o3t) = true from HQ3.out, HL5.out] at HS14
        refine HS14.out.mono ?_
        clear HS14
        rintro e w14 ⟨rfl, b14⟩
        have B14 := Lib.hid (B13x.out.trans (b14.mono B13x.out.size))
        have D14 := Lib.hid (D13x.out.keep b14)
        have F14 := Lib.hid (F13x.out.keep b14)
        have G14 := Lib.hid (G13x.out.keep b14)
        clear b14
        go_wp2_with fail
        have HS15 := Lib.hid (nd.spec_same o1t o2t a1 a2 c1 c2 _ Y1.out.1 Y2.out.1 Y1.out.2 Y2.out.2 D14.out.at F14.out.at)
        rw [show decide (o1t = o2t) = false from HQ2.out, HL5.out] at HS15
        refine HS15.out.mono ?_
        clear HS15
        rintro e w15 ⟨rfl, b15⟩
        have B15 := Lib.hid (B14.out.trans (b15.mono B14.out.size))
        have D15 := Lib.hid (D14.out.keep b15)
        have F15 := Lib.hid (F14.out.keep b15)
        have G15 := Lib.hid (G14.out.keep b15)
        clear b15
        go_wp2
        go_ret
        exact ⟨rfl, B15.out⟩

theorem walk (a : Option Addr) (len cap : Nat) (zs : List Int) (w : World) (hz : draw.IsRow .u8 w a len cap zs) (hh : Held w) :
    Calls Tryz.prog 8 #[.slice a len cap] w fun e w' => e = .returned (.bool true) ∧ Below w.heap.size w w' := by
  have hlm : len ≤ maxLen := by
    rcases hz with ⟨_, rfl, _, _⟩ | ⟨x, _, hl, hm, _⟩
    · exact Nat.zero_le _
    · exact Nat.le_trans hl hm
  unfold maxLen at hlm
  by_cases hl : len ≤ 1048576
  · exact core (draw.code_of hz) hl hh
  · have hbig : decide (1048576 < len) = true := by simp; omega
    clear hz
    go_enter Tryz.func8, Tryz.ntmps8
    go_wp2_with fail
    refine (draw.big_any a len cap _ (by omega)).mono ?_
    rw [hbig]
    rintro e w1 ⟨rfl, rfl⟩
    go_wp2
    go_ret
    exact ⟨rfl, Below.refl _ _⟩
end Go.Proofs.YtiilpnoaocfjgaaGreatDoor.lawLevels
