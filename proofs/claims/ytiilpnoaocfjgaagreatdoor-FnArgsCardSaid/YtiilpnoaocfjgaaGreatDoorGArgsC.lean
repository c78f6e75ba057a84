/-
  What ParseExpr and ReadExpr answer: the mathematics.
  impl's exprParser: placeOf, tokensFault, sizeFault; ParseExpr: contracts.
  impl's exprParser: ParseExpr: contracts.
  What ReadExpr answers: the mathematics.
  impl's exprParser: ReadExpr: contracts.
  FnArgs: its texts, read: by the kernel.
  'laws.FnArgs' returns true at every slice of bytes, and leaves it as it was. A list of up to MaxArgs elements is read; the comma behind these is the fault's place. No condition.
-/
import Derived.Test.YtiilpnoaocfjgaaGreatDoorPeUp
import Derived.Test.YtiilpnoaocfjgaaGreatDoorGEx
import Derived.Test.YtiilpnoaocfjgaaGreatDoorGLex
import Derived.Test.YtiilpnoaocfjgaaGreatDoorDepthMath
import Derived.Test.YtiilpnoaocfjgaaGreatDoorDepth
import Derived.Test.YtiilpnoaocfjgaaGreatDoorCards
import Derived.Test.YtiilpnoaocfjgaaGreatDoorTie
import Derived.Test.YtiilpnoaocfjgaaGreatDoorLaidKw
import Derived.Test.YtiilpnoaocfjgaaGreatDoorGArgsA
import Derived.OpenVars
import Derived.Deep.DeepHandedRow
import Derived.Deep.RegionHeld3
import Derived.Laws.StructEq
import Derived.Lib.SmallJoins
import Derived.Stop.LaidErr
namespace Go.Proofs.YtiilpnoaocfjgaaGreatDoor.pe
open Go.RowKit
open nd (Nd depthF)
open tk (Tk)
open ps (Ps posOk)
open tksok (tokensOk)
set_option linter.unusedVariables false
set_option linter.unusedSimpArgs false

def ta (l : List Tk) (i : Nat) : Int := (l[i]?.map (·.a)).getD 0
theorem ta_at {l : List Tk} {i : Nat} (h : i < l.length) : ta l i = l[i].a := by unfold ta; rw [List.getElem?_eq_getElem h]; rfl
/-- Where token i lies, or the end of the last one. -/
def place (l : List Tk) (i : Nat) : Int :=
  if i < l.length then ta l i else if l.length = 0 then 0 else wrap64 (ta l (l.length - 1) + ((tx l (l.length - 1)).size : Int))
/-- The fault of tokens, of a tree: kind and place. -/
def tf (l : List Tk) : Int × Int := if tokensOk l = true then (if 0 ≤ pb.nestOf l then (4, place l (pb.nestOf l).toNat) else (0, 0)) else (2, 0)
def sf (t : List Nd) : Int × Int := if 400 < t.length then (1, 0) else if 40 < depthF t then (4, 0) else (0, 0)
structure Out where
  t : List Nd
  n : Nat
  k : Int
  a : Int
def finish (l : List Tk) : R → Out
  | .bad j => ⟨[], 0, 3, place l j⟩
  | .ok _ _ t j => if (sf t).1 = 0 then ⟨t, j, 0, 0⟩ else ⟨[], 0, (sf t).1, (sf t).2⟩
def parse (l : List Tk) (p : Ps) : Out :=
  if posOk p.l p.d = true then
    (if (tf l).1 = 0 then finish l (ex l (l.length + 1) p 0) else ⟨[], 0, (tf l).1, (tf l).2⟩)
  else ⟨[], 0, 3, 0⟩
theorem toks_len {l : List Tk} (h : (tf l).1 = 0) : tokensOk l = true ∧ l.length ≤ 3000 ∧ pb.nestOf l < 0 := by
  unfold tf at h
  split at h
  · next h1 =>
    refine ⟨h1, ?_, ?_⟩
    · unfold tokensOk at h1
      rw [Bool.and_eq_true, decide_eq_true_eq] at h1
      exact h1.1
    · split at h
      · exact absurd h (show ¬ (4 : Int) = 0 by decide)
      · omega
  · exact absurd h (show ¬ (2 : Int) = 0 by decide)
theorem sf_ok {t : List Nd} (h : (sf t).1 = 0) : t.length ≤ 400 ∧ depthF t ≤ 40 := by
  unfold sf at h
  split at h
  · exact absurd h (show ¬ (1 : Int) = 0 by decide)
  split at h
  · exact absurd h (show ¬ (4 : Int) = 0 by decide)
  · omega
end Go.Proofs.YtiilpnoaocfjgaaGreatDoor.pe

namespace Go.Proofs.YtiilpnoaocfjgaaGreatDoor.pr
open Go.ChangeShapes Go.WideShapes Go.ChangeAt Go.RowKit
open tk (Tk)
open nd (Nd PT KidV IBlk OwnI shN makeT)
open ps (Ps B5 posOk kidI top)
open pe
open spell (Held)
open tksok (tokensOk)
set_option linter.unusedVariables false
set_option linter.unusedSimpArgs false
set_option maxRecDepth 20000

theorem lies_on {w w' : World} {a : Option Addr} {l : List Tk} (h : tk.Lies w.heap.size w a l) (hb : Below w.heap.size w w') : tk.Lies w'.heap.size w' a l := (h.keep hb (Nat.le_refl _)).up hb.size

set_option maxHeartbeats 1600000 in
theorem impl_place (l : List Tk) (a : Option Addr) (cap i : Nat) (w : World) (hc : tk.Lies w.heap.size w a l) (hl : l.length ≤ 1048576) (hi : i ≤ l.length) (hm : ∀ t ∈ l, t.s.size ≤ 1048576) :
    Calls Tryz.prog 63 #[.slice a l.length cap, .int .i64 (i : Int)] w fun e w' => e = .returned (.int .i64 (place l i)) ∧ Below w.heap.size w w' := by
  by_cases h : i < l.length
  · obtain ⟨b, o, rfl, hlt, hat⟩ := tk.lies_at hc h
    obtain ⟨d0, d1, d2⟩ := hat i h
    rw [show place l i = l[i].a by unfold place; rw [if_pos h, pe.ta_at h]]
    obtain ⟨y, hy⟩ : ∃ y, l[i].a = y := ⟨_, rfl⟩
    rw [hy] at d2 ⊢
    obtain ⟨N, hN⟩ : ∃ N, l.length = N := ⟨_, rfl⟩
    rw [hN] at h hl hi ⊢
    have h1 : (i : Int) < (N : Int) := by omega
    have h0 : (0 : Int) ≤ (i : Int) := by omega
    clear hy d0 d1 hc hm hN h hat hlt
    go_enter Tryz.func63, Tryz.ntmps63
    go_wp2
    go_ret
    exact ⟨rfl, Below.refl _ _⟩
  · by_cases h0 : l.length = 0
    · rw [show place l i = 0 by unfold place; rw [if_neg h, if_pos h0]]
      obtain rfl : i = 0 := by omega
      rw [h0]
      clear hc hl hi hm h h0
      go_enter Tryz.func63, Tryz.ntmps63
      go_wp2
      go_ret
      exact ⟨rfl, Below.refl _ _⟩
    · have hlast : l.length - 1 < l.length := by omega
      obtain ⟨b, o, rfl, hlt, hat⟩ := tk.lies_at hc hlast
      obtain ⟨d0, d1, d2⟩ := hat (l.length - 1) hlast
      have hsz := hm _ (List.getElem_mem hlast)
      rw [show place l i = wrap64 (l[l.length - 1].a + (l[l.length - 1].s.size : Int)) by unfold place; rw [if_neg h, if_neg h0, pe.ta_at hlast, tx_at hlast]]
      obtain ⟨t, ht⟩ : ∃ t, l[l.length - 1] = t := ⟨_, rfl⟩
      rw [ht] at d0 d1 d2 hsz ⊢
      obtain ⟨K, hK⟩ : ∃ K, l.length = K + 1 := ⟨l.length - 1, by omega⟩
      rw [hK] at h hl hi h0 d0 d1 d2 ⊢
      rw [show K + 1 - 1 = K by omega] at d0 d1 d2
      obtain rfl : i = K + 1 := by omega
      have q1 : (((K + 1 : Nat) : Int) == 0) = false := by rw [beq_eq_false_iff_ne]; omega
      have q2 : ¬ ((K + 1 : Nat) : Int) < ((K + 1 : Nat) : Int) := by omega
      have q3 : (((K + 1 : Nat) : Int) - 1) = (K : Int) := by omega
      have q4 : (K : Int) < ((K + 1 : Nat) : Int) := by omega
      have q5 : (0 : Int) ≤ (K : Int) := by omega
      have HBEL := Lib.hid (show Below w.heap.size w (w.alloc (.cells #[.int .i64 t.k, .string t.s, .int .i64 t.a] 35)) from (Below.refl _ _).alloc (Nat.le_refl _) _)
      have e0 : ((K + 1 : Nat) : Int) = (K : Int) + 1 := by omega
      rw [e0] at q1 q2 q3 q4
      clear hc hm hat hlt ht hK h h0 hlast
      go_enter Tryz.func63, Tryz.ntmps63
      rw [e0]
      go_wp2
      go_ret
      exact ⟨by first | rfl | (rw [nd.wrap_eq]; rfl) | simp [nd.wrap_eq], HBEL.out⟩

set_option maxHeartbeats 1600000 in
theorem impl_tf (l : List Tk) (a : Option Addr) (cap : Nat) (w : World) (hc : tk.Lies w.heap.size w a l) (hl : l.length ≤ 1048576) (hm : ∀ t ∈ l, t.s.size ≤ 1048576) (hh : Held w) :
    Calls Tryz.prog 61 #[.slice a l.length cap] w fun e w' => e = .returned (.agg #[.int .i64 (tf l).1, .int .i64 (tf l).2]) ∧ Below w.heap.size w w' := by
  have HC := Lib.hid hc
  obtain ⟨W, hW⟩ : ∃ W, W = w.alloc (.cells #[.int .i64 0, .int .i64 0] 31) := ⟨_, rfl⟩
  have hB : Below w.heap.size w W := by rw [hW]; exact (Below.refl _ _).alloc (Nat.le_refl _) _
  have HR := Lib.hid (show Bk w.heap.size #[.int .i64 0, .int .i64 0] 31 W by rw [hW]; exact Bk.new _ _ _)
  have HB := Lib.hid hB
  have HTO := Lib.hid (tksok.impl_toksOk l a cap W hl (lies_on hc hB) hm (hh.below hB))
  have HNE := Lib.hid (fun W2 (hc2 : tk.Lies W2.heap.size W2 a l) => pb.impl_nestOf l a cap W2 hl hc2)
  have HPL := Lib.hid (fun i W2 (hc2 : tk.Lies W2.heap.size W2 a l) hi => impl_place l a cap i W2 hc2 hl hi hm)
  have hnr := pb.nestOf_range l
  obtain ⟨NV, hNV⟩ : ∃ NV, pb.nestOf l = NV := ⟨_, rfl⟩
  rw [hNV] at HNE hnr
  cases ht : tokensOk l with
  | false =>
    rw [show tf l = (2, 0) by unfold tf; rw [ht]; rfl]
    rw [ht] at HTO
    clear hc hl hm hh hB ht hNV hnr
    go_enter Tryz.func61, Tryz.ntmps61
    go_wp2_with fail
    rw [← hW]
    clear hW
    refine HTO.out.mono ?_
    rintro e w1 ⟨rfl, b1⟩
    have R1 := Lib.hid (HR.out.keep b1)
    have B1 := Lib.hid (HB.out.trans (b1.mono HB.out.size))
    clear b1
    obtain ⟨r0, r1⟩ := R1.out.c2
    have g0 := R1.out.f 0
    have g1 := R1.out.f 1
    go_wp2
    obtain ⟨t0, t1⟩ := (R1.out.put2 (.int .i64 2) (.int .i64 0)).c2
    exact bodyPost_ret (v := .agg #[.int .i64 2, .int .i64 0]) (by simp [results, Tryz.results61, go_sem, t0, t1]) rfl ⟨rfl, below_put2 B1.out (Nat.le_refl _) _ _⟩
  | true =>
    rw [ht] at HTO
    by_cases hn : 0 ≤ NV
    · obtain ⟨K, rfl⟩ : ∃ K : Nat, NV = (K : Int) := ⟨NV.toNat, by omega⟩
      rw [show tf l = (4, place l K) by unfold tf; rw [ht, if_pos rfl, hNV, if_pos hn]; simp]
      have HK := Lib.hid (show K ≤ l.length by omega)
      obtain ⟨PV, hPV⟩ : ∃ PV, place l K = PV := ⟨_, rfl⟩
      have HPV := Lib.hid hPV
      rw [hPV]
      clear hc hl hm hh hB ht hNV hnr hPV
      go_enter Tryz.func61, Tryz.ntmps61
      go_wp2_with fail
      rw [← hW]
      clear hW
      refine HTO.out.mono ?_
      rintro e w1 ⟨rfl, b1⟩
      have B1 := Lib.hid (HB.out.trans (b1.mono HB.out.size))
      have R1 := Lib.hid (HR.out.keep b1)
      clear b1
      go_wp2_with fail
      refine (HNE.out _ (lies_on HC.out B1.out)).mono ?_
      rintro e w2 ⟨rfl, b2⟩
      have B2 := Lib.hid (B1.out.trans (b2.mono B1.out.size))
      have R2 := Lib.hid (R1.out.keep b2)
      clear b2
      go_wp2_with fail
      refine (HPL.out K _ (lies_on HC.out B2.out) HK.out).mono ?_
      rw [HPV.out]
      rintro e w3 ⟨rfl, b3⟩
      have B3 := Lib.hid (B2.out.trans (b3.mono B2.out.size))
      have R3 := Lib.hid (R2.out.keep b3)
      clear b3
      obtain ⟨r0, r1⟩ := R3.out.c2
      have g0 := R3.out.f 0
      have g1 := R3.out.f 1
      go_wp2
      obtain ⟨t0, t1⟩ := (R3.out.put2 (.int .i64 4) (.int .i64 PV)).c2
      exact bodyPost_ret (v := .agg #[.int .i64 4, .int .i64 PV]) (by simp [results, Tryz.results61, go_sem, t0, t1]) rfl ⟨rfl, below_put2 B3.out (Nat.le_refl _) _ _⟩
    · rw [show tf l = (0, 0) by unfold tf; rw [ht, if_pos rfl, hNV, if_neg hn]]
      obtain rfl : NV = -1 := by omega
      clear hc hl hm hh hB ht hNV hnr hn
      go_enter Tryz.func61, Tryz.ntmps61
      go_wp2_with fail
      rw [← hW]
      clear hW
      refine HTO.out.mono ?_
      rintro e w1 ⟨rfl, b1⟩
      have B1 := Lib.hid (HB.out.trans (b1.mono HB.out.size))
      have R1 := Lib.hid (HR.out.keep b1)
      clear b1
      go_wp2_with fail
      refine (HNE.out _ (lies_on HC.out B1.out)).mono ?_
      rintro e w2 ⟨rfl, b2⟩
      have B2 := Lib.hid (B1.out.trans (b2.mono B1.out.size))
      have R2 := Lib.hid (R1.out.keep b2)
      clear b2
      obtain ⟨r0, r1⟩ := R2.out.c2
      have g0 := R2.out.f 0
      have g1 := R2.out.f 1
      go_wp2
      obtain ⟨t0, t1⟩ := (R2.out.put2 (.int .i64 0) (.int .i64 0)).c2
      exact bodyPost_ret (v := .agg #[.int .i64 0, .int .i64 0]) (by simp [results, Tryz.results61, go_sem, t0, t1]) rfl ⟨rfl, below_put2 B2.out (Nat.le_refl _) _ _⟩

set_option maxHeartbeats 1600000 in
theorem impl_sf (t : List Nd) (a : Option Addr) (cap : Nat) (w : World) (hc : nd.Lies w.heap.size w a t) (hl : t.length ≤ 1048576) (hk : ∀ n ∈ t, n.kids.length ≤ 1048576) :
    Calls Tryz.prog 64 #[.slice a t.length cap] w fun e w' => e = .returned (.agg #[.int .i64 (sf t).1, .int .i64 (sf t).2]) ∧ Below w.heap.size w w' := by
  obtain ⟨W, hW⟩ : ∃ W, W = w.alloc (.cells #[.int .i64 0, .int .i64 0] 31) := ⟨_, rfl⟩
  have hB : Below w.heap.size w W := by rw [hW]; exact (Below.refl _ _).alloc (Nat.le_refl _) _
  have HR := Lib.hid (show Bk w.heap.size #[.int .i64 0, .int .i64 0] 31 W by rw [hW]; exact Bk.new _ _ _)
  have HB := Lib.hid hB
  have HD := Lib.hid (nd.impl_depth t a cap W hl hk (hc.on hB (Nat.le_refl _)))
  obtain ⟨D, hD⟩ : ∃ D, nd.depthF t = D := ⟨_, rfl⟩
  rw [hD] at HD
  have hsf : sf t = if 400 < t.length then (1, 0) else if 40 < D then (4, 0) else (0, 0) := by unfold sf; rw [hD]
  rw [hsf]
  obtain ⟨N, hN⟩ : ∃ N, t.length = N := ⟨_, rfl⟩
  rw [hN] at HD hl ⊢
  clear hc hk hB hD hsf hN
  by_cases h1 : 400 < N
  · have q1 : (400 : Int) < (N : Int) := by omega
    rw [if_pos h1]
    clear h1
    have hb1 := Bk.new w #[.int .i64 1, .int .i64 0] 31
    have HB1 := Lib.hid (show Below w.heap.size w (w.alloc (.cells #[.int .i64 1, .int .i64 0] 31)) from (Below.refl _ _).alloc (Nat.le_refl _) _)
    obtain ⟨t0, t1⟩ := hb1.c2
    clear hW
    go_enter Tryz.func64, Tryz.ntmps64
    go_wp2
    exact bodyPost_ret (v := .agg #[.int .i64 1, .int .i64 0]) (by simp [results, Tryz.results64, go_sem, t0, t1]) rfl ⟨rfl, HB1.out⟩
  · have q1 : ¬ (400 : Int) < (N : Int) := by omega
    rw [if_neg h1]
    by_cases h2 : 40 < D
    all_goals
      first
      | (have q2 : (40 : Int) < (D : Int) := by omega
         rw [if_pos h2])
      | (have q2 : ¬ (40 : Int) < (D : Int) := by omega
         rw [if_neg h2])
      clear h1 h2
      go_enter Tryz.func64, Tryz.ntmps64
      go_wp2_with fail
      rw [← hW]
      clear hW
      refine HD.out.mono ?_
      rintro e w1 ⟨rfl, b1⟩
      have B1 := Lib.hid (HB.out.trans (b1.mono HB.out.size))
      have R1 := Lib.hid (HR.out.keep b1)
      clear b1
      obtain ⟨r0, r1⟩ := R1.out.c2
      have g0 := R1.out.f 0
      have g1 := R1.out.f 1
      go_wp2
      first
      | (obtain ⟨t0, t1⟩ := (R1.out.put2 (.int .i64 4) (.int .i64 0)).c2
         exact bodyPost_ret (v := .agg #[.int .i64 4, .int .i64 0]) (by simp [results, Tryz.results64, go_sem, t0, t1]) rfl ⟨rfl, below_put2 B1.out (Nat.le_refl _) _ _⟩)
      | (obtain ⟨t0, t1⟩ := (R1.out.put2 (.int .i64 0) (.int .i64 0)).c2
         exact bodyPost_ret (v := .agg #[.int .i64 0, .int .i64 0]) (by simp [results, Tryz.results64, go_sem, t0, t1]) rfl ⟨rfl, below_put2 B1.out (Nat.le_refl _) _ _⟩)
end Go.Proofs.YtiilpnoaocfjgaaGreatDoor.pr

namespace Go.Proofs.YtiilpnoaocfjgaaGreatDoor.pr
open Go.ChangeShapes Go.WideShapes Go.ChangeAt Go.RowKit
open tk (Tk)
open nd (Nd PT KidV IBlk OwnI shN makeT)
open ps (Ps B5 posOk kidI top)
open pe
open spell (Held)
open tksok (tokensOk)
set_option linter.unusedVariables false
set_option linter.unusedSimpArgs false
set_option maxRecDepth 20000


theorem PT.up {B B' : Nat} {v : Value} {z : List (Nd × Value)} {r : Nat → Nat} {w : World} (h : PT B v z r w) (hB : B' ≤ B) : PT B' v z r w :=
  ⟨⟨h.own.1, h.own.2.elim .inl (fun ⟨g, cap, cur, hv, hg, r⟩ => .inr ⟨g, cap, cur, hv, Nat.le_trans hB hg, r⟩)⟩, fun i hi => (h.kid i hi).elim .inl (fun ⟨cap, h1, h2, h3, h4⟩ => .inr ⟨cap, h1, h2, Nat.le_trans hB h3, h4⟩), h.off, h.asc, h.lt⟩
/-- What ParseExpr answers. -/
def POut (O : pe.Out) (w : World) (e : Ending) (w' : World) : Prop :=
  ∃ v z r, e = .returned (.tuple #[v, .int .i64 (O.n : Int), .agg #[.int .i64 O.k, .int .i64 O.a]]) ∧ z.map (·.1) = O.t ∧ PT w.heap.size v z r w' ∧ Below w.heap.size w w'
theorem pout_bad {k a : Int} {w w' : World} {e : Ending} (he : e = .returned (.tuple #[.slice none 0 0, .int .i64 0, .agg #[.int .i64 k, .int .i64 a]])) (hb : Below w.heap.size w w') : POut ⟨[], 0, k, a⟩ w e w' :=
  ⟨.slice none 0 0, [], fun i => i, he, rfl, PT.nil _ _, hb⟩
set_option maxHeartbeats 6400000 in
theorem impl_parse (l : List Tk) (a : Option Addr) (cap : Nat) (p : Ps) (w : World) (hc : tk.Lies w.heap.size w a l) (hl : l.length ≤ 1048576) (hm : ∀ t ∈ l, t.s.size ≤ 1048576) (hh : Held w) :
    Calls Tryz.prog 16 #[.slice a l.length cap, .agg #[.int .i64 p.l, .bool p.d, .bool p.i, .bool p.g, .bool p.s]] w (POut (parse l p) w) := by
  obtain ⟨W, hW⟩ : ∃ W, W = (w.alloc (.cells #[.int .i64 p.l, .bool p.d, .bool p.i, .bool p.g, .bool p.s] 26)).alloc (.cells #[.int .i64 0, .int .i64 0] 31) := ⟨_, rfl⟩
  have hB : Below w.heap.size w W := by rw [hW]; exact ((Below.refl _ _).alloc (Nat.le_refl _) _).alloc (by simp) _
  have P0 := Lib.hid (show Bk w.heap.size #[.int .i64 p.l, .bool p.d, .bool p.i, .bool p.g, .bool p.s] 26 W by rw [hW]; exact (Bk.new _ _ _).alloc _)
  have R0 := Lib.hid (show Bk (w.heap.size + 1) #[.int .i64 0, .int .i64 0] 31 W by
    rw [hW]
    have := Bk.new (w.alloc (.cells #[.int .i64 p.l, .bool p.d, .bool p.i, .bool p.g, .bool p.s] 26)) #[.int .i64 0, .int .i64 0] 31
    simpa using this)
  have B0 := Lib.hid hB
  have HC := Lib.hid hc
  have HL := Lib.hid hl
  have HM := Lib.hid hm
  have HH := Lib.hid hh
  obtain ⟨p0, p1, p2, p3, p4⟩ := P0.out.c5
  rw [hW] at p0 p1 p2 p3 p4
  have HPO := Lib.hid (fun W2 => _root_.Go.Proofs.YtiilpnoaocfjgaaGreatDoor.ps.impl_ok p.l p.d p.i p.g p.s W2)
  clear hB hc hm hh
  cases hp : posOk p.l p.d with
  | false =>
    rw [show parse l p = ⟨[], 0, 3, 0⟩ from by unfold parse; rw [hp]; rfl]
    rw [hp] at HPO
    clear hp
    go_enter Tryz.func16, Tryz.ntmps16
    go_wp2_with fail
    rw [← hW]
    clear hW p0 p1 p2 p3 p4
    refine (HPO.out _).mono ?_
    rintro e w1 ⟨rfl, b1⟩
    have R1 := Lib.hid (R0.out.keep b1)
    have B1 := Lib.hid (B0.out.trans (b1.mono B0.out.size))
    clear b1
    obtain ⟨r0, r1⟩ := R1.out.c2
    have g0 := R1.out.f 0
    have g1 := R1.out.f 1
    go_wp2
    obtain ⟨t0, t1⟩ := (R1.out.put2 (.int .i64 3) (.int .i64 0)).c2
    exact bodyPost_ret (v := .tuple #[.slice none 0 0, .int .i64 0, .agg #[.int .i64 3, .int .i64 0]]) (by simp [results, Tryz.results16, go_sem, t0, t1]) rfl (pout_bad rfl (below_put2 B1.out (Nat.le_succ _) _ _))
  | true =>
    rw [hp] at HPO
    have HTF := Lib.hid (fun W2 hc2 hh2 => impl_tf l a cap W2 hc2 hl HM.out hh2)
    obtain ⟨FK, hFK⟩ : ∃ FK, (tf l).1 = FK := ⟨_, rfl⟩
    obtain ⟨FA, hFA⟩ : ∃ FA, (tf l).2 = FA := ⟨_, rfl⟩
    rw [hFK, hFA] at HTF
    by_cases hf : FK = 0
    case neg =>
      rw [show parse l p = ⟨[], 0, FK, FA⟩ from by unfold parse; rw [hp, if_pos rfl, hFK, if_neg hf, hFA]]
      obtain ⟨q1, q2⟩ := ne_facts hf
      clear hp hFK hFA hf
      go_enter Tryz.func16, Tryz.ntmps16
      go_wp2_with fail
      rw [← hW]
      clear hW p0 p1 p2 p3 p4
      refine (HPO.out _).mono ?_
      rintro e w1 ⟨rfl, b1⟩
      have R1 := Lib.hid (R0.out.keep b1)
      have B1 := Lib.hid (B0.out.trans (b1.mono B0.out.size))
      clear b1
      go_wp2_with fail
      refine (HTF.out _ (lies_on HC.out B1.out) (HH.out.below B1.out)).mono ?_
      rintro e w2 ⟨rfl, b2⟩
      have R2 := Lib.hid (R1.out.keep b2)
      have B2 := Lib.hid (B1.out.trans (b2.mono B1.out.size))
      clear b2
      obtain ⟨W3, hW3⟩ : ∃ W3, W3 = w2.alloc (.cells #[.int .i64 FK, .int .i64 FA] 31) := ⟨_, rfl⟩
      have R3 := Lib.hid (show Bk (w.heap.size + 1) #[.int .i64 0, .int .i64 0] 31 W3 by rw [hW3]; exact R2.out.alloc _)
      have Q3 := Lib.hid (show Bk w2.heap.size #[.int .i64 FK, .int .i64 FA] 31 W3 by rw [hW3]; exact Bk.new _ _ _)
      have B3 := Lib.hid (show Below w.heap.size w W3 by rw [hW3]; exact B2.out.alloc B2.out.size _)
      obtain ⟨r0, r1⟩ := R3.out.c2
      have g0 := R3.out.f 0
      have g1 := R3.out.f 1
      obtain ⟨s0, s1⟩ := Q3.out.c2
      rw [hW3] at r0 r1 g0 g1 s0 s1
      go_wp2
      rw [← hW3] at r0 r1 g0 g1 s0 s1 ⊢
      clear hW3
      go_region
      go_wp2
      obtain ⟨t0, t1⟩ := (R3.out.put2 (.int .i64 FK) (.int .i64 FA)).c2
      have hdr : ∀ j, (((W3.setCell ⟨w.heap.size + 1, 0, none⟩ (.int .i64 FK)).setCell ⟨w.heap.size + 1, 1, none⟩ (.int .i64 FA)).drew).cell? j = ((W3.setCell ⟨w.heap.size + 1, 0, none⟩ (.int .i64 FK)).setCell ⟨w.heap.size + 1, 1, none⟩ (.int .i64 FA)).cell? j := fun _ => rfl
      exact bodyPost_ret (v := .tuple #[.slice none 0 0, .int .i64 0, .agg #[.int .i64 FK, .int .i64 FA]]) (by simp [results, Tryz.results16, go_sem, t0, t1]) rfl (pout_bad rfl (below_put2 (B3.out.drew) (Nat.le_succ _) _ _))
    case pos =>
      subst hf
      obtain ⟨hto, hl3, hne⟩ := toks_len hFK
      rw [show parse l p = finish l (ex l (l.length + 1) p 0) from by unfold parse; rw [hp, if_pos rfl, hFK, if_pos rfl]]
      have HOKX := Lib.hid (ex_ok (l := l) (M := 1048576) HM.out (by omega) (l.length + 1) p 0 (Nat.zero_le _))
      have HEX := Lib.hid (fun (w0 : World) (hc0 : tk.Lies w0.heap.size w0 a l) => expr_all (w0 := w0) (a := a) (cap := cap) HM.out (by omega) hc0 (l.length + 1) 0 (by omega))
      have HPL := Lib.hid (fun i W2 (hc2 : tk.Lies W2.heap.size W2 a l) hi => impl_place l a cap i W2 hc2 hl hi HM.out)
      have HL3 := Lib.hid hl3
      obtain ⟨R, hR⟩ : ∃ R, ex l (l.length + 1) p 0 = R := ⟨_, rfl⟩
      rw [hR] at HOKX ⊢
      have HR := Lib.hid hR
      have hfl := fld_l
      obtain ⟨n, hn⟩ : ∃ n, l.length = n := ⟨_, rfl⟩
      have HN := Lib.hid hn
      rw [hn]
      rw [hn] at HTF HPL
      clear hp hFK hFA hto hl3 hne hR
      cases R with
      | bad j =>
        have hj := HOKX.out.2
        rw [show finish l (.bad j) = ⟨[], 0, 3, place l j⟩ from rfl]
        obtain ⟨PV, hPV⟩ : ∃ PV, place l j = PV := ⟨_, rfl⟩
        have HPV := Lib.hid hPV
        rw [hn] at hj
        have HJ := Lib.hid hj
        rw [hPV]
        clear hPV hj hn
        go_enter Tryz.func16, Tryz.ntmps16
        go_wp2_with fail
        rw [← hW]
        clear hW p0 p1 p2 p3 p4
        refine (HPO.out _).mono ?_
        rintro e w1 ⟨rfl, b1⟩
        have R1 := Lib.hid (R0.out.keep b1)
        have P1 := Lib.hid (P0.out.keep b1)
        have B1 := Lib.hid (B0.out.trans (b1.mono B0.out.size))
        clear b1
        go_wp2_with fail
        refine (HTF.out _ (lies_on HC.out B1.out) (HH.out.below B1.out)).mono ?_
        rintro e w2 ⟨rfl, b2⟩
        obtain ⟨w0, hw0⟩ : ∃ w0, w0 = w2.alloc (.cells #[.int .i64 0, .int .i64 FA] 31) := ⟨_, rfl⟩
        have hb20 : Below w2.heap.size w2 w0 := by rw [hw0]; exact (Below.refl _ _).alloc (Nat.le_refl _) _
        have R2 := Lib.hid ((R1.out.keep b2).keep hb20)
        have P2 := Lib.hid ((P1.out.keep b2).keep hb20)
        have B2 := Lib.hid ((B1.out.trans (b2.mono B1.out.size)).trans (hb20.mono (Nat.le_trans B1.out.size b2.size)))
        have HB2 := Lib.hid (show w.heap.size + 1 < w0.heap.size from R2.out.lt)
        have QF := Lib.hid (show Bk w2.heap.size #[.int .i64 0, .int .i64 FA] 31 w0 by rw [hw0]; exact Bk.new _ _ _)
        have HSZ0 := Lib.hid (show w0.heap.size = w2.heap.size + 1 by rw [hw0]; simp)
        clear b2 hb20
        obtain ⟨W3, hW3⟩ : ∃ W3, W3 = w0.alloc (.cells #[.slice a n cap, .int .i64 0, .slice none 0 0] 85) := ⟨_, rfl⟩
        have hb3 : Below w0.heap.size w0 W3 := by rw [hW3]; exact (Below.refl _ _).alloc (Nat.le_refl _) _
        have S3 := Lib.hid (show St w0 a n cap 0 (.slice none 0 0) [] (fun i => i) W3 from ⟨hb3, by rw [hW3]; exact Bk.new _ _ _, PT.nil _ _, fun j hj => by simp at hj⟩)
        have R3 := Lib.hid (R2.out.keep hb3)
        have P3 := Lib.hid (P2.out.keep hb3)
        have HE3 := Lib.hid (HEX.out w0 (lies_on HC.out B2.out) p 0 (.slice none 0 0) [] (fun i => i) W3 (Nat.le_refl _) (Nat.zero_le _) (by have := HL3.out; simp; omega) (by rw [HN.out]; exact S3.out))
        rw [HR.out, HN.out] at HE3
        obtain ⟨p0, p1, p2, p3, p4⟩ := P3.out.c5
        obtain ⟨s0, s1⟩ := QF.out.c2
        rw [hW3, hw0] at p0 p1 p2 p3 p4
        rw [hw0] at s0 s1
        clear hb3
        go_wp2_with fail
        rw [← hw0, ← HSZ0.out, ← hW3]
        clear hW3 hw0 p0 p1 p2 p3 p4 s0 s1
        refine HE3.out.mono ?_
        rintro e w4 ⟨rfl, v4, z4, r4, s4, e4, m4⟩
        have hq : Res w0 a n cap [] (X0 w0.heap.size) (.slice none 0 0) [] (fun i => i) W3 (.bad j) (.returned (.agg #[.int .i64 0, .bool false])) w4 := ⟨rfl, v4, z4, r4, s4, e4, m4⟩
        have R4 := Lib.hid (hq.bk R3.out (by unfold X0; have := HB2.out; omega) (by simp [Value.ownBlock]))
        have B4 := Lib.hid (show Below w.heap.size w w4 from B2.out.trans (s4.bel.mono B2.out.size))
        have L4 := Lib.hid (lies_on HC.out B4.out)
        obtain ⟨c0, c1, c2⟩ := s4.c
        simp only [lvR, tgR, atR] at c1 ⊢
        clear hq s4 e4 m4
        go_wp2_with fail
        refine (HPL.out j _ L4.out HJ.out).mono ?_
        rw [HPV.out]
        rintro e w5 ⟨rfl, b5⟩
        have R5 := Lib.hid (R4.out.keep b5)
        have B5 := Lib.hid (B4.out.trans (b5.mono B4.out.size))
        clear b5 c0 c1 c2
        obtain ⟨r0, r1⟩ := R5.out.c2
        have g0 := R5.out.f 0
        have g1 := R5.out.f 1
        go_wp2
        obtain ⟨t0, t1⟩ := (R5.out.put2 (.int .i64 3) (.int .i64 PV)).c2
        exact bodyPost_ret (v := .tuple #[.slice none 0 0, .int .i64 0, .agg #[.int .i64 3, .int .i64 PV]]) (by simp [results, Tryz.results16, go_sem, t0, t1]) rfl (pout_bad rfl (below_put2 B5.out (Nat.le_succ _) _ _))
      | ok lv tg t j =>
        obtain ⟨o1, o2, o3, o4, o5, o6⟩ := HOKX.out
        have q1 : (lv == 0) = false := by rw [beq_eq_false_iff_ne]; omega
        have q3 : ¬ lv = 0 := by omega
        obtain ⟨SK, hSK⟩ : ∃ SK, (sf t).1 = SK := ⟨_, rfl⟩
        obtain ⟨SA, hSA⟩ : ∃ SA, (sf t).2 = SA := ⟨_, rfl⟩
        have HFIN := Lib.hid (show finish l (.ok lv tg t j) = if SK = 0 then ⟨t, j, 0, 0⟩ else ⟨[], 0, SK, SA⟩ by show (if (sf t).1 = 0 then (⟨t, j, 0, 0⟩ : pe.Out) else ⟨[], 0, (sf t).1, (sf t).2⟩) = _; rw [hSK, hSA])
        have HSF := Lib.hid (fun av cv W2 (hc2 : nd.Lies W2.heap.size W2 av t) => impl_sf t av cv W2 hc2 (by have := HL3.out; omega) (fun n hn => by have := (o6 n hn).1; omega))
        rw [hSK, hSA] at HSF
        have HT0 := Lib.hid (sh_zero o6)
        rw [HFIN.out]
        clear o1 o2 o3 o4 o5 o6 hSK hSA hn HFIN
        by_cases hs : SK = 0
        · subst hs
          rw [if_pos rfl]
          go_enter Tryz.func16, Tryz.ntmps16
          go_wp2_with fail
          rw [← hW]
          clear hW p0 p1 p2 p3 p4
          refine (HPO.out _).mono ?_
          rintro e w1 ⟨rfl, b1⟩
          have R1 := Lib.hid (R0.out.keep b1)
          have P1 := Lib.hid (P0.out.keep b1)
          have B1 := Lib.hid (B0.out.trans (b1.mono B0.out.size))
          clear b1
          go_wp2_with fail
          refine (HTF.out _ (lies_on HC.out B1.out) (HH.out.below B1.out)).mono ?_
          rintro e w2 ⟨rfl, b2⟩
          obtain ⟨w0, hw0⟩ : ∃ w0, w0 = w2.alloc (.cells #[.int .i64 0, .int .i64 FA] 31) := ⟨_, rfl⟩
          have hb20 : Below w2.heap.size w2 w0 := by rw [hw0]; exact (Below.refl _ _).alloc (Nat.le_refl _) _
          have R2 := Lib.hid ((R1.out.keep b2).keep hb20)
          have P2 := Lib.hid ((P1.out.keep b2).keep hb20)
          have B2 := Lib.hid ((B1.out.trans (b2.mono B1.out.size)).trans (hb20.mono (Nat.le_trans B1.out.size b2.size)))
          have HB2 := Lib.hid (show w.heap.size + 1 < w0.heap.size from R2.out.lt)
          have QF := Lib.hid (show Bk w2.heap.size #[.int .i64 0, .int .i64 FA] 31 w0 by rw [hw0]; exact Bk.new _ _ _)
          have HSZ0 := Lib.hid (show w0.heap.size = w2.heap.size + 1 by rw [hw0]; simp)
          clear b2 hb20
          obtain ⟨W3, hW3⟩ : ∃ W3, W3 = w0.alloc (.cells #[.slice a n cap, .int .i64 0, .slice none 0 0] 85) := ⟨_, rfl⟩
          have hb3 : Below w0.heap.size w0 W3 := by rw [hW3]; exact (Below.refl _ _).alloc (Nat.le_refl _) _
          have S3 := Lib.hid (show St w0 a n cap 0 (.slice none 0 0) [] (fun i => i) W3 from ⟨hb3, by rw [hW3]; exact Bk.new _ _ _, PT.nil _ _, fun j hj => by simp at hj⟩)
          have R3 := Lib.hid (R2.out.keep hb3)
          have P3 := Lib.hid (P2.out.keep hb3)
          have HE3 := Lib.hid (HEX.out w0 (lies_on HC.out B2.out) p 0 (.slice none 0 0) [] (fun i => i) W3 (Nat.le_refl _) (Nat.zero_le _) (by have := HL3.out; simp; omega) (by rw [HN.out]; exact S3.out))
          rw [HR.out, HN.out] at HE3
          obtain ⟨p0, p1, p2, p3, p4⟩ := P3.out.c5
          obtain ⟨s0, s1⟩ := QF.out.c2
          rw [hW3, hw0] at p0 p1 p2 p3 p4
          rw [hw0] at s0 s1
          clear hb3
          go_wp2_with fail
          rw [← hw0, ← HSZ0.out, ← hW3]
          clear hW3 hw0 p0 p1 p2 p3 p4 s0 s1
          refine HE3.out.mono ?_
          rintro e w4 ⟨rfl, v4, z4, r4, s4, e4, m4⟩
          have hz4 := m4 _ _ _ _ rfl
          simp only [List.nil_append, List.length_nil] at hz4
          have hz4 : z4.map (·.1) = t := hz4.trans HT0.out
          have hq : Res w0 a n cap [] (X0 w0.heap.size) (.slice none 0 0) [] (fun i => i) W3 (.ok lv tg t j) (.returned (.agg #[.int .i64 lv, .bool tg])) w4 := ⟨rfl, v4, z4, r4, s4, e4, m4⟩
          have R4 := Lib.hid (hq.bk R3.out (by unfold X0; have := HB2.out; omega) (by simp [Value.ownBlock]))
          have B4 := Lib.hid (show Below w.heap.size w w4 from B2.out.trans (s4.bel.mono B2.out.size))
          simp only [atR] at s4
          simp only [lvR, tgR]
          have S4 := Lib.hid s4
          have Z4 := Lib.hid hz4
          obtain ⟨av, cv, hv⟩ := s4.own.form
          have hzl : z4.length = t.length := by rw [← hz4]; simp
          rw [hzl] at hv
          subst hv
          have hnl : nd.Lies w4.heap.size w4 av t := by rw [← hz4]; exact s4.own.lies
          have NL4 := Lib.hid hnl
          obtain ⟨c0, c1, c2⟩ := s4.c
          have hG : ∀ x : Nat, w0.heap.size + 1 ≤ x → x ≠ w.heap.size + 1 := fun x hx => by have := HB2.out; omega
          have HG := Lib.hid hG
          have HPT := Lib.hid s4.own
          have HGE := Lib.hid s4.ge
          clear hq s4 e4 m4 hz4 hzl hnl hG
          go_wp2_with fail
          refine (HSF.out av cv _ NL4.out).mono ?_
          rintro e w5 ⟨rfl, b5⟩
          have S5 := Lib.hid (S4.out.keep b5)
          have R5 := Lib.hid (R4.out.keep b5)
          have B5 := Lib.hid (B4.out.trans (b5.mono B4.out.size))
          clear b5 c0 c1 c2
          obtain ⟨W6, hW6⟩ : ∃ W6, W6 = w5.alloc (.cells #[.int .i64 0, .int .i64 SA] 31) := ⟨_, rfl⟩
          have R6 := Lib.hid (show Bk (w.heap.size + 1) #[.int .i64 0, .int .i64 0] 31 W6 by rw [hW6]; exact R5.out.alloc _)
          have Q6 := Lib.hid (show Bk w5.heap.size #[.int .i64 0, .int .i64 SA] 31 W6 by rw [hW6]; exact Bk.new _ _ _)
          have B6 := Lib.hid (show Below w.heap.size w W6 by rw [hW6]; exact B5.out.alloc B5.out.size _)
          have S6 := Lib.hid (show St w0 a n cap j (.slice av t.length cv) z4 r4 W6 by rw [hW6]; exact S5.out.alloc _)
          obtain ⟨r0, r1⟩ := R6.out.c2
          have g0 := R6.out.f 0
          have g1 := R6.out.f 1
          obtain ⟨s0, s1⟩ := Q6.out.c2
          obtain ⟨c0, c1, c2⟩ := S6.out.c
          rw [hW6] at r0 r1 g0 g1 s0 s1 c0 c1 c2
          go_wp2
          rw [← hW6] at r0 r1 g0 g1 s0 s1 c0 c1 c2 ⊢
          clear hW6
          go_region
          go_wp2
          obtain ⟨t0, t1⟩ := (R6.out.put2 (.int .i64 0) (.int .i64 0)).c2
          have hpt : PT w.heap.size (.slice av t.length cv) z4 r4 ((W6.setCell ⟨w.heap.size + 1, 0, none⟩ (.int .i64 0)).setCell ⟨w.heap.size + 1, 1, none⟩ (.int .i64 0)) := by
            have hg := HG.out
            have h1 : (Value.slice av t.length cv).ownBlock ≠ some (w.heap.size + 1) := fun e => hg _ (World.ownsRow.lt S6.out.own.own _ e).1 rfl
            have h2 : ∀ k, k < z4.length → r4 k ≠ w.heap.size + 1 := fun k hk => hg _ (HGE.out k hk)
            exact PT.up ((S6.out.own.kept (nd.grown_one W6 _ 0 _) h1 h2).kept (nd.grown_one _ _ 1 _) h1 h2) (by have := HB2.out; omega)
          exact bodyPost_ret (v := .tuple #[.slice av t.length cv, .int .i64 (j : Int), .agg #[.int .i64 0, .int .i64 0]]) (by simp [results, Tryz.results16, go_sem, t0, t1]) rfl ⟨.slice av t.length cv, z4, r4, rfl, Z4.out, hpt.keep (below_drewN (Below.refl _ _) 1) (Nat.le_refl _), below_put2 (B6.out.drew) (Nat.le_succ _) _ _⟩
        · rw [if_neg hs]
          obtain ⟨a1, a2⟩ := ne_facts hs
          clear hs
          go_enter Tryz.func16, Tryz.ntmps16
          go_wp2_with fail
          rw [← hW]
          clear hW p0 p1 p2 p3 p4
          refine (HPO.out _).mono ?_
          rintro e w1 ⟨rfl, b1⟩
          have R1 := Lib.hid (R0.out.keep b1)
          have P1 := Lib.hid (P0.out.keep b1)
          have B1 := Lib.hid (B0.out.trans (b1.mono B0.out.size))
          clear b1
          go_wp2_with fail
          refine (HTF.out _ (lies_on HC.out B1.out) (HH.out.below B1.out)).mono ?_
          rintro e w2 ⟨rfl, b2⟩
          obtain ⟨w0, hw0⟩ : ∃ w0, w0 = w2.alloc (.cells #[.int .i64 0, .int .i64 FA] 31) := ⟨_, rfl⟩
          have hb20 : Below w2.heap.size w2 w0 := by rw [hw0]; exact (Below.refl _ _).alloc (Nat.le_refl _) _
          have R2 := Lib.hid ((R1.out.keep b2).keep hb20)
          have P2 := Lib.hid ((P1.out.keep b2).keep hb20)
          have B2 := Lib.hid ((B1.out.trans (b2.mono B1.out.size)).trans (hb20.mono (Nat.le_trans B1.out.size b2.size)))
          have HB2 := Lib.hid (show w.heap.size + 1 < w0.heap.size from R2.out.lt)
          have QF := Lib.hid (show Bk w2.heap.size #[.int .i64 0, .int .i64 FA] 31 w0 by rw [hw0]; exact Bk.new _ _ _)
          have HSZ0 := Lib.hid (show w0.heap.size = w2.heap.size + 1 by rw [hw0]; simp)
          clear b2 hb20
          obtain ⟨W3, hW3⟩ : ∃ W3, W3 = w0.alloc (.cells #[.slice a n cap, .int .i64 0, .slice none 0 0] 85) := ⟨_, rfl⟩
          have hb3 : Below w0.heap.size w0 W3 := by rw [hW3]; exact (Below.refl _ _).alloc (Nat.le_refl _) _
          have S3 := Lib.hid (show St w0 a n cap 0 (.slice none 0 0) [] (fun i => i) W3 from ⟨hb3, by rw [hW3]; exact Bk.new _ _ _, PT.nil _ _, fun j hj => by simp at hj⟩)
          have R3 := Lib.hid (R2.out.keep hb3)
          have P3 := Lib.hid (P2.out.keep hb3)
          have HE3 := Lib.hid (HEX.out w0 (lies_on HC.out B2.out) p 0 (.slice none 0 0) [] (fun i => i) W3 (Nat.le_refl _) (Nat.zero_le _) (by have := HL3.out; simp; omega) (by rw [HN.out]; exact S3.out))
          rw [HR.out, HN.out] at HE3
          obtain ⟨p0, p1, p2, p3, p4⟩ := P3.out.c5
          obtain ⟨s0, s1⟩ := QF.out.c2
          rw [hW3, hw0] at p0 p1 p2 p3 p4
          rw [hw0] at s0 s1
          clear hb3
          go_wp2_with fail
          rw [← hw0, ← HSZ0.out, ← hW3]
          clear hW3 hw0 p0 p1 p2 p3 p4 s0 s1
          refine HE3.out.mono ?_
          rintro e w4 ⟨rfl, v4, z4, r4, s4, e4, m4⟩
          have hz4 := m4 _ _ _ _ rfl
          simp only [List.nil_append, List.length_nil] at hz4
          have hz4 : z4.map (·.1) = t := hz4.trans HT0.out
          have hq : Res w0 a n cap [] (X0 w0.heap.size) (.slice none 0 0) [] (fun i => i) W3 (.ok lv tg t j) (.returned (.agg #[.int .i64 lv, .bool tg])) w4 := ⟨rfl, v4, z4, r4, s4, e4, m4⟩
          have R4 := Lib.hid (hq.bk R3.out (by unfold X0; have := HB2.out; omega) (by simp [Value.ownBlock]))
          have B4 := Lib.hid (show Below w.heap.size w w4 from B2.out.trans (s4.bel.mono B2.out.size))
          simp only [atR] at s4
          simp only [lvR, tgR]
          have S4 := Lib.hid s4
          have Z4 := Lib.hid hz4
          obtain ⟨av, cv, hv⟩ := s4.own.form
          have hzl : z4.length = t.length := by rw [← hz4]; simp
          rw [hzl] at hv
          subst hv
          have hnl : nd.Lies w4.heap.size w4 av t := by rw [← hz4]; exact s4.own.lies
          have NL4 := Lib.hid hnl
          obtain ⟨c0, c1, c2⟩ := s4.c
          have hG : ∀ x : Nat, w0.heap.size + 1 ≤ x → x ≠ w.heap.size + 1 := fun x hx => by have := HB2.out; omega
          have HG := Lib.hid hG
          have HPT := Lib.hid s4.own
          have HGE := Lib.hid s4.ge
          clear hq s4 e4 m4 hz4 hzl hnl hG
          go_wp2_with fail
          refine (HSF.out av cv _ NL4.out).mono ?_
          rintro e w5 ⟨rfl, b5⟩
          have S5 := Lib.hid (S4.out.keep b5)
          have R5 := Lib.hid (R4.out.keep b5)
          have B5 := Lib.hid (B4.out.trans (b5.mono B4.out.size))
          clear b5 c0 c1 c2
          obtain ⟨W6, hW6⟩ : ∃ W6, W6 = w5.alloc (.cells #[.int .i64 SK, .int .i64 SA] 31) := ⟨_, rfl⟩
          have R6 := Lib.hid (show Bk (w.heap.size + 1) #[.int .i64 0, .int .i64 0] 31 W6 by rw [hW6]; exact R5.out.alloc _)
          have Q6 := Lib.hid (show Bk w5.heap.size #[.int .i64 SK, .int .i64 SA] 31 W6 by rw [hW6]; exact Bk.new _ _ _)
          have B6 := Lib.hid (show Below w.heap.size w W6 by rw [hW6]; exact B5.out.alloc B5.out.size _)
          have S6 := Lib.hid (show St w0 a n cap j (.slice av t.length cv) z4 r4 W6 by rw [hW6]; exact S5.out.alloc _)
          obtain ⟨r0, r1⟩ := R6.out.c2
          have g0 := R6.out.f 0
          have g1 := R6.out.f 1
          obtain ⟨s0, s1⟩ := Q6.out.c2
          obtain ⟨c0, c1, c2⟩ := S6.out.c
          rw [hW6] at r0 r1 g0 g1 s0 s1 c0 c1 c2
          go_wp2
          rw [← hW6] at r0 r1 g0 g1 s0 s1 c0 c1 c2 ⊢
          clear hW6
          go_region
          go_wp2
          obtain ⟨t0, t1⟩ := (R6.out.put2 (.int .i64 SK) (.int .i64 SA)).c2
          exact bodyPost_ret (v := .tuple #[.slice none 0 0, .int .i64 0, .agg #[.int .i64 SK, .int .i64 SA]]) (by simp [results, Tryz.results16, go_sem, t0, t1]) rfl (pout_bad rfl (below_put2 (B6.out.drew) (Nat.le_succ _) _ _))
end Go.Proofs.YtiilpnoaocfjgaaGreatDoor.pr

namespace Go.Proofs.YtiilpnoaocfjgaaGreatDoor.pe
open Go.RowKit
open nd (Nd)
open tk (Tk)
open ps (Ps posOk top)
open lex (lexF lexZ gapZ kindAt)
set_option linter.unusedVariables false
set_option linter.unusedSimpArgs false

theorem lexZ_sz (s : ByteArray) : ∀ n i prev l, s.size - i ≤ n → lexZ s i prev = .inr l → (∀ t ∈ l, t.s.size ≤ s.size) ∧ l.length ≤ n := by
  intro n
  induction n with
  | zero =>
    intro i prev l h hl
    rw [lexZ] at hl
    have hg := (lex.gap_bd s i).1
    rw [dif_neg (by omega)] at hl
    injection hl with hl
    subst hl
    exact ⟨fun t ht => by simp at ht, Nat.le_refl _⟩
  | succ n ih =>
    intro i prev l h hl
    rw [lexZ] at hl
    have hg := (lex.gap_bd s i).1
    by_cases h1 : gapZ s i < s.size
    · rw [dif_pos h1] at hl
      by_cases h2 : (gapZ s i : Int) < (kindAt s (gapZ s i) prev).2
      · rw [dif_pos h2] at hl
        cases hr : lexZ s (kindAt s (gapZ s i) prev).2.toNat (kindAt s (gapZ s i) prev).1 with
        | inl f => rw [hr] at hl; cases hl
        | inr l' =>
          rw [hr] at hl
          injection hl with hl
          subst hl
          obtain ⟨a1, a2⟩ := ih _ _ _ (by omega) hr
          refine ⟨fun t ht => ?_, by simp; omega⟩
          rcases List.mem_cons.1 ht with rfl | ht
          · show (s.extract _ _).size ≤ s.size
            rw [ByteArray.size_extract]
            omega
          · exact a1 t ht
      · rw [dif_neg h2] at hl; cases hl
    · rw [dif_neg h1] at hl
      injection hl with hl
      subst hl
      exact ⟨fun t ht => by simp at ht, Nat.zero_le _⟩
theorem lexF_sz (s : ByteArray) : (∀ t ∈ (lexF s).1, t.s.size ≤ 3000) ∧ (lexF s).1.length ≤ 3000 := by
  unfold lexF
  split
  · exact ⟨fun t ht => by simp at ht, Nat.zero_le _⟩
  · next h =>
    cases hr : lexZ s 0 0 with
    | inl f => exact ⟨fun t ht => by simp at ht, Nat.zero_le _⟩
    | inr l =>
      obtain ⟨a1, a2⟩ := lexZ_sz s s.size 0 0 l (by omega) hr
      exact ⟨fun t ht => by have := a1 t ht; omega, by show l.length ≤ 3000; omega⟩
/-- ReadExpr's answer, of what the lexer and the parser say. -/
def readO (L : List Tk) (LK LA : Int) : Out :=
  if LK = 0 then
    (if (parse L top).k = 0 then
      (if (parse L top).n < L.length then ⟨[], 0, 3, place L (parse L top).n⟩ else ⟨(parse L top).t, 0, 0, 0⟩)
    else ⟨[], 0, (parse L top).k, (parse L top).a⟩)
  else ⟨[], 0, LK, LA⟩
def readF (s : ByteArray) : Out := readO (lexF s).1 (lexF s).2.1 (lexF s).2.2
theorem parse_n {l : List Tk} {p : Ps} {M : Nat} (hM : ∀ t ∈ l, t.s.size ≤ M) : (parse l p).n ≤ l.length := by
  unfold parse
  split
  · split
    · next h =>
      obtain ⟨-, h3, -⟩ := toks_len h
      have := ex_ok hM (by omega) (l.length + 1) p 0 (Nat.zero_le _)
      cases hr : ex l (l.length + 1) p 0 with
      | bad j => exact Nat.zero_le _
      | ok lv tg t j =>
        rw [hr] at this
        unfold finish
        simp only
        split
        · exact this.2.1
        · exact Nat.zero_le _
    · exact Nat.zero_le _
  · exact Nat.zero_le _
end Go.Proofs.YtiilpnoaocfjgaaGreatDoor.pe

namespace Go.Proofs.YtiilpnoaocfjgaaGreatDoor.pr
open Go.ChangeShapes Go.WideShapes Go.ChangeAt Go.RowKit
open tk (Tk)
open nd (Nd PT KidV IBlk OwnI shN makeT)
open ps (Ps B5 posOk kidI top)
open pe
open spell (Held)
open lex (lexF LexOut)
set_option linter.unusedVariables false
set_option linter.unusedSimpArgs false
set_option maxRecDepth 20000


/-- What ReadExpr answers. -/
def ROut (O : pe.Out) (w : World) (e : Ending) (w' : World) : Prop :=
  ∃ v z r, e = .returned (.tuple #[v, .agg #[.int .i64 O.k, .int .i64 O.a]]) ∧ z.map (·.1) = O.t ∧ PT w.heap.size v z r w' ∧ Below w.heap.size w w'
theorem rout_bad {k a : Int} {w w' : World} {e : Ending} {n : Nat} (he : e = .returned (.tuple #[.slice none 0 0, .agg #[.int .i64 k, .int .i64 a]])) (hb : Below w.heap.size w w') : ROut ⟨[], n, k, a⟩ w e w' :=
  ⟨.slice none 0 0, [], fun i => i, he, rfl, PT.nil _ _, hb⟩
/-- A write below a list's own memory leaves it. -/
theorem pt_low {B g : Nat} {v : Value} {z : List (Nd × Value)} {r : Nat → Nat} {w : World} (h : PT B v z r w) (hg : g < B) (j : Nat) (u : Value) : PT B v z r (w.setCell ⟨g, j, none⟩ u) := by
  have hb : ∀ k, k ≠ g → (w.setCell ⟨g, j, none⟩ u).heap[k]? = w.heap[k]? := fun k hk => heap_setCell_other w ⟨g, j, none⟩ k u hk
  refine ⟨ownsRow_setCell_below h.own (a := ⟨g, j, none⟩) hg u, fun i hi => ?_, h.off, h.asc, fun i hi => by simpa using h.lt i hi⟩
  rcases h.kid i hi with h1 | ⟨cap, e1, e2, e3, e4⟩
  · exact .inl h1
  · exact .inr ⟨cap, e1, e2.of_block (hb _ (by omega)), e3, e4⟩
theorem below_drew2 {B : Nat} {w w1 : World} (h : Below B w w1) : Below B w w1.drew := ⟨h.os, h.tape, h.output, h.size, h.block⟩
set_option maxHeartbeats 6400000 in
theorem impl_read (s : ByteArray) (w : World) (hs : s.size ≤ 1048576) (hh : Held w) :
    Calls Tryz.prog 39 #[.string s] w (ROut (readF s) w) := by
  obtain ⟨W, hW⟩ : ∃ W, W = w.alloc (.cells #[.int .i64 0, .int .i64 0] 31) := ⟨_, rfl⟩
  have hB : Below w.heap.size w W := by rw [hW]; exact (Below.refl _ _).alloc (Nat.le_refl _) _
  have R0 := Lib.hid (show Bk w.heap.size #[.int .i64 0, .int .i64 0] 31 W by rw [hW]; exact Bk.new _ _ _)
  have B0 := Lib.hid hB
  have HH := Lib.hid hh
  have HLX := Lib.hid (lex.impl_lex s W hs (hh.below hB))
  obtain ⟨hsz1, hsz2⟩ := lexF_sz s
  unfold LexOut at HLX
  unfold readF
  obtain ⟨L, hL⟩ : ∃ L, (lexF s).1 = L := ⟨_, rfl⟩
  obtain ⟨LK, hLK⟩ : ∃ LK, (lexF s).2.1 = LK := ⟨_, rfl⟩
  obtain ⟨LA, hLA⟩ : ∃ LA, (lexF s).2.2 = LA := ⟨_, rfl⟩
  rw [hL, hLK, hLA] at HLX ⊢
  rw [hL] at hsz1 hsz2
  have HS1 := Lib.hid (show ∀ t ∈ L, t.s.size ≤ 1048576 from fun t ht => by have := hsz1 t ht; omega)
  have HS2 := Lib.hid hsz2
  clear hB hh hs hL hLK hLA hsz1 hsz2
  have hpre : True := trivial
  by_cases hk : LK = 0
  case neg =>
    rw [show readO L LK LA = ⟨[], 0, LK, LA⟩ from if_neg hk]
    obtain ⟨q1, q2⟩ := ne_facts hk
    clear hk
    go_enter Tryz.func39, Tryz.ntmps39
    go_wp2_with fail
    rw [← hW]
    clear hW
    refine HLX.out.mono ?_
    rintro e w3 ⟨lv3, rfl, b3, o3⟩
    obtain ⟨a, c, hlv⟩ := o3.form
    subst hlv
    obtain ⟨W3, hW3⟩ : ∃ W3, W3 = w3.alloc (.cells #[.int .i64 LK, .int .i64 LA] 31) := ⟨_, rfl⟩
    have hb3 : Below w3.heap.size w3 W3 := by rw [hW3]; exact (Below.refl _ _).alloc (Nat.le_refl _) _
    have R3 := Lib.hid ((R0.out.keep b3).keep hb3)
    have Q3 := Lib.hid (show Bk w3.heap.size #[.int .i64 LK, .int .i64 LA] 31 W3 by rw [hW3]; exact Bk.new _ _ _)
    have B3 := Lib.hid ((B0.out.trans (b3.mono B0.out.size)).trans (hb3.mono (Nat.le_trans B0.out.size b3.size)))
    have LQ0 := Lib.hid (lies_on (o3.lies rfl) hb3)
    have LQ00 := Lib.hid (show tk.Lies w3.heap.size w3 a L from o3.lies rfl)
    have HB33 := Lib.hid hb3
    have HQG := Lib.hid (show w.heap.size ≤ w3.heap.size from Nat.le_trans B0.out.size b3.size)
    have HNE := Lib.hid (show ¬ w.heap.size = w3.heap.size by have := R0.out.lt; have := b3.size; omega)
    clear b3 hb3 o3
    obtain ⟨r0, r1⟩ := R3.out.c2
    have g0 := R3.out.f 0
    have g1 := R3.out.f 1
    obtain ⟨s0, s1⟩ := Q3.out.c2
    rw [hW3] at r0 r1 g0 g1 s0 s1
    go_wp2
    rw [← hW3] at r0 r1 g0 g1 s0 s1 ⊢
    clear hW3
    go_region
    go_wp2
    obtain ⟨t0, t1⟩ := (R3.out.put2 (.int .i64 LK) (.int .i64 LA)).c2
    exact bodyPost_ret (v := .tuple #[.slice none 0 0, .agg #[.int .i64 LK, .int .i64 LA]]) (by simp [results, Tryz.results39, go_sem, t0, t1]) rfl (rout_bad rfl (below_put2 (below_drew2 B3.out) (Nat.le_refl _) _ _))
  case pos =>
    subst hk
    have HPE := Lib.hid (fun a cap W2 (hc2 : tk.Lies W2.heap.size W2 a L) hh2 => impl_parse L a cap top W2 hc2 (by have := HS2.out; omega) HS1.out hh2)
    have HPL := Lib.hid (fun a cap i W2 (hc2 : tk.Lies W2.heap.size W2 a L) hi => impl_place L a cap i W2 hc2 (by have := HS2.out; omega) hi HS1.out)
    have hpn := parse_n (p := top) HS1.out
    unfold readO
    rw [if_pos rfl]
    obtain ⟨O, hO⟩ : ∃ O, parse L top = O := ⟨_, rfl⟩
    rw [hO] at HPE hpn ⊢
    obtain ⟨ot, on, ok, oa⟩ := O
    simp only at hpn ⊢
    have HON := Lib.hid hpn
    clear hO
    by_cases hk2 : ok = 0
    case neg =>
      rw [if_neg hk2]
      obtain ⟨q1, q2⟩ := ne_facts hk2
      clear hk2 hpn
      go_enter Tryz.func39, Tryz.ntmps39
      go_wp2_with fail
      rw [← hW]
      clear hW
      refine HLX.out.mono ?_
      rintro e w3 ⟨lv3, rfl, b3, o3⟩
      obtain ⟨a, c, hlv⟩ := o3.form
      subst hlv
      obtain ⟨W3, hW3⟩ : ∃ W3, W3 = w3.alloc (.cells #[.int .i64 0, .int .i64 LA] 31) := ⟨_, rfl⟩
      have hb3 : Below w3.heap.size w3 W3 := by rw [hW3]; exact (Below.refl _ _).alloc (Nat.le_refl _) _
      have R3 := Lib.hid ((R0.out.keep b3).keep hb3)
      have Q3 := Lib.hid (show Bk w3.heap.size #[.int .i64 0, .int .i64 LA] 31 W3 by rw [hW3]; exact Bk.new _ _ _)
      have B3 := Lib.hid ((B0.out.trans (b3.mono B0.out.size)).trans (hb3.mono (Nat.le_trans B0.out.size b3.size)))
      have LQ0 := Lib.hid (lies_on (o3.lies rfl) hb3)
      have LQ00 := Lib.hid (show tk.Lies w3.heap.size w3 a L from o3.lies rfl)
      have HB33 := Lib.hid hb3
      have HQG := Lib.hid (show w.heap.size ≤ w3.heap.size from Nat.le_trans B0.out.size b3.size)
      have HNE := Lib.hid (show ¬ w.heap.size = w3.heap.size by have := R0.out.lt; have := b3.size; omega)
      clear b3 hb3 o3
      obtain ⟨s0, s1⟩ := Q3.out.c2
      rw [hW3] at s0 s1
      go_wp2_with (go_at_call 29; rw [← hW3]; refine (_root_.Go.Proofs.YtiilpnoaocfjgaaGreatDoor.ps.impl_top _).mono ?_; rintro e w4 ⟨rfl, b4⟩; have R4 := Lib.hid (R3.out.keep b4); have Q4 := Lib.hid (Q3.out.keep b4); have B4 := Lib.hid (B3.out.trans (b4.mono B3.out.size)); have LQ := Lib.hid (lies_on LQ0.out b4); have HSZ4 := Lib.hid (show w3.heap.size < w4.heap.size from Nat.lt_of_lt_of_le Q3.out.lt b4.size); have HB34 := Lib.hid (HB33.out.trans (b4.mono HB33.out.size)); clear b4)
      clear hW3 s0 s1
      refine (HPE.out a c _ LQ.out (HH.out.below B4.out)).mono ?_
      rintro e w5 ⟨v5, z5, r5, rfl, hz5, pt5, b5⟩
      have R5 := Lib.hid (R4.out.keep b5)
      have Q5 := Lib.hid (Q4.out.keep b5)
      have B5 := Lib.hid (B4.out.trans (b5.mono B4.out.size))
      have PT5 := Lib.hid pt5
      have Z5 := Lib.hid hz5
      have HB35 := Lib.hid (HB34.out.trans (b5.mono HB34.out.size))
      have HSZ5 := Lib.hid (show w4.heap.size ≤ w5.heap.size from b5.size)
      clear b5 hz5 pt5
      obtain ⟨r0, r1⟩ := R5.out.c2
      have g0 := R5.out.f 0
      have g1 := R5.out.f 1
      obtain ⟨s0, s1⟩ := Q5.out.c2
      have u0 := Q5.out.f 0
      have u1 := Q5.out.f 1
      obtain ⟨s0', s1'⟩ := (Q5.out.put2 (.int .i64 ok) (.int .i64 oa)).c2
      have R6 := Lib.hid ((R5.out.oth HNE.out 0 (.int .i64 ok)).oth HNE.out 1 (.int .i64 oa))
      obtain ⟨r0', r1'⟩ := R6.out.c2
      have g0' := R6.out.f 0
      have g1' := R6.out.f 1
      have B6 := Lib.hid (below_put2 B5.out HQG.out (.int .i64 ok) (.int .i64 oa))
      go_wp2
      go_region
      go_wp2
      obtain ⟨t0, t1⟩ := (R6.out.put2 (.int .i64 ok) (.int .i64 oa)).c2
      exact bodyPost_ret (v := .tuple #[.slice none 0 0, .agg #[.int .i64 ok, .int .i64 oa]]) (by simp [results, Tryz.results39, go_sem, t0, t1]) rfl (rout_bad rfl (below_put2 (below_drew2 B6.out) (Nat.le_refl _) _ _))
    case pos =>
      subst hk2
      rw [if_pos rfl]
      obtain ⟨NL, hNL⟩ : ∃ NL, L.length = NL := ⟨_, rfl⟩
      by_cases hrest : on < L.length
      · rw [if_pos hrest]
        obtain ⟨PV, hPV⟩ : ∃ PV, place L on = PV := ⟨_, rfl⟩
        have HPV := Lib.hid hPV
        rw [hPV]
        have hr1 : (on : Int) < (L.length : Int) := by omega
        clear hpn hrest hNL hPV
        go_enter Tryz.func39, Tryz.ntmps39
        go_wp2_with fail
        rw [← hW]
        clear hW
        refine HLX.out.mono ?_
        rintro e w3 ⟨lv3, rfl, b3, o3⟩
        obtain ⟨a, c, hlv⟩ := o3.form
        subst hlv
        obtain ⟨W3, hW3⟩ : ∃ W3, W3 = w3.alloc (.cells #[.int .i64 0, .int .i64 LA] 31) := ⟨_, rfl⟩
        have hb3 : Below w3.heap.size w3 W3 := by rw [hW3]; exact (Below.refl _ _).alloc (Nat.le_refl _) _
        have R3 := Lib.hid ((R0.out.keep b3).keep hb3)
        have Q3 := Lib.hid (show Bk w3.heap.size #[.int .i64 0, .int .i64 LA] 31 W3 by rw [hW3]; exact Bk.new _ _ _)
        have B3 := Lib.hid ((B0.out.trans (b3.mono B0.out.size)).trans (hb3.mono (Nat.le_trans B0.out.size b3.size)))
        have LQ0 := Lib.hid (lies_on (o3.lies rfl) hb3)
        have LQ00 := Lib.hid (show tk.Lies w3.heap.size w3 a L from o3.lies rfl)
        have HB33 := Lib.hid hb3
        have HQG := Lib.hid (show w.heap.size ≤ w3.heap.size from Nat.le_trans B0.out.size b3.size)
        have HNE := Lib.hid (show ¬ w.heap.size = w3.heap.size by have := R0.out.lt; have := b3.size; omega)
        clear b3 hb3 o3
        obtain ⟨s0, s1⟩ := Q3.out.c2
        rw [hW3] at s0 s1
        go_wp2_with (go_at_call 29; rw [← hW3]; refine (_root_.Go.Proofs.YtiilpnoaocfjgaaGreatDoor.ps.impl_top _).mono ?_; rintro e w4 ⟨rfl, b4⟩; have R4 := Lib.hid (R3.out.keep b4); have Q4 := Lib.hid (Q3.out.keep b4); have B4 := Lib.hid (B3.out.trans (b4.mono B3.out.size)); have LQ := Lib.hid (lies_on LQ0.out b4); have HSZ4 := Lib.hid (show w3.heap.size < w4.heap.size from Nat.lt_of_lt_of_le Q3.out.lt b4.size); have HB34 := Lib.hid (HB33.out.trans (b4.mono HB33.out.size)); clear b4)
        clear hW3 s0 s1
        refine (HPE.out a c _ LQ.out (HH.out.below B4.out)).mono ?_
        rintro e w5 ⟨v5, z5, r5, rfl, hz5, pt5, b5⟩
        have R5 := Lib.hid (R4.out.keep b5)
        have Q5 := Lib.hid (Q4.out.keep b5)
        have B5 := Lib.hid (B4.out.trans (b5.mono B4.out.size))
        have PT5 := Lib.hid pt5
        have Z5 := Lib.hid hz5
        have HB35 := Lib.hid (HB34.out.trans (b5.mono HB34.out.size))
        have HSZ5 := Lib.hid (show w4.heap.size ≤ w5.heap.size from b5.size)
        clear b5 hz5 pt5
        obtain ⟨s0, s1⟩ := Q5.out.c2
        have u0 := Q5.out.f 0
        have u1 := Q5.out.f 1
        obtain ⟨s0', s1'⟩ := (Q5.out.put2 (.int .i64 0) (.int .i64 oa)).c2
        have R6 := Lib.hid ((R5.out.oth HNE.out 0 (.int .i64 0)).oth HNE.out 1 (.int .i64 oa))
        have B6 := Lib.hid (below_put2 B5.out HQG.out (.int .i64 0) (.int .i64 oa))
        have L6 := Lib.hid (show tk.Lies ((w5.setCell ⟨w3.heap.size, 0, none⟩ (.int .i64 0)).setCell ⟨w3.heap.size, 1, none⟩ (.int .i64 oa)).heap.size _ a L from (LQ00.out.keep (below_put2 HB35.out (Nat.le_refl _) (.int .i64 0) (.int .i64 oa)) (Nat.le_refl _)).up (by simp; exact HB35.out.size))
        go_wp2_with fail
        refine (HPL.out a c on _ L6.out HON.out).mono ?_
        rw [HPV.out]
        rintro e w7 ⟨rfl, b7⟩
        have R7 := Lib.hid (R6.out.keep b7)
        have B7 := Lib.hid (B6.out.trans (b7.mono B6.out.size))
        clear b7
        obtain ⟨r0, r1⟩ := R7.out.c2
        have g0 := R7.out.f 0
        have g1 := R7.out.f 1
        go_wp2
        obtain ⟨t0, t1⟩ := (R7.out.put2 (.int .i64 3) (.int .i64 PV)).c2
        exact bodyPost_ret (v := .tuple #[.slice none 0 0, .agg #[.int .i64 3, .int .i64 PV]]) (by simp [results, Tryz.results39, go_sem, t0, t1]) rfl (rout_bad rfl (below_put2 B7.out (Nat.le_refl _) _ _))
      · rw [if_neg hrest]
        have hr1 : ¬ (on : Int) < (L.length : Int) := by omega
        clear hpn hrest hNL
        go_enter Tryz.func39, Tryz.ntmps39
        go_wp2_with fail
        rw [← hW]
        clear hW
        refine HLX.out.mono ?_
        rintro e w3 ⟨lv3, rfl, b3, o3⟩
        obtain ⟨a, c, hlv⟩ := o3.form
        subst hlv
        obtain ⟨W3, hW3⟩ : ∃ W3, W3 = w3.alloc (.cells #[.int .i64 0, .int .i64 LA] 31) := ⟨_, rfl⟩
        have hb3 : Below w3.heap.size w3 W3 := by rw [hW3]; exact (Below.refl _ _).alloc (Nat.le_refl _) _
        have R3 := Lib.hid ((R0.out.keep b3).keep hb3)
        have Q3 := Lib.hid (show Bk w3.heap.size #[.int .i64 0, .int .i64 LA] 31 W3 by rw [hW3]; exact Bk.new _ _ _)
        have B3 := Lib.hid ((B0.out.trans (b3.mono B0.out.size)).trans (hb3.mono (Nat.le_trans B0.out.size b3.size)))
        have LQ0 := Lib.hid (lies_on (o3.lies rfl) hb3)
        have LQ00 := Lib.hid (show tk.Lies w3.heap.size w3 a L from o3.lies rfl)
        have HB33 := Lib.hid hb3
        have HQG := Lib.hid (show w.heap.size ≤ w3.heap.size from Nat.le_trans B0.out.size b3.size)
        have HNE := Lib.hid (show ¬ w.heap.size = w3.heap.size by have := R0.out.lt; have := b3.size; omega)
        clear b3 hb3 o3
        obtain ⟨s0, s1⟩ := Q3.out.c2
        rw [hW3] at s0 s1
        go_wp2_with (go_at_call 29; rw [← hW3]; refine (_root_.Go.Proofs.YtiilpnoaocfjgaaGreatDoor.ps.impl_top _).mono ?_; rintro e w4 ⟨rfl, b4⟩; have R4 := Lib.hid (R3.out.keep b4); have Q4 := Lib.hid (Q3.out.keep b4); have B4 := Lib.hid (B3.out.trans (b4.mono B3.out.size)); have LQ := Lib.hid (lies_on LQ0.out b4); have HSZ4 := Lib.hid (show w3.heap.size < w4.heap.size from Nat.lt_of_lt_of_le Q3.out.lt b4.size); have HB34 := Lib.hid (HB33.out.trans (b4.mono HB33.out.size)); clear b4)
        clear hW3 s0 s1
        refine (HPE.out a c _ LQ.out (HH.out.below B4.out)).mono ?_
        rintro e w5 ⟨v5, z5, r5, rfl, hz5, pt5, b5⟩
        have R5 := Lib.hid (R4.out.keep b5)
        have Q5 := Lib.hid (Q4.out.keep b5)
        have B5 := Lib.hid (B4.out.trans (b5.mono B4.out.size))
        have PT5 := Lib.hid pt5
        have Z5 := Lib.hid hz5
        have HB35 := Lib.hid (HB34.out.trans (b5.mono HB34.out.size))
        have HSZ5 := Lib.hid (show w4.heap.size ≤ w5.heap.size from b5.size)
        clear b5 hz5 pt5
        obtain ⟨s0, s1⟩ := Q5.out.c2
        have u0 := Q5.out.f 0
        have u1 := Q5.out.f 1
        obtain ⟨s0', s1'⟩ := (Q5.out.put2 (.int .i64 0) (.int .i64 oa)).c2
        have R6 := Lib.hid ((R5.out.oth HNE.out 0 (.int .i64 0)).oth HNE.out 1 (.int .i64 oa))
        have B6 := Lib.hid (below_put2 B5.out HQG.out (.int .i64 0) (.int .i64 oa))
        obtain ⟨r0, r1⟩ := R6.out.c2
        have g0 := R6.out.f 0
        have g1 := R6.out.f 1
        go_wp2
        obtain ⟨t0, t1⟩ := (R6.out.put2 (.int .i64 0) (.int .i64 0)).c2
        have hpt : PT w4.heap.size v5 z5 r5 ((((w5.setCell ⟨w3.heap.size, 0, none⟩ (.int .i64 0)).setCell ⟨w3.heap.size, 1, none⟩ (.int .i64 oa)).setCell ⟨w.heap.size, 0, none⟩ (.int .i64 0)).setCell ⟨w.heap.size, 1, none⟩ (.int .i64 0)) := by
          have k : ∀ (g : Nat), g < w4.heap.size → ∀ (W : World), PT w4.heap.size v5 z5 r5 W → ∀ j u, PT w4.heap.size v5 z5 r5 (W.setCell ⟨g, j, none⟩ u) := fun g hg W h j u => pt_low h hg j u
          have h1 : w3.heap.size < w4.heap.size := HSZ4.out
          have h2 : w.heap.size < w4.heap.size := Nat.lt_of_le_of_lt HQG.out HSZ4.out
          exact k _ h2 _ (k _ h2 _ (k _ h1 _ (k _ h1 _ PT5.out _ _) _ _) _ _) _ _
        exact bodyPost_ret (v := .tuple #[v5, .agg #[.int .i64 0, .int .i64 0]]) (by simp [results, Tryz.results39, go_sem, t0, t1]) rfl ⟨v5, z5, r5, rfl, Z5.out, PT.up hpt (Nat.le_of_lt (Nat.lt_of_le_of_lt HQG.out HSZ4.out)), below_put2 B6.out (Nat.le_refl _) _ _⟩
end Go.Proofs.YtiilpnoaocfjgaaGreatDoor.pr

namespace Go.Proofs.YtiilpnoaocfjgaaGreatDoor.lawArgs
open nd (Nd)
open pe (readF)
set_option maxRecDepth 100000

def hd (h : Nat) : ByteArray := if h = 0 then ⟨#[102, 40]⟩ else if h = 1 then ⟨#[115, 117, 98, 115, 116, 114, 40]⟩ else ⟨#[97, 91]⟩
def aw (h : Nat) : Nat → ByteArray
  | 0 => hd h
  | i + 1 => (if i = 0 then aw h i else aw h i ++ ⟨#[44]⟩) ++ ⟨#[120]⟩
def cut (h n : Nat) : Nat := if 6 < n then (aw h 6).size else 0
def txt (h n : Nat) : ByteArray := aw h n ++ (if h = 2 then ⟨#[93]⟩ else ⟨#[41]⟩)
def right (h n : Nat) : Bool := decide ((txt h n).size ≤ 1000) && (decide ((aw h n).size ≤ 1000) && (if 6 < n then decide ((readF (txt h n)).k = 3 ∧ (readF (txt h n)).a = (cut h n : Int)) && (readF (txt h n)).t.length == 0
  else if n = 0 ∧ h = 2 then decide ((readF (txt h n)).k = 3 ∧ (readF (txt h n)).a = 2)
  else decide ((readF (txt h n)).k = 0) && ((readF (txt h n)).t.length == n + 1 && ((readF (txt h n)).t.getD n default).kids.length == n)))
theorem rights : (List.range 3).all (fun h => (List.range 10).all (fun n => right h n)) = true := by decide +kernel
theorem right_all {h n : Nat} (h1 : h < 3) (h2 : n < 10) : right h n = true := by
  have h0 := rights
  rw [List.all_eq_true] at h0
  have h3 := h0 h (List.mem_range.2 h1)
  rw [List.all_eq_true] at h3
  exact h3 n (List.mem_range.2 h2)
theorem cut_step (h i : Nat) : (if i = 6 then (aw h i).size else cut h i) = cut h (i + 1) := by
  unfold cut
  by_cases h1 : i = 6
  · subst h1; rfl
  · rw [if_neg h1]
    by_cases h2 : 6 < i
    · rw [if_pos h2, if_pos (by omega)]
    · rw [if_neg h2, if_neg (by omega)]
end Go.Proofs.YtiilpnoaocfjgaaGreatDoor.lawArgs

namespace Go.Proofs.YtiilpnoaocfjgaaGreatDoor.lawArgs
open Go.ChangeShapes Go.WideShapes Go.ChangeAt Go.RowKit
open spell (Held held)
open nd (Nd PT)
open draw (IsRow)
open pe (readF)
open pr (ROut impl_read)
set_option linter.unusedVariables false
set_option linter.unusedSimpArgs false
set_option maxRecDepth 20000

def RelA (H N : Nat) (s c i : Value) (W wr : World) : Prop := ∃ I : Nat, I ≤ N ∧ i = .int .i64 (I : Int) ∧ s = .string (aw H I) ∧ c = .int .i64 (cut H I : Int) ∧ wr = W
theorem aw_size (H : Nat) (hH : H < 3) (I : Nat) (hI : I < 10) : (aw H I).size ≤ 1000 := by
  have h := right_all hH hI
  unfold right at h
  rw [Bool.and_eq_true, Bool.and_eq_true, decide_eq_true_eq, decide_eq_true_eq] at h
  exact h.2.1
set_option maxHeartbeats 6400000 in
theorem core {a : Option Addr} {len cap : Nat} {zs : List Int} {w : World} (hc : draw.Code w.heap.size w a len zs) (hl : len ≤ 1048576) (hh : Held w) :
    Calls Tryz.prog 9 #[.slice a len cap] w fun e w' => e = .returned (.bool true) ∧ Below w.heap.size w w' := by
  have hbig : decide (1048576 < len) = false := by simp; omega
  have HAT := Lib.hid (draw.at_code (cap := cap) 0 (by omega) w hc hl)
  have HAT2 := Lib.hid (fun w2 (hb : Below w.heap.size w w2) => draw.at_code (a := a) (len := len) (zs := zs) (cap := cap) 1 (by omega) w2 ((hc.keep hb).up hb.size) hl)
  have HH := Lib.hid hh
  clear hc hh
  go_enter Tryz.func9, Tryz.ntmps9
  go_wp2_with fail
  refine (draw.big_any a len cap _ (by omega)).mono ?_
  rw [hbig]
  rintro e w1 ⟨rfl, rfl⟩
  go_wp2_with fail
  refine HAT.out.mono ?_
  rintro e w2 ⟨⟨X, hX, rfl⟩, rfl⟩
  obtain ⟨N, hN⟩ : ∃ N : Nat, N = X % 10 := ⟨_, rfl⟩
  have e1 : (X : Int).tmod 10 = (N : Int) := by rw [Int.tmod_eq_emod_of_nonneg (by omega)]; omega
  have e2 : (X : Int) % 10 = (N : Int) := by omega
  have hN2 : N < 10 := by omega
  clear hX hN
  go_wp2_with fail
  refine (HAT2.out _ ((Below.refl _ _).alloc (Nat.le_refl _) _)).mono ?_
  rintro e w3 ⟨⟨Y, hY, rfl⟩, rfl⟩
  obtain ⟨H, hH⟩ : ∃ H : Nat, H = Y % 3 := ⟨_, rfl⟩
  have f1 : (Y : Int).tmod 3 = (H : Int) := by rw [Int.tmod_eq_emod_of_nonneg (by omega)]; omega
  have f2 : (Y : Int) % 3 = (H : Int) := by omega
  have hH2 : H < 3 := by omega
  have h0 : (0 : Int) ≤ (H : Int) := by omega
  have h3 : (H : Int) < 3 := by omega
  clear hY hH
  obtain ⟨W1, hW1⟩ : ∃ W1, W1 = w.alloc (.cells #[.string ⟨#[102, 40]⟩, .string ⟨#[115, 117, 98, 115, 116, 114, 40]⟩, .string ⟨#[97, 91]⟩] 9) := ⟨_, rfl⟩
  have B1 := Lib.hid (show Below w.heap.size w W1 by rw [hW1]; exact (Below.refl _ _).alloc (Nat.le_refl _) _)
  have hcell : W1.cell? ⟨w.heap.size, H, none⟩ = some (.string (hd H)) := by
    have hr := heap_alloc_new w (.cells #[.string ⟨#[102, 40]⟩, .string ⟨#[115, 117, 98, 115, 116, 114, 40]⟩, .string ⟨#[97, 91]⟩] 9)
    rw [hW1, cell_of_row _ _ _ _ _ _ hr]
    rcases (show H = 0 ∨ H = 1 ∨ H = 2 by omega) with rfl | rfl | rfl <;> rfl
  rw [← hW1]
  clear hW1
  go_wp2
  go_loopw [6, 7, 8] (fun s c i wr => RelA H N s c i W1 wr) (fun _ _ i _ => N - (intOf i).toNat)
  case atStart => exact ⟨0, Nat.zero_le _, rfl, rfl, rfl, rfl⟩
  case round =>
    obtain ⟨I, hI, rfl, rfl, rfl, rfl⟩ := hrel
    by_cases hlt : I < N
    · have hsz := aw_size H hH2 I (by omega)
      have hi1 : (I : Int) < (N : Int) := by omega
      have hcs := cut_step H I
      have haw : aw H (I + 1) = (if I = 0 then aw H I else aw H I ++ ⟨#[44]⟩) ++ ⟨#[120]⟩ := rfl
      by_cases h6 : I = 6
      · subst h6
        rw [if_pos rfl] at hcs
        rw [if_neg (by decide)] at haw
        have hsz7 := aw_size H hH2 7 (by omega)
        rw [haw] at hsz7
        simp only [ByteArray.size_append] at hsz7
        have hi6 : (6 : Int) < (N : Int) := by omega
        have HCS := Lib.hid hcs
        clear hcs hsz7
        go_wp2
        exact ⟨⟨7, by omega, rfl, by rw [haw], by rw [← HCS.out], rfl⟩, by simp [intOf]; omega⟩
      · rw [if_neg h6] at hcs
        have q6 : ((I : Int) == 6) = false := by rw [beq_eq_false_iff_ne]; omega
        by_cases h00 : I = 0
        · subst h00
          rw [if_pos rfl] at haw
          go_wp2
          exact ⟨⟨1, by omega, rfl, by rw [haw], by rw [hcs], rfl⟩, by simp [intOf]; omega⟩
        · rw [if_neg h00] at haw
          have q0 : (0 : Int) < (I : Int) := by omega
          go_wp2
          exact ⟨⟨I + 1, by omega, by go_num, by rw [haw], by rw [hcs], rfl⟩, by simp [intOf]; omega⟩
    · obtain rfl : I = N := by omega
      have hi1 : ¬ (I : Int) < (I : Int) := by omega
      have hsz := aw_size H hH2 I (by omega)
      have hr := right_all hH2 hN2
      unfold right at hr
      rw [Bool.and_eq_true, Bool.and_eq_true, decide_eq_true_eq, decide_eq_true_eq] at hr
      obtain ⟨hts, -, hr⟩ := hr
      have HRD := Lib.hid (fun w2 hh2 => impl_read (txt H I) w2 (by omega) hh2)
      obtain ⟨O, hO⟩ : ∃ O, readF (txt H I) = O := ⟨_, rfl⟩
      rw [hO] at HRD hr
      have HX := Lib.hid hr
      have HHW := Lib.hid (HH.out.below B1.out)
      have HTX : aw H I ++ (if H = 2 then ⟨#[93]⟩ else ⟨#[41]⟩) = txt H I := rfl
      obtain ⟨S, hS⟩ : ∃ S, txt H I = S := ⟨_, rfl⟩
      rw [hS] at HRD HTX
      clear hO hr hts hS hcell
      by_cases h2 : H = 2
      all_goals
        first | rw [if_pos h2] at HTX | rw [if_neg h2] at HTX
        have HT := Lib.hid HTX
        clear HTX
        have q2 := h2
        first | (replace q2 : ((H : Int) == 2) = true := by rw [h2]; rfl) | (replace q2 : ((H : Int) == 2) = false := by rw [beq_eq_false_iff_ne]; omega)
        have H2 := Lib.hid h2
        clear h2
        go_wp2_with fail
        rw [HT.out]
        refine (HRD.out _ HHW.out).mono ?_
        rintro e w4 ⟨v1, z1, r1, rfl, hz1, pt1, b4⟩
        obtain ⟨a1, c1, rfl⟩ := pt1.form
        obtain ⟨ot, on, ok, oa⟩ := O
        have hr := HX.out
        simp only at hr hz1 ⊢
        obtain ⟨W2, hW2⟩ : ∃ W2, W2 = w4.alloc (.cells #[.int .i64 ok, .int .i64 oa] 31) := ⟨_, rfl⟩
        have X1 := Lib.hid (show pr.Bk w4.heap.size #[.int .i64 ok, .int .i64 oa] 31 W2 by rw [hW2]; exact pr.Bk.new _ _ _)
        have B2 := Lib.hid (show Below w.heap.size w W2 by rw [hW2]; exact (B1.out.trans (b4.mono B1.out.size)).alloc (Nat.le_trans B1.out.size b4.size) _)
        have L1 : nd.Lies W2.heap.size W2 a1 ot := by rw [hW2, ← hz1]; exact pt1.lies.on ((Below.refl _ _).alloc (Nat.le_refl _) _) (Nat.le_refl _)
        have hzl : z1.length = ot.length := by rw [← hz1, List.length_map]
        rw [hzl]
        obtain ⟨x0, x1⟩ := X1.out.c2
        clear b4 pt1 hz1 hzl
        by_cases h6 : 6 < I
        · rw [if_pos h6, Bool.and_eq_true, decide_eq_true_eq, beq_iff_eq] at hr
          obtain ⟨⟨rfl, rfl⟩, hlen⟩ := hr
          rw [hlen]
          have q6 : (6 : Int) < (I : Int) := by omega
          rw [hW2] at x0 x1
          clear L1
          go_wp2
          rw [← hW2]
          go_ret
          exact ⟨rfl, B2.out⟩
        · rw [if_neg h6] at hr
          have q6 : ¬ (6 : Int) < (I : Int) := by omega
          by_cases h02 : I = 0 ∧ H = 2
          · first
              | exact absurd h02.2 H2.out
              | (rw [if_pos h02, decide_eq_true_eq] at hr
                 obtain ⟨rfl, rfl⟩ := hr
                 have q0 : ((I : Int) == 0) = true := by rw [h02.1]; rfl
                 rw [hW2] at x0 x1
                 clear L1 h02
                 go_wp2
                 rw [← hW2]
                 go_ret
                 exact ⟨rfl, B2.out⟩)
          · rw [if_neg h02, Bool.and_eq_true, Bool.and_eq_true, decide_eq_true_eq, beq_iff_eq, beq_iff_eq] at hr
            obtain ⟨rfl, hlen, hkid⟩ := hr
            rw [hlen]
            rcases L1 with L1 | ⟨b, o, rfl, hlt2, hat⟩
            · rw [L1] at hlen; simp at hlen
            · obtain ⟨aK, cK, ⟨d0, d1, d2, d3, d4⟩, -⟩ := hat I (by omega)
              have hk2 : (ot[I]'(by omega)).kids.length = I := by
                have h := hkid
                rw [List.getD_eq_getElem?_getD, List.getElem?_eq_getElem (show I < ot.length by omega)] at h
                exact h
              rw [hk2] at d4
              clear hk2
              rw [hW2] at x0 x1 d4
              have q7 : (0 : Int) ≤ (I : Int) := by omega
              have q8 : (I : Int) < (I : Int) + 1 := by omega
              clear hat d0 d1 d2 d3 hkid
              by_cases h0 : I = 0
              · by_cases e2 : H = 2
                · exact absurd ⟨h0, e2⟩ h02
                · have q0 : ((I : Int) == 0) = true := by rw [h0]; rfl
                  first
                    | (exact absurd H2.out e2)
                    | skip
                  all_goals
                    clear h02 h0 e2
                    go_wp2
                    rw [← hW2]
                    go_ret
                    exact ⟨rfl, B2.out⟩
              · have q0 : ((I : Int) == 0) = false := by rw [beq_eq_false_iff_ne]; omega
                clear h02 h0
                go_wp2
                rw [← hW2]
                go_ret
                exact ⟨rfl, B2.out⟩

theorem walk (a : Option Addr) (len cap : Nat) (zs : List Int) (w : World) (hz : draw.IsRow .u8 w a len cap zs) (hh : Held w) :
    Calls Tryz.prog 9 #[.slice a len cap] w fun e w' => e = .returned (.bool true) ∧ Below w.heap.size w w' := by
  have hlm : len ≤ maxLen := by
    rcases hz with ⟨_, rfl, _, _⟩ | ⟨x, _, hl, hm, _⟩
    · exact Nat.zero_le _
    · exact Nat.le_trans hl hm
  unfold maxLen at hlm
  by_cases hl : len ≤ 1048576
  · exact core (draw.code_of hz) hl hh
  · have hbig : decide (1048576 < len) = true := by simp; omega
    clear hz
    go_enter Tryz.func9, Tryz.ntmps9
    go_wp2_with fail
    refine (draw.big_any a len cap _ (by omega)).mono ?_
    rw [hbig]
    rintro e w1 ⟨rfl, rfl⟩
    go_wp2
    go_ret
    exact ⟨rfl, Below.refl _ _⟩
end Go.Proofs.YtiilpnoaocfjgaaGreatDoor.lawArgs
