/-
  impl's exprParser: expr: contracts.
  NestOf over tokens in memory: contracts of both sides.
-/
import Derived.Test.YtiilpnoaocfjgaaGreatDoorGArgsA
import Derived.Test.YtiilpnoaocfjgaaGreatDoorBareC
namespace Go.Proofs.YtiilpnoaocfjgaaGreatDoor.pr
open Go.ChangeShapes Go.WideShapes Go.ChangeAt Go.RowKit
open tk (Tk)
open nd (Nd PT KidV IBlk OwnI shN makeT)
open ps (fits Ps B5 posOk kidI top)
open pe
set_option linter.unusedVariables false
set_option linter.unusedSimpArgs false
set_option maxRecDepth 20000

theorem Mb.extq {b q g : Nat} {c : Array Value} {ty : TypeId} {v v' : Value} {z z' : List (Nd × Value)} {r r' : Nat → Nat} {w w' : World} (h : Mb (X0 b) b g c ty v z r w) (e : Ext (Xq b q) v z r w v' z' r' w') (hne : g ≠ q) : Mb (X0 b) b g c ty v' z' r' w' := by
  have m : Mb (Xq b q) b g c ty v z r w := ⟨h.bk, fun hk => by rcases hk with h1 | h1; exact h.x h1; exact hne h1, h.b, h.o, h.r⟩
  have m2 := m.ext e
  exact ⟨m2.bk, h.x, h.b, m2.o, m2.r⟩
section
variable {w0 : World} {a : Option Addr} {n cap : Nat} {gR q : Nat} {v0 : Value} {z0 : List (Nd × Value)} {r0 : Nat → Nat} {ws : World} {i i' : Nat} {v v' : Value} {z z' : List (Nd × Value)} {r r' : Nat → Nat} {w w' : World}
theorem Fy.goq (h : Fy w0 a n cap (X0 w0.heap.size) gR v0 z0 r0 ws i v z r w) (s : St w0 a n cap i' v' z' r' w') (e : Ext (Xq w0.heap.size q) v z r w v' z' r' w') (hq : ws.heap.size ≤ q) (hne : gR ≠ q) : Fy w0 a n cap (X0 w0.heap.size) gR v0 z0 r0 ws i' v' z' r' w' :=
  ⟨s, ((h.tot.wide (Y := Xq w0.heap.size q) (fun k _ h => Or.inl h)).trans e).wide (fun k hk hx => by rcases hx with h1 | h1; exact h1; omega), h.rb.extq e hne, h.ge⟩
/-- A box of one's own that is not the result's is written. -/
theorem Fy.own (h : Fy w0 a n cap (X0 w0.heap.size) gR v0 z0 r0 ws i v z r w) {g : Nat} {c : Array Value} {ty : TypeId} (m : Mb (X0 w0.heap.size) w0.heap.size g c ty v z r w) (hg : ws.heap.size ≤ g) (hne : gR ≠ g) (j : Nat) (u : Value) : Fy w0 a n cap (X0 w0.heap.size) gR v0 z0 r0 ws i v z r (w.setCell ⟨g, j, none⟩ u) :=
  h.goq (q := g) (h.st.mset m j u) (Ext.of (Gr.set (X := Xq w0.heap.size g) (Gr.refl _ v w) (.inl (Or.inr rfl)) j u)) hg hne
end
/-- What is left of an expression's reading: at a state on the way, or at a fault. -/
inductive Way (M : Nat) (l : List Tk) (E : Ps → Nat → R) (p : Ps) (zb : List Nd) (i0 : Nat) (T : R) : Int → Bool → Nat → List (Nd × Value) → Prop
  | fault (j : Nat) (z : List (Nd × Value)) (h : T = .bad j) (hj : j ≤ l.length) : Way M l E p zb i0 T 0 false j z
  | on (lv : Int) (tg : Bool) (j : Nat) (z : List (Nd × Value)) (t : List Nd) (g : Nat) (hs : Sd M l i0 lv t j) (hm : z.map (·.1) = zb ++ t.map (shN (zb.length : Int))) (hT : T = go E l p g lv tg t j) (hg : l.length - j < g) (hz : z.length + 2 * (l.length - j) ≤ 200000) : Way M l E p zb i0 T lv tg j z
def lvOf (g : Nat) (w : World) : Nat := match w.cell? ⟨g, 0, none⟩ with
  | some (.int _ x) => if x = 0 then 0 else 1
  | _ => 0
theorem lv_of {g : Nat} {w : World} {lv : Int} {tg : Bool} (h : Bk g #[.int .i64 lv, .bool tg] 87 w) : lvOf g w = if lv = 0 then 0 else 1 := by
  unfold lvOf
  rw [h.c2.1]
theorem way_of {M : Nat} {l : List Tk} {E : Ps → Nat → R} {p : Ps} {zb : List Nd} {i0 : Nat} {T : R} {R0 : R} {z : List (Nd × Value)} (h : Ok M l i0 R0) (hz : ∀ lv tg t j, R0 = .ok lv tg t j → z.map (·.1) = zb ++ t.map (shN (zb.length : Int))) (hT : T = (match R0 with | .bad j => .bad j | .ok lv tg t j => go E l p (l.length + 1) lv tg t j)) (hb : zb.length + 2 * (l.length - i0) ≤ 200000) : Way M l E p zb i0 T (lvR R0) (tgR R0) (atR R0) z := by
  cases R0 with
  | bad j => exact .fault j z hT h.2
  | ok lv tg t j =>
    have hm := hz _ _ _ _ rfl
    obtain ⟨h1, h2, h3, h4, h5, h6⟩ := h
    refine .on lv tg j z t _ ⟨h1, h2, h3, h4, h5, h6⟩ hm hT (by omega) ?_
    have := congrArg List.length hm
    rw [List.length_map, List.length_append, List.length_map] at this
    omega
theorem way_next {M : Nat} {l : List Tk} {E : Ps → Nat → R} (hOk : ∀ p i, i ≤ l.length → Ok M l i (E p i)) (hM : ∀ t ∈ l, t.s.size ≤ M) (hb : l.length ≤ 100000) {p : Ps} {zb : List Nd} {i0 j g : Nat} {T : R} {lv : Int} {tg : Bool} {t : List Nd} {z : List (Nd × Value)} (hs : Sd M l i0 lv t j) (hg : goes (kd l j) lv tg p = true) (hT : T = go E l p (g + 1) lv tg t j) (hgg : l.length - j < g + 1) (hz : ∀ lv' tg' t' j', pe.step E l (kd l j) p t j = .ok lv' tg' t' j' → z.map (·.1) = zb ++ t'.map (shN (zb.length : Int))) (hbb : zb.length + 2 * (l.length - i0) ≤ 200000) :
    Way M l E p zb i0 T (lvR (pe.step E l (kd l j) p t j)) (tgR (pe.step E l (kd l j) p t j)) (atR (pe.step E l (kd l j) p t j)) z ∧ j ≤ atR (pe.step E l (kd l j) p t j) ∧ atR (pe.step E l (kd l j) p t j) ≤ l.length ∧ (lvR (pe.step E l (kd l j) p t j) = 0 ∨ j < atR (pe.step E l (kd l j) p t j)) := by
  rw [go_next hg] at hT
  have hs0 := step_ok hOk hM hb (p := p) (i := j) hs.2.2.2.2.2 hs.2.1 (by have := hs.2.2.2.1; have := hs.1; have := hs.2.1; omega) (by unfold goes at hg; rw [Bool.and_eq_true] at hg; exact hg.1)
  cases hr : pe.step E l (kd l j) p t j with
  | bad j2 =>
    rw [hr] at hT hs0
    exact ⟨.fault j2 z hT hs0.2, hs0.1, hs0.2, .inl rfl⟩
  | ok lv' tg' t' j2 =>
    obtain ⟨s1, s2⟩ := sd_step hOk hM hb hs hg hr
    rw [hr] at hT
    have hm := hz _ _ _ _ hr
    refine ⟨.on lv' tg' j2 z t' g s1 hm hT (by have := s1.2.1; omega) ?_, Nat.le_of_lt s2, s1.2.1, .inr s2⟩
    have := congrArg List.length hm
    rw [List.length_map, List.length_append, List.length_map] at this
    obtain ⟨h1, h2, h3, h4, h5, h6⟩ := s1
    omega
section
variable {w0 : World} {l : List Tk} {a : Option Addr} {cap i : Nat} {v : Value} {z : List (Nd × Value)} {r : Nat → Nat} {E : Ps → Nat → R} {M i0 : Nat}

def RelEx (w0 : World) (a : Option Addr) (cap : Nat) (M : Nat) (l : List Tk) (E : Ps → Nat → R) (p : Ps) (i : Nat) (T : R) (v : Value) (z : List (Nd × Value)) (r : Nat → Nat) (w : World) (gl : Nat) (wr : World) : Prop :=
  ∃ lv0 tg0 j v' z' r', Fy w0 a l.length cap (X0 w0.heap.size) (w.heap.size + 1) v z r w j v' z' r' wr ∧ Mb (X0 w0.heap.size) w0.heap.size w.heap.size #[.int .i64 p.l, .bool p.d, .bool p.i, .bool p.g, .bool p.s] 26 v' z' r' wr ∧ Mb (X0 w0.heap.size) w0.heap.size gl #[.int .i64 lv0, .bool tg0] 87 v' z' r' wr ∧ Way M l E p (z.map (·.1)) i T lv0 tg0 j z'
/-- A round of expr ends: the answer of a method lies in the box of the left side. -/
theorem expr_next (hOk : ∀ p i, i ≤ l.length → Ok M l i (E p i)) (hM : ∀ t ∈ l, t.s.size ≤ M) (hb : l.length ≤ 100000) {p : Ps} {T : R} {w W9 ww : World} {v3 : Value} {z3 : List (Nd × Value)} {r3 : Nat → Nat} {gl q j g : Nat} {c lv0 : Int} {tg0 : Bool} {t : List Nd} (hcc : kd l j = c) (hs : Sd M l i lv0 t j) (hgo : goes c lv0 tg0 p = true) (hT : T = go E l p g lv0 tg0 t j) (hg : l.length - j < g) (hzl : (z.map (·.1)).length + 2 * (l.length - i) ≤ 200000)
    (F9 : Fy w0 a l.length cap (X0 w0.heap.size) (w.heap.size + 1) v z r w j v3 z3 r3 W9) (P9 : Mb (X0 w0.heap.size) w0.heap.size w.heap.size #[.int .i64 p.l, .bool p.d, .bool p.i, .bool p.g, .bool p.s] 26 v3 z3 r3 W9) (L9 : Mb (X0 w0.heap.size) w0.heap.size gl #[.int .i64 lv0, .bool tg0] 87 v3 z3 r3 W9)
    (h : Res w0 a l.length cap (z.map (·.1)) (Xq w0.heap.size q) v3 z3 r3 W9 (pe.step E l c p t j) (.returned (.agg #[.int .i64 (lvR (pe.step E l c p t j)), .bool (tgR (pe.step E l c p t j))])) ww) (hq : w.heap.size ≤ q) (hq1 : w.heap.size + 1 ≠ q) (hq2 : gl ≠ q) (hq3 : w.heap.size ≠ q) (hgl : w.heap.size + 1 < gl) :
    RelEx w0 a cap M l E p i T v z r w gl ((ww.setCell ⟨gl, 0, none⟩ (.int .i64 (lvR (pe.step E l c p t j)))).setCell ⟨gl, 1, none⟩ (.bool (tgR (pe.step E l c p t j)))) ∧
    2 * (l.length - atOf w0.heap.size ((ww.setCell ⟨gl, 0, none⟩ (.int .i64 (lvR (pe.step E l c p t j)))).setCell ⟨gl, 1, none⟩ (.bool (tgR (pe.step E l c p t j))))) + lvOf gl ((ww.setCell ⟨gl, 0, none⟩ (.int .i64 (lvR (pe.step E l c p t j)))).setCell ⟨gl, 1, none⟩ (.bool (tgR (pe.step E l c p t j)))) < 2 * (l.length - j) + 1 ∧ Bk gl #[.int .i64 lv0, .bool tg0] 87 ww := by
  subst hcc
  obtain ⟨-, v5, z5, r5, s5, e5, m5⟩ := h
  obtain ⟨g, rfl⟩ : ∃ k, g = k + 1 := ⟨g - 1, by omega⟩
  obtain ⟨hw, hj1, hj2, hj3⟩ := way_next (z := z5) hOk hM hb hs hgo hT hg m5 hzl
  have F5 := F9.goq s5 e5 hq hq1
  have P5 := P9.extq e5 hq3
  have L5 := L9.extq e5 hq2
  generalize hR : pe.step E l (kd l j) p t j = RR at *
  have F6 := F5.own L5 (by omega) (by omega) 0 (.int .i64 (lvR RR))
  have L6 := L5.set 0 (.int .i64 (lvR RR))
  have F7 := F6.own L6 (by omega) (by omega) 1 (.bool (tgR RR))
  have L7 := L6.set 1 (.bool (tgR RR))
  have P7 := (P5.oth (by omega : w.heap.size ≠ gl) 0 (.int .i64 (lvR RR))).oth (by omega : w.heap.size ≠ gl) 1 (.bool (tgR RR))
  refine ⟨⟨_, _, _, v5, z5, r5, F7, P7, L7, hw⟩, ?_, L5.bk⟩
  rw [at_of F7.st, lv_of (lv := lvR RR) (tg := tgR RR) L7.bk]
  split
  · omega
  · next hne =>
    rcases hj3 with h3 | h3
    · exact absurd h3 hne
    · omega
set_option maxHeartbeats 6400000 in
theorem expr_step (hM : ∀ t ∈ l, t.s.size ≤ M) (hE : CallE w0 a cap l E i0) (hOk : ∀ p i, i ≤ l.length → Ok M l i (E p i)) (p : Ps) (w : World) (h0 : i0 ≤ i + 1) (hi : i ≤ l.length) (hl : l.length ≤ 50000) (hc : tk.Lies w0.heap.size w0 a l) (hz : z.length + 2 * (l.length - i) ≤ 200000) (hst : St w0 a l.length cap i v z r w) :
    Calls Tryz.prog 62 #[.pointer (some ⟨w0.heap.size, 0, none⟩), .agg #[.int .i64 p.l, .bool p.d, .bool p.i, .bool p.g, .bool p.s]] w (Res w0 a l.length cap (z.map (·.1)) (X0 w0.heap.size) v z r w (match first E l p i with | .bad j => .bad j | .ok lv tg t j => go E l p (l.length + 1) lv tg t j)) := by
  obtain ⟨W, hW⟩ : ∃ W, W = (w.alloc (.cells #[.int .i64 p.l, .bool p.d, .bool p.i, .bool p.g, .bool p.s] 26)).alloc (.cells #[.int .i64 0, .bool false] 87) := ⟨_, rfl⟩
  have hB : Below w.heap.size w W := by rw [hW]; exact ((Below.refl _ _).alloc (Nat.le_refl _) _).alloc (by simp) _
  have hPb : Bk w.heap.size #[.int .i64 p.l, .bool p.d, .bool p.i, .bool p.g, .bool p.s] 26 W := by rw [hW]; exact (Bk.new _ _ _).alloc _
  have hRb : Bk (w.heap.size + 1) #[.int .i64 0, .bool false] 87 W := by
    rw [hW]
    have := Bk.new (w.alloc (.cells #[.int .i64 p.l, .bool p.d, .bool p.i, .bool p.g, .bool p.s] 26)) #[.int .i64 0, .bool false] 87
    simpa using this
  have hlt := hst.lt
  have P0 := Lib.hid (Mb.new (X := X0 w0.heap.size) hst hPb (Nat.le_refl _) (by unfold X0; omega))
  have F0 := Lib.hid (show Fy w0 a l.length cap (X0 w0.heap.size) (w.heap.size + 1) v z r w i v z r W from ⟨hst.keep hB, Ext.of (Gr.quiet hB), Mb.new hst hRb (by omega) (by unfold X0; omega), by omega⟩)
  have HXB := Lib.hid (show X0 w0.heap.size w0.heap.size from rfl)
  have HC := Lib.hid hc
  have HL := Lib.hid hl
  have HI := Lib.hid hi
  have HZ := Lib.hid hz
  have HLT := Lib.hid hlt
  have HBW := Lib.hid hB.size
  have HFI := Lib.hid (first_any hE hOk p W h0 hi hl hc hz F0.out.st)
  have HFO := Lib.hid (first_ok (p := p) hOk hM (show l.length ≤ 100000 by omega) hi)
  obtain ⟨T, hT⟩ : ∃ T : R, T = (match first E l p i with | .bad j => R.bad j | .ok lv tg t j => go E l p (l.length + 1) lv tg t j) := ⟨_, rfl⟩
  have HT := Lib.hid hT
  rw [← hT]
  have HMM := Lib.hid hM
  have hzl : (z.map (·.1)).length = z.length := List.length_map ..
  have HZL := Lib.hid (show (z.map (·.1)).length + 2 * (l.length - i) ≤ 200000 by rw [hzl]; exact hz)
  obtain ⟨p0, p1, p2, p3, p4⟩ := P0.out.bk.c5
  rw [hW] at p0 p1 p2 p3 p4
  clear hT hst hB hPb hRb hz hi hl hc hlt hM hzl
  go_enter Tryz.func62, Tryz.ntmps62
  go_wp2_with fail
  rw [← hW]
  clear hW p0 p1 p2 p3 p4
  refine HFI.out.mono ?_
  rintro e w1 ⟨rfl, v1, z1, r1, s1, e1, m1⟩
  have hway := way_of (E := E) (p := p) (T := T) HFO.out m1 HT.out HZL.out
  obtain ⟨W2, hW2⟩ : ∃ W2, W2 = w1.alloc (.cells #[.int .i64 (lvR (first E l p i)), .bool (tgR (first E l p i))] 87) := ⟨_, rfl⟩
  have hb2 : Below w1.heap.size w1 W2 := by rw [hW2]; exact (Below.refl _ _).alloc (Nat.le_refl _) _
  have f1 := F0.out.go s1 e1
  have F2 := Lib.hid (f1.quiet hb2)
  have P2 := Lib.hid ((P0.out.ext e1).ext (Ext.of (Gr.quiet hb2)))
  have L2 := Lib.hid (show Mb (X0 w0.heap.size) w0.heap.size w1.heap.size #[.int .i64 (lvR (first E l p i)), .bool (tgR (first E l p i))] 87 v1 z1 r1 W2 from Mb.new s1 (by rw [hW2]; exact Bk.new _ _ _) (Nat.le_refl _) (by unfold X0; have := s1.lt; omega))
  have HWAY := Lib.hid hway
  have HGL := Lib.hid (show w.heap.size + 1 < w1.heap.size from (f1.rb.bk.lt))
  obtain ⟨gl, hgl⟩ : ∃ gl, gl = w1.heap.size := ⟨_, rfl⟩
  rw [← hgl] at L2 HGL
  clear s1 e1 m1 f1 hb2 hway
  go_wp2
  rw [← hW2, ← hgl]
  clear hW2 hgl
  go_loopw [7] (fun _ wr => RelEx w0 a cap M l E p i T v z r w gl wr) (fun _ wr => 2 * (l.length - atOf w0.heap.size wr) + lvOf gl wr)
  case atStart => exact ⟨_, _, _, _, _, _, F2.out, P2.out, L2.out, HWAY.out⟩
  case round =>
    obtain ⟨lv0, tg0, j, v3, z3, r3, f3, p3, l3, way⟩ := hrel
    have F3 := Lib.hid f3
    have P3 := Lib.hid p3
    have L3 := Lib.hid l3
    have HAT := Lib.hid (at_of f3.st)
    have HLV := Lib.hid (lv_of l3.bk)
    cases way with
    | fault _ _ hT hj =>
      have HE := Lib.hid hT
      clear f3 p3 l3 hT
      obtain ⟨o0, o1⟩ := L3.out.bk.c2
      obtain ⟨r0, r1⟩ := F3.out.rb.bk.c2
      have g0 := F3.out.rb.bk.f 0
      have g1 := F3.out.rb.bk.f 1
      go_wp2
      obtain ⟨t0, t1⟩ := (F3.out.rb.bk.put2 (.int .i64 0) (.bool false)).c2
      rw [HE.out]
      exact bodyPost_ret (v := .agg #[.int .i64 0, .bool false]) (by simp [results, Tryz.results62, go_sem, t0, t1]) rfl (F3.out.bad _ _ rfl)
    | on _ _ _ _ t g hs hm hT hg hz3 =>
      have hjl := hs.2.1
      have hlv1 := hs.2.2.1
      have hij := hs.1
      have q1 : (lv0 == 0) = false := by rw [beq_eq_false_iff_ne]; omega
      have q2 : (lv0 != 0) = true := by simp; omega
      have q3 : ¬ lv0 = 0 := by omega
      have HJ := Lib.hid hjl
      have HIJ := Lib.hid hij
      have HS := Lib.hid hs
      have HM3 := Lib.hid hm
      have HT3 := Lib.hid hT
      have HG := Lib.hid hg
      have HZ3 := Lib.hid hz3
      have HNX := Lib.hid (next_any wr f3.st HC.out (by have := HL.out; omega) hjl)
      have hfk := fld_k
      obtain ⟨c, hcc⟩ : ∃ c, kd l j = c := ⟨_, rfl⟩
      rw [hcc] at HNX
      have HCC := Lib.hid hcc
      have HST := Lib.hid (fun hgo => go_stop (E := E) (l := l) (p := p) (n := g) (lv := lv0) (tg := tg0) (t := t) (i := j) hgo (by omega))
      rw [hcc] at HST
      clear f3 p3 l3 hs hm hT hg hz3 hcc hjl hlv1 hij
      cases hft : ft (ctK c) (ctO c) p with
      | false =>
        have HFT := Lib.hid (show fits (ctK c) (ctO c) p.l p.d p.i p.g p.s = false from hft)
        have HSTP := Lib.hid (HST.out (by unfold goes; rw [hft]; rfl))
        clear hft hE hOk h0
        obtain ⟨o0, o1⟩ := L3.out.bk.c2
        go_wp2_with fail
        refine HNX.out.mono ?_
        rintro e w4 ⟨rfl, b4⟩
        have F4 := Lib.hid (F3.out.quiet b4)
        have P4 := Lib.hid (P3.out.ext (Ext.of (Gr.quiet b4)))
        have L4 := Lib.hid (L3.out.ext (Ext.of (Gr.quiet b4)))
        clear b4 o0 o1
        go_wp2_with fail
        refine (continued_any _ c _).mono ?_
        rintro e w5 ⟨u, rfl, b5, nr⟩
        obtain ⟨ak, nk, ck, hu⟩ : ∃ ak nk ck, u = .slice ak nk ck := by
          rcases nr with ⟨-, h⟩ | ⟨-, q, -, h, -⟩
          · exact ⟨_, _, _, h⟩
          · exact ⟨_, _, _, h⟩
        subst hu
        have F5 := Lib.hid (F4.out.quiet b5)
        have P5 := Lib.hid (P4.out.ext (Ext.of (Gr.quiet b5)))
        have L5 := Lib.hid (L4.out.ext (Ext.of (Gr.quiet b5)))
        have S4 := Lib.hid F4.out.st
        have NR := Lib.hid nr
        have HB5 := Lib.hid b5
        clear b5 nr
        have NB6 := Lib.hid (Bk.new w5 #[.int .i64 (ctK c), .int .i64 (ctO c), .string ⟨#[]⟩, .string ⟨#[]⟩, .slice ak nk ck] 60)
        have B6 := Lib.hid (show Below w5.heap.size w5 (w5.alloc (.cells #[.int .i64 (ctK c), .int .i64 (ctO c), .string ⟨#[]⟩, .string ⟨#[]⟩, .slice ak nk ck] 60)) from (Below.refl _ _).alloc (Nat.le_refl _) _)
        have F6 := Lib.hid (F5.out.quiet B6.out)
        have P6 := Lib.hid (P5.out.ext (Ext.of (Gr.quiet B6.out)))
        have L6 := Lib.hid (L5.out.ext (Ext.of (Gr.quiet B6.out)))
        have N6 := Lib.hid (show Mb (X0 w0.heap.size) w0.heap.size w5.heap.size _ _ v3 z3 r3 _ from Mb.new F5.out.st NB6.out (Nat.le_refl _) (by have := F5.out.st.lt; unfold X0; omega))
        obtain ⟨p0, p1, p2, p3, p4⟩ := P6.out.bk.c5
        obtain ⟨n0, n1, n2, n3, n4⟩ := NB6.out.c5
        go_wp2_with fail
        clear p0 p1 p2 p3 p4 n0 n1 n2 n3 n4
        refine (_root_.Go.Proofs.YtiilpnoaocfjgaaGreatDoor.ps.impl_fits (ctK c) (ctO c) p.l ⟨#[]⟩ ⟨#[]⟩ ak nk ck p.d p.i p.g p.s _).mono ?_
        rw [HFT.out]
        rintro e w7 ⟨rfl, b7⟩
        have F7 := Lib.hid (F6.out.quiet b7)
        have P7 := Lib.hid (P6.out.ext (Ext.of (Gr.quiet b7)))
        have L7 := Lib.hid (L6.out.ext (Ext.of (Gr.quiet b7)))
        have N7 := Lib.hid (N6.out.ext (Ext.of (Gr.quiet b7)))
        have HB7 := Lib.hid b7
        clear b7
        obtain ⟨o0, o1⟩ := L7.out.bk.c2
        obtain ⟨r0, r1⟩ := F7.out.rb.bk.c2
        have g0 := F7.out.rb.bk.f 0
        have g1 := F7.out.rb.bk.f 1
        go_wp2
        obtain ⟨t0, t1⟩ := (F7.out.rb.bk.put2 (.int .i64 lv0) (.bool tg0)).c2
        rw [HT3.out, HSTP.out]
        exact bodyPost_ret (v := .agg #[.int .i64 lv0, .bool tg0]) (by simp [results, Tryz.results62, go_sem, t0, t1]) rfl (F7.out.ok _ _ rfl HM3.out)
      | true =>
        have HFT := Lib.hid (show fits (ctK c) (ctO c) p.l p.d p.i p.g p.s = true from hft)
        have hk0 : ¬ ctK c = 0 := fun h => by have := fits_level hft; rw [h] at this; simp [lv.levelOf] at this
        have HKN := Lib.hid (show knC c = ctN c from if_neg hk0)
        cases hmy : may c lv0 tg0 p with
        | false =>
          have HMY := Lib.hid hmy
          have HSTP := Lib.hid (HST.out (by unfold goes; rw [hft, hmy]; rfl))
          clear hft hmy hk0 hE hOk h0
          obtain ⟨o0, o1⟩ := L3.out.bk.c2
          go_wp2_with fail
          refine HNX.out.mono ?_
          rintro e w4 ⟨rfl, b4⟩
          have F4 := Lib.hid (F3.out.quiet b4)
          have P4 := Lib.hid (P3.out.ext (Ext.of (Gr.quiet b4)))
          have L4 := Lib.hid (L3.out.ext (Ext.of (Gr.quiet b4)))
          clear b4 o0 o1
          go_wp2_with fail
          refine (continued_any _ c _).mono ?_
          rintro e w5 ⟨u, rfl, b5, nr⟩
          obtain ⟨ak, nk, ck, hu⟩ : ∃ ak nk ck, u = .slice ak nk ck := by
            rcases nr with ⟨-, h⟩ | ⟨-, q, -, h, -⟩
            · exact ⟨_, _, _, h⟩
            · exact ⟨_, _, _, h⟩
          subst hu
          have F5 := Lib.hid (F4.out.quiet b5)
          have P5 := Lib.hid (P4.out.ext (Ext.of (Gr.quiet b5)))
          have L5 := Lib.hid (L4.out.ext (Ext.of (Gr.quiet b5)))
          have S4 := Lib.hid F4.out.st
          have NR := Lib.hid nr
          have HB5 := Lib.hid b5
          clear b5 nr
          have NB6 := Lib.hid (Bk.new w5 #[.int .i64 (ctK c), .int .i64 (ctO c), .string ⟨#[]⟩, .string ⟨#[]⟩, .slice ak nk ck] 60)
          have B6 := Lib.hid (show Below w5.heap.size w5 (w5.alloc (.cells #[.int .i64 (ctK c), .int .i64 (ctO c), .string ⟨#[]⟩, .string ⟨#[]⟩, .slice ak nk ck] 60)) from (Below.refl _ _).alloc (Nat.le_refl _) _)
          have F6 := Lib.hid (F5.out.quiet B6.out)
          have P6 := Lib.hid (P5.out.ext (Ext.of (Gr.quiet B6.out)))
          have L6 := Lib.hid (L5.out.ext (Ext.of (Gr.quiet B6.out)))
          have N6 := Lib.hid (show Mb (X0 w0.heap.size) w0.heap.size w5.heap.size _ _ v3 z3 r3 _ from Mb.new F5.out.st NB6.out (Nat.le_refl _) (by have := F5.out.st.lt; unfold X0; omega))
          obtain ⟨p0, p1, p2, p3, p4⟩ := P6.out.bk.c5
          obtain ⟨n0, n1, n2, n3, n4⟩ := NB6.out.c5
          go_wp2_with fail
          clear p0 p1 p2 p3 p4 n0 n1 n2 n3 n4
          refine (_root_.Go.Proofs.YtiilpnoaocfjgaaGreatDoor.ps.impl_fits (ctK c) (ctO c) p.l ⟨#[]⟩ ⟨#[]⟩ ak nk ck p.d p.i p.g p.s _).mono ?_
          rw [HFT.out]
          rintro e w7 ⟨rfl, b7⟩
          have F7 := Lib.hid (F6.out.quiet b7)
          have P7 := Lib.hid (P6.out.ext (Ext.of (Gr.quiet b7)))
          have L7 := Lib.hid (L6.out.ext (Ext.of (Gr.quiet b7)))
          have N7 := Lib.hid (N6.out.ext (Ext.of (Gr.quiet b7)))
          have HB7 := Lib.hid b7
          clear b7
          obtain ⟨p0, p1, p2, p3, p4⟩ := P7.out.bk.c5
          obtain ⟨n0, n1, n2, n3, n4⟩ := N7.out.bk.c5
          obtain ⟨o0, o1⟩ := L7.out.bk.c2
          go_wp2_with fail
          clear p0 p1 p2 p3 p4 n0 n1 n2 n3 n4 o0 o1
          have hnk : nk = ctN c := by
            rcases NR.out with ⟨h, -⟩ | ⟨-, q, -, h, -⟩
            · exact absurd h (by rw [HKN.out]; unfold ctN; (repeat' split) <;> decide)
            · injection h with h1 h2 h3; rw [h2, HKN.out]
          refine (mbf_any lv0 tg0 c ak nk ck p hnk _).mono ?_
          rw [HMY.out]
          rintro e w8 ⟨rfl, b8⟩
          have F8 := Lib.hid (F7.out.quiet b8)
          have P8 := Lib.hid (P7.out.ext (Ext.of (Gr.quiet b8)))
          have L8 := Lib.hid (L7.out.ext (Ext.of (Gr.quiet b8)))
          have N8 := Lib.hid (N7.out.ext (Ext.of (Gr.quiet b8)))
          have HB8 := Lib.hid b8
          clear b8
          obtain ⟨o0, o1⟩ := L8.out.bk.c2
          obtain ⟨r0, r1⟩ := F8.out.rb.bk.c2
          have g0 := F8.out.rb.bk.f 0
          have g1 := F8.out.rb.bk.f 1
          go_wp2
          obtain ⟨t0, t1⟩ := (F8.out.rb.bk.put2 (.int .i64 lv0) (.bool tg0)).c2
          rw [HT3.out, HSTP.out]
          exact bodyPost_ret (v := .agg #[.int .i64 lv0, .bool tg0]) (by simp [results, Tryz.results62, go_sem, t0, t1]) rfl (F8.out.ok _ _ rfl HM3.out)
        | true =>
          have HMY := Lib.hid hmy
          have HGO := Lib.hid (show goes c lv0 tg0 p = true by unfold goes; rw [hft, hmy]; rfl)
          clear hft hmy
          obtain ⟨o0, o1⟩ := L3.out.bk.c2
          go_wp2_with fail
          refine HNX.out.mono ?_
          rintro e w4 ⟨rfl, b4⟩
          have F4 := Lib.hid (F3.out.quiet b4)
          have P4 := Lib.hid (P3.out.ext (Ext.of (Gr.quiet b4)))
          have L4 := Lib.hid (L3.out.ext (Ext.of (Gr.quiet b4)))
          clear b4 o0 o1
          go_wp2_with fail
          refine (continued_any _ c _).mono ?_
          rintro e w5 ⟨u, rfl, b5, nr⟩
          obtain ⟨ak, nk, ck, hu⟩ : ∃ ak nk ck, u = .slice ak nk ck := by
            rcases nr with ⟨-, h⟩ | ⟨-, q, -, h, -⟩
            · exact ⟨_, _, _, h⟩
            · exact ⟨_, _, _, h⟩
          subst hu
          have F5 := Lib.hid (F4.out.quiet b5)
          have P5 := Lib.hid (P4.out.ext (Ext.of (Gr.quiet b5)))
          have L5 := Lib.hid (L4.out.ext (Ext.of (Gr.quiet b5)))
          have S4 := Lib.hid F4.out.st
          have NR := Lib.hid nr
          have HB5 := Lib.hid b5
          clear b5 nr
          have NB6 := Lib.hid (Bk.new w5 #[.int .i64 (ctK c), .int .i64 (ctO c), .string ⟨#[]⟩, .string ⟨#[]⟩, .slice ak nk ck] 60)
          have B6 := Lib.hid (show Below w5.heap.size w5 (w5.alloc (.cells #[.int .i64 (ctK c), .int .i64 (ctO c), .string ⟨#[]⟩, .string ⟨#[]⟩, .slice ak nk ck] 60)) from (Below.refl _ _).alloc (Nat.le_refl _) _)
          have F6 := Lib.hid (F5.out.quiet B6.out)
          have P6 := Lib.hid (P5.out.ext (Ext.of (Gr.quiet B6.out)))
          have L6 := Lib.hid (L5.out.ext (Ext.of (Gr.quiet B6.out)))
          have N6 := Lib.hid (show Mb (X0 w0.heap.size) w0.heap.size w5.heap.size _ _ v3 z3 r3 _ from Mb.new F5.out.st NB6.out (Nat.le_refl _) (by have := F5.out.st.lt; unfold X0; omega))
          obtain ⟨p0, p1, p2, p3, p4⟩ := P6.out.bk.c5
          obtain ⟨n0, n1, n2, n3, n4⟩ := NB6.out.c5
          go_wp2_with fail
          clear p0 p1 p2 p3 p4 n0 n1 n2 n3 n4
          refine (_root_.Go.Proofs.YtiilpnoaocfjgaaGreatDoor.ps.impl_fits (ctK c) (ctO c) p.l ⟨#[]⟩ ⟨#[]⟩ ak nk ck p.d p.i p.g p.s _).mono ?_
          rw [HFT.out]
          rintro e w7 ⟨rfl, b7⟩
          have F7 := Lib.hid (F6.out.quiet b7)
          have P7 := Lib.hid (P6.out.ext (Ext.of (Gr.quiet b7)))
          have L7 := Lib.hid (L6.out.ext (Ext.of (Gr.quiet b7)))
          have N7 := Lib.hid (N6.out.ext (Ext.of (Gr.quiet b7)))
          have HB7 := Lib.hid b7
          clear b7
          obtain ⟨p0, p1, p2, p3, p4⟩ := P7.out.bk.c5
          obtain ⟨n0, n1, n2, n3, n4⟩ := N7.out.bk.c5
          obtain ⟨o0, o1⟩ := L7.out.bk.c2
          go_wp2_with fail
          clear p0 p1 p2 p3 p4 n0 n1 n2 n3 n4 o0 o1
          have hnk : nk = ctN c := by
            rcases NR.out with ⟨h, -⟩ | ⟨-, q, -, h, -⟩
            · exact absurd h (by rw [HKN.out]; unfold ctN; (repeat' split) <;> decide)
            · injection h with h1 h2 h3; rw [h2, HKN.out]
          refine (mbf_any lv0 tg0 c ak nk ck p hnk _).mono ?_
          rw [HMY.out]
          rintro e w8 ⟨rfl, b8⟩
          have F8 := Lib.hid (F7.out.quiet b8)
          have P8 := Lib.hid (P7.out.ext (Ext.of (Gr.quiet b8)))
          have L8 := Lib.hid (L7.out.ext (Ext.of (Gr.quiet b8)))
          have N8 := Lib.hid (N7.out.ext (Ext.of (Gr.quiet b8)))
          have HB8 := Lib.hid b8
          clear b8
          rcases NR.out with ⟨h, -⟩ | ⟨-, q, hq1, hq2, ib⟩
          · exact absurd h (by rw [HKN.out]; unfold ctN; (repeat' split) <;> decide)
          obtain ⟨mm, hmm⟩ : ∃ mm, ctN c = mm + 1 := ⟨ctN c - 1, by unfold ctN; (repeat' split) <;> rfl⟩
          rw [HKN.out, hmm] at hq2 ib
          injection hq2 with hq2 hq3 hq4
          subst hq2; subst hq3; subst hq4
          have HMM1 := Lib.hid hmm
          have hmm3 : mm ≤ 2 := by have : ctN c ≤ 3 := by unfold ctN; (repeat' split) <;> decide
                                   omega
          have HM2 := Lib.hid hmm3
          have HQ1 := Lib.hid hq1
          have HQ5 := Lib.hid ib.lt
          have hq8 : q < w8.heap.size := Nat.lt_of_lt_of_le ib.lt (Nat.le_trans B6.out.size (Nat.le_trans HB7.out.size HB8.out.size))
          have HQ8 := Lib.hid hq8
          have ib8 : IBlk w8 q (mm + 1) (zs (mm + 1)) := ((ib.of_block (B6.out.block _ ib.lt)).of_block (HB7.out.block _ (Nat.lt_of_lt_of_le ib.lt B6.out.size))).of_block (HB8.out.block _ (Nat.lt_of_lt_of_le ib.lt (Nat.le_trans B6.out.size HB7.out.size)))
          have IB8 := Lib.hid ib8
          have hz0 : 0 < z3.length := by
            have h2 := congrArg List.length HM3.out
            simp only [List.length_map, List.length_append] at h2
            have := HS.out.2.2.2.2.1
            omega
          have HROOT := Lib.hid (fun W2 (s9 : St w0 a l.length cap j v3 z3 r3 W2) => root_any W2 s9 hz0 (by have := HZ3.out; omega))
          obtain ⟨ZV, hZV⟩ : ∃ ZV, ZV = ((z3.length : Int) - 1) := ⟨_, rfl⟩
          rw [← hZV] at HROOT
          have HKS := Lib.hid (show (zs (mm + 1)).set 0 ZV = G2 (z.map (·.1)).length [t] ++ zs mm by
            have h1 := kid_set (z.map (·.1)).length [] t mm (by have := HZL.out; have := HS.out.2.2.2.1; have := HL.out; have := HS.out.1; have := HJ.out; simp only [nd.sumL]; omega)
            rw [G2_nil, List.nil_append, List.nil_append] at h1
            rw [← h1, hZV]
            have h2 : z3.length = (z.map (·.1)).length + (G1 (z.map (·.1)).length [t]).length := by
              rw [G_one]
              have := congrArg List.length HM3.out
              simpa using this
            rw [h2]
            rfl)
          obtain ⟨n0, n1, n2, n3, n4⟩ := N8.out.bk.c5
          have d0 := ib8.at 0 (by simp [zs])
          have d1 := ib8.frozen 0
          have hd : (zs (mm + 1))[0]'(by simp [zs]) = 0 := by simp [zs]
          rw [hd] at d0
          have hmi : (0 : Int) < ((mm : Int) + 1) := by omega
          have hmn : 0 < mm + 1 := by omega
          clear hz0 hZV hq1 hq8 ib ib8 hnk hk0 hd hmm hmm3
          go_wp2
          go_region_law (first | (go_simp; go_at_call 117; refine (HROOT.out _ (by first | exact F8.out.st | exact F8.out.st.drew)).mono ?_; rintro e w9 ⟨rfl, rfl⟩))
          all_goals
            clear n0 n1 n2 n3 n4 d0 d1
            have hqb : w0.heap.size < q := by have := F4.out.st.lt; have := HQ1.out; omega
            have hqv : v3.ownBlock ≠ some q := fun e => F4.out.st.new (Nat.le_of_lt HQ1.out) e.symm
            have hqr : ∀ k, k < z3.length → r3 k ≠ q := fun k hk => by have := F4.out.st.own.lt k hk; have := HQ1.out; omega
            obtain ⟨W9, hW9⟩ : ∃ W9, W9 = w8.drew.setCell ⟨q, 0, none⟩ (.int .i64 ZV) := ⟨_, rfl⟩
            have hs9 : St w0 a l.length cap j v3 z3 r3 W9 := by rw [hW9]; exact F8.out.st.drew.oset (by omega) (fun e => hqv e.symm) hqr (Nat.le_of_lt hqb) 0 _
            have he9 : Ext (Xq w0.heap.size q) v3 z3 r3 w8 v3 z3 r3 W9 := by rw [hW9]; exact Ext.of (Gr.set (X := Xq w0.heap.size q) (Gr.quiet ((Below.refl _ w8).drew)) (.inl (show Xq w0.heap.size q q from Or.inr rfl)) 0 _)
            have hws : w.heap.size + 1 < q := Nat.lt_trans F4.out.rb.bk.lt HQ1.out
            have HWS := Lib.hid hws
            have HGQ := Lib.hid (show gl < q from Nat.lt_trans L4.out.bk.lt HQ1.out)
            have HNQ := Lib.hid (show w5.heap.size ≠ q by have := HQ5.out; omega)
            have F9 := Lib.hid (F8.out.goq hs9 he9 (by omega) (by omega))
            have P9 := Lib.hid (P8.out.extq he9 (by omega))
            have L9 := Lib.hid (L8.out.extq he9 (by have := HGQ.out; omega))
            have N9 := Lib.hid (N8.out.extq he9 HNQ.out)
            have HQ9 := Lib.hid (show q < W9.heap.size by rw [hW9]; simpa using HQ8.out)
            have X9 := Lib.hid (show Rw w0.heap.size q (.slice (some ⟨q, 0, none⟩) (mm + 1) (mm + 1)) (G2 (z.map (·.1)).length [t] ++ zs mm) v3 z3 r3 W9 from .inr ⟨.inr ⟨mm + 1, by rw [← HKS.out]; simp [zs], by rw [← HKS.out, hW9]; exact (IB8.out.of_block (w' := w8.drew) rfl).set 0 ZV, by omega, by have := HM2.out; unfold maxLen; omega⟩, HQ9.out, hqr, hqv, hqb⟩)
            first | rw [← hW9] | rw [show (w8.setCell ⟨q, 0, none⟩ (.int .i64 ZV)).drew = w8.drew.setCell ⟨q, 0, none⟩ (.int .i64 ZV) from rfl, ← hW9]
            clear hW9 hs9 he9 hws hqb hqv hqr
            have HM9 := Lib.hid (show z3.map (·.1) = z.map (·.1) ++ G1 (z.map (·.1)).length [t] by rw [G_one]; exact HM3.out)
            -- what comes behind the method's call
            have HNEXT := Lib.hid (fun (ww : World) (h : Res w0 a l.length cap (z.map (·.1)) (Xq w0.heap.size q) v3 z3 r3 W9 (pe.step E l c p t j) (.returned (.agg #[.int .i64 (lvR (pe.step E l c p t j)), .bool (tgR (pe.step E l c p t j))])) ww) => expr_next hOk HMM.out (show l.length ≤ 100000 by have := HL.out; omega) HCC.out HS.out HGO.out HT3.out HG.out HZL.out F9.out P9.out L9.out h (by have := HWS.out; omega) (by have := HWS.out; omega) (by have := HGQ.out; omega) (by have := HWS.out; omega) HGL.out)
            rcases cls c with h | h | h | h | h | h | ⟨h, -⟩
            · have e1 : ctK c = 15 := (asg_c h).1
              have e2 : ctO c = c := (asg_c h).2.1
              have e3 : mm = 1 := by have := HMM1.out; rw [(asg_c h).2.2] at this; omega
              have HR := Lib.hid (show pe.step E l c p t j = rd2 E 15 c p t (behind l c j) by unfold pe.step; rw [if_pos h])
              have hlt := kd_lt (l := l) (i := j) (by rw [HCC.out]; intro hh; rw [hh] at h; exact absurd h (by decide))
              have X10 := X9.out
              rw [show mm = 1 from e3] at X10
              rw [show rdC (.pointer (some ⟨w0.heap.size, 0, none⟩)) c = .func (.func 184) #[.pointer (some ⟨w0.heap.size, 0, none⟩)] #[] from if_pos h]
              have N10 : Mb (X0 w0.heap.size) w0.heap.size w5.heap.size #[.int .i64 15, .int .i64 c, .string ⟨#[]⟩, .string ⟨#[]⟩, .slice (some ⟨q, 0, none⟩) 2 2] 60 v3 z3 r3 W9 := by have h := N9.out; rw [e1, e2, e3] at h; exact h
              obtain ⟨n0, n1, n2, n3, n4⟩ := N10.bk.c5
              obtain ⟨p0, p1, p2, p3, p4⟩ := P9.out.bk.c5
              obtain ⟨o0, o1⟩ := L9.out.bk.c2
              have og0 := L9.out.bk.f 0
              have og1 := L9.out.bk.f 1
              clear N10
              go_wp2_with fail
              clear n0 n1 n2 n3 n4 p0 p1 p2 p3 p4 o0 o1 og0 og1
              refine (binary_any hE hOk 15 c ⟨#[]⟩ rfl t (by have := HIJ.out; omega) (z.map (·.1)) (.slice (some ⟨q, 0, none⟩) 2 2) q p _ hlt HL.out HC.out HZ3.out F9.out.st HQ9.out X10 HM9.out).mono ?_
              rintro e w10 h10
              rw [← HR.out] at h10
              obtain ⟨rfl, hv10⟩ := id h10
              obtain ⟨hrel9, hms9, hL10⟩ := HNEXT.out w10 h10
              obtain ⟨o0, o1⟩ := hL10.c2
              have og0 := hL10.f 0
              have og1 := hL10.f 1
              clear h10 hv10
              go_wp2
              go_roundw
              case rel => exact hrel9
              case measure => rw [HAT.out, HLV.out, if_neg q3]; exact hms9
            · have e1 : ctK c = 10 := (inc_c h).1
              have e2 : ctO c = c := (inc_c h).2.1
              have e3 : mm = 0 := by have := HMM1.out; rw [(inc_c h).2.2] at this; omega
              have hA : isAsg c = false := by rcases inc_vals h with rfl | rfl <;> rfl
              have HR := Lib.hid (show pe.step E l c p t j = fin 10 c ⟨#[]⟩ [t] (j + 1) by unfold pe.step; rw [if_neg (by rw [hA]; decide), if_pos h])
              have hlt := kd_lt (l := l) (i := j) (by rw [HCC.out]; intro hh; rw [hh] at h; exact absurd h (by decide))
              have X10 := X9.out
              rw [show mm = 0 from e3] at X10
              have X11 : Rw w0.heap.size q (.slice (some ⟨q, 0, none⟩) 1 1) (G2 (z.map (·.1)).length [t]) v3 z3 r3 W9 := by simpa [zs] using X10
              rw [show rdC (.pointer (some ⟨w0.heap.size, 0, none⟩)) c = .func (.func 185) #[.pointer (some ⟨w0.heap.size, 0, none⟩)] #[] from by unfold rdC; rw [if_neg (by rw [hA]; decide), if_pos h]]
              have N10 : Mb (X0 w0.heap.size) w0.heap.size w5.heap.size #[.int .i64 10, .int .i64 c, .string ⟨#[]⟩, .string ⟨#[]⟩, .slice (some ⟨q, 0, none⟩) 1 1] 60 v3 z3 r3 W9 := by have h := N9.out; rw [e1, e2, e3] at h; exact h
              obtain ⟨n0, n1, n2, n3, n4⟩ := N10.bk.c5
              obtain ⟨p0, p1, p2, p3, p4⟩ := P9.out.bk.c5
              obtain ⟨o0, o1⟩ := L9.out.bk.c2
              have og0 := L9.out.bk.f 0
              have og1 := L9.out.bk.f 1
              clear N10
              go_wp2_with fail
              clear n0 n1 n2 n3 n4 p0 p1 p2 p3 p4 o0 o1 og0 og1
              refine (post_any c ⟨#[]⟩ rfl (z.map (·.1)) [t] (.slice (some ⟨q, 0, none⟩) 1 1) q p _ hlt HL.out HC.out HZ3.out F9.out.st HQ9.out X11 HM9.out).mono ?_
              rintro e w10 h10
              rw [← HR.out] at h10
              obtain ⟨rfl, hv10⟩ := id h10
              obtain ⟨hrel9, hms9, hL10⟩ := HNEXT.out w10 h10
              obtain ⟨o0, o1⟩ := hL10.c2
              have og0 := hL10.f 0
              have og1 := hL10.f 1
              clear h10 hv10
              go_wp2
              go_roundw
              case rel => exact hrel9
              case measure => rw [HAT.out, HLV.out, if_neg q3]; exact hms9
            · subst h
              have e1 : ctK 65 = 14 := rfl
              have e2 : ctO 65 = 0 := rfl
              have e3 : mm = 2 := by have := HMM1.out; rw [show ctN 65 = 3 from rfl] at this; omega
              have HR := Lib.hid (show pe.step E l 65 p t j = pe.cond E l p t j from rfl)
              have hlt := kd_lt (l := l) (i := j) (by rw [HCC.out]; decide)
              have X10 := X9.out
              rw [show mm = 2 from e3] at X10
              rw [show rdC (.pointer (some ⟨w0.heap.size, 0, none⟩)) 65 = .func (.func 186) #[.pointer (some ⟨w0.heap.size, 0, none⟩)] #[] from rfl]
              have N10 : Mb (X0 w0.heap.size) w0.heap.size w5.heap.size #[.int .i64 14, .int .i64 0, .string ⟨#[]⟩, .string ⟨#[]⟩, .slice (some ⟨q, 0, none⟩) 3 3] 60 v3 z3 r3 W9 := by have h := N9.out; rw [e1, e2, e3] at h; exact h
              obtain ⟨n0, n1, n2, n3, n4⟩ := N10.bk.c5
              obtain ⟨p0, p1, p2, p3, p4⟩ := P9.out.bk.c5
              obtain ⟨o0, o1⟩ := L9.out.bk.c2
              have og0 := L9.out.bk.f 0
              have og1 := L9.out.bk.f 1
              clear N10
              go_wp2_with fail
              clear n0 n1 n2 n3 n4 p0 p1 p2 p3 p4 o0 o1 og0 og1
              refine (cond_any hE hOk ⟨#[]⟩ rfl t (by have := HIJ.out; omega) (z.map (·.1)) (.slice (some ⟨q, 0, none⟩) 3 3) q p _ hlt HL.out HC.out HZ3.out F9.out.st HQ9.out X10 HM9.out).mono ?_
              rintro e w10 h10
              rw [← HR.out] at h10
              obtain ⟨rfl, hv10⟩ := id h10
              obtain ⟨hrel9, hms9, hL10⟩ := HNEXT.out w10 h10
              obtain ⟨o0, o1⟩ := hL10.c2
              have og0 := hL10.f 0
              have og1 := hL10.f 1
              clear h10 hv10
              go_wp2
              go_roundw
              case rel => exact hrel9
              case measure => rw [HAT.out, HLV.out, if_neg q3]; exact hms9
            · subst h
              have e1 : ctK 24 = 13 := rfl
              have e2 : ctO 24 = 0 := rfl
              have e3 : mm = 0 := by have := HMM1.out; rw [show ctN 24 = 1 from rfl] at this; omega
              have HR := Lib.hid (show pe.step E l 24 p t j = inn l [t] j from rfl)
              have X10 := X9.out
              rw [show mm = 0 from e3] at X10
              have X11 : Rw w0.heap.size q (.slice (some ⟨q, 0, none⟩) 1 1) (G2 (z.map (·.1)).length [t]) v3 z3 r3 W9 := by simpa [zs] using X10
              rw [show rdC (.pointer (some ⟨w0.heap.size, 0, none⟩)) 24 = .func (.func 187) #[.pointer (some ⟨w0.heap.size, 0, none⟩)] #[] from rfl]
              have N10 : Mb (X0 w0.heap.size) w0.heap.size w5.heap.size #[.int .i64 13, .int .i64 0, .string ⟨#[]⟩, .string ⟨#[]⟩, .slice (some ⟨q, 0, none⟩) 1 1] 60 v3 z3 r3 W9 := by have h := N9.out; rw [e1, e2, e3] at h; exact h
              obtain ⟨n0, n1, n2, n3, n4⟩ := N10.bk.c5
              obtain ⟨p0, p1, p2, p3, p4⟩ := P9.out.bk.c5
              obtain ⟨o0, o1⟩ := L9.out.bk.c2
              have og0 := L9.out.bk.f 0
              have og1 := L9.out.bk.f 1
              clear N10
              go_wp2_with fail
              clear n0 n1 n2 n3 n4 p0 p1 p2 p3 p4 o0 o1 og0 og1
              refine (in_any ⟨#[]⟩ (z.map (·.1)) [t] (.slice (some ⟨q, 0, none⟩) 1 1) q p _ HJ.out HL.out HC.out HZ3.out F9.out.st HQ9.out X11 HM9.out).mono ?_
              rintro e w10 h10
              rw [← HR.out] at h10
              obtain ⟨rfl, hv10⟩ := id h10
              obtain ⟨hrel9, hms9, hL10⟩ := HNEXT.out w10 h10
              obtain ⟨o0, o1⟩ := hL10.c2
              have og0 := hL10.f 0
              have og1 := hL10.f 1
              clear h10 hv10
              go_wp2
              go_roundw
              case rel => exact hrel9
              case measure => rw [HAT.out, HLV.out, if_neg q3]; exact hms9
            · have e1 : ctK c = 12 := (beg_c h).1
              have e2 : ctO c = 99 := (beg_c h).2.1
              have e3 : mm = 1 := by have := HMM1.out; rw [(beg_c h).2.2.1] at this; omega
              have hvs := beg_vals h
              have hA : isAsg c = false := by rcases hvs with rfl | rfl | rfl | rfl | rfl | rfl | rfl <;> rfl
              have hI : isInc c = false := by rcases hvs with rfl | rfl | rfl | rfl | rfl | rfl | rfl <;> rfl
              have HR := Lib.hid (show pe.step E l c p t j = rd2 E 12 99 p t j by unfold pe.step; rw [if_neg (by rw [hA]; decide), if_neg (by rw [hI]; decide), if_neg (by omega), if_neg (by omega), if_pos h])
              have X10 := X9.out
              rw [show mm = 1 from e3] at X10
              rw [show rdC (.pointer (some ⟨w0.heap.size, 0, none⟩)) c = .func (.func 188) #[.pointer (some ⟨w0.heap.size, 0, none⟩)] #[] from by unfold rdC; rw [if_neg (by rw [hA]; decide), if_neg (by rw [hI]; decide), if_neg (by omega), if_neg (by omega), if_pos h]]
              have N10 : Mb (X0 w0.heap.size) w0.heap.size w5.heap.size #[.int .i64 12, .int .i64 99, .string ⟨#[]⟩, .string ⟨#[]⟩, .slice (some ⟨q, 0, none⟩) 2 2] 60 v3 z3 r3 W9 := by have h := N9.out; rw [e1, e2, e3] at h; exact h
              obtain ⟨n0, n1, n2, n3, n4⟩ := N10.bk.c5
              obtain ⟨p0, p1, p2, p3, p4⟩ := P9.out.bk.c5
              obtain ⟨o0, o1⟩ := L9.out.bk.c2
              have og0 := L9.out.bk.f 0
              have og1 := L9.out.bk.f 1
              clear N10
              go_wp2_with fail
              clear n0 n1 n2 n3 n4 p0 p1 p2 p3 p4 o0 o1 og0 og1
              refine (cat_any hE hOk 12 99 ⟨#[]⟩ rfl t (by have := HIJ.out; omega) (z.map (·.1)) (.slice (some ⟨q, 0, none⟩) 2 2) q p _ HJ.out HL.out HC.out HZ3.out F9.out.st HQ9.out X10 HM9.out).mono ?_
              rintro e w10 h10
              rw [← HR.out] at h10
              obtain ⟨rfl, hv10⟩ := id h10
              obtain ⟨hrel9, hms9, hL10⟩ := HNEXT.out w10 h10
              obtain ⟨o0, o1⟩ := hL10.c2
              have og0 := hL10.f 0
              have og1 := hL10.f 1
              clear h10 hv10
              go_wp2
              go_roundw
              case rel => exact hrel9
              case measure => rw [HAT.out, HLV.out, if_neg q3]; exact hms9
            · have e1 : ctK c = 12 := (op_c h).1
              have e2 : ctO c = c := (op_c h).2.1
              have e3 : mm = 1 := by have := HMM1.out; rw [(op_c h).2.2] at this; omega
              have hvs := op_vals h
              have hA : isAsg c = false := by rcases hvs with rfl | rfl | rfl | rfl | rfl | rfl | rfl | rfl | rfl | rfl | rfl | rfl | rfl | rfl | rfl | rfl | rfl <;> rfl
              have hI : isInc c = false := by rcases hvs with rfl | rfl | rfl | rfl | rfl | rfl | rfl | rfl | rfl | rfl | rfl | rfl | rfl | rfl | rfl | rfl | rfl <;> rfl
              have hBg : operand.begins c = false := by rcases hvs with rfl | rfl | rfl | rfl | rfl | rfl | rfl | rfl | rfl | rfl | rfl | rfl | rfl | rfl | rfl | rfl | rfl <;> rfl
              have HR := Lib.hid (show pe.step E l c p t j = rd2 E 12 c p t (behind l c j) by unfold pe.step; rw [if_neg (by rw [hA]; decide), if_neg (by rw [hI]; decide), if_neg (by omega), if_neg (by omega), if_neg (by rw [hBg]; decide)])
              have hlt := kd_lt (l := l) (i := j) (by rw [HCC.out]; omega)
              have X10 := X9.out
              rw [show mm = 1 from e3] at X10
              rw [show rdC (.pointer (some ⟨w0.heap.size, 0, none⟩)) c = .func (.func 184) #[.pointer (some ⟨w0.heap.size, 0, none⟩)] #[] from by unfold rdC; rw [if_neg (by rw [hA]; decide), if_neg (by rw [hI]; decide), if_neg (by omega), if_neg (by omega), if_neg (by rw [hBg]; decide), if_pos h]]
              have N10 : Mb (X0 w0.heap.size) w0.heap.size w5.heap.size #[.int .i64 12, .int .i64 c, .string ⟨#[]⟩, .string ⟨#[]⟩, .slice (some ⟨q, 0, none⟩) 2 2] 60 v3 z3 r3 W9 := by have h := N9.out; rw [e1, e2, e3] at h; exact h
              obtain ⟨n0, n1, n2, n3, n4⟩ := N10.bk.c5
              obtain ⟨p0, p1, p2, p3, p4⟩ := P9.out.bk.c5
              obtain ⟨o0, o1⟩ := L9.out.bk.c2
              have og0 := L9.out.bk.f 0
              have og1 := L9.out.bk.f 1
              clear N10
              go_wp2_with fail
              clear n0 n1 n2 n3 n4 p0 p1 p2 p3 p4 o0 o1 og0 og1
              refine (binary_any hE hOk 12 c ⟨#[]⟩ rfl t (by have := HIJ.out; omega) (z.map (·.1)) (.slice (some ⟨q, 0, none⟩) 2 2) q p _ hlt HL.out HC.out HZ3.out F9.out.st HQ9.out X10 HM9.out).mono ?_
              rintro e w10 h10
              rw [← HR.out] at h10
              obtain ⟨rfl, hv10⟩ := id h10
              obtain ⟨hrel9, hms9, hL10⟩ := HNEXT.out w10 h10
              obtain ⟨o0, o1⟩ := hL10.c2
              have og0 := hL10.f 0
              have og1 := hL10.f 1
              clear h10 hv10
              go_wp2
              go_roundw
              case rel => exact hrel9
              case measure => rw [HAT.out, HLV.out, if_neg q3]; exact hms9
            · exact absurd (show ft (ctK c) (ctO c) p = true from HFT.out) (by rw [h]; unfold ft fits; rw [show lv.levelOf 0 (ctO c) = 0 from by simp [lv.levelOf]]; simp)

/-- expr, whatever it is asked: by the fuel. -/
theorem expr_all (hM : ∀ t ∈ l, t.s.size ≤ M) (hl : l.length ≤ 50000) (hc : tk.Lies w0.heap.size w0 a l) : ∀ f i0, l.length - i0 < f → CallE w0 a cap l (ex l f) i0 := by
  intro f
  induction f with
  | zero => intro i0 h; omega
  | succ f ih =>
    intro i0 h p i v z r w hi0 hi hz hst
    have hE : CallE w0 a cap l (ex l f) (i + 1) := by
      rcases Nat.lt_or_ge i l.length with h1 | h1
      · exact ih (i + 1) (by omega)
      · intro p' i' v' z' r' w' h2 h3; omega
    exact expr_step hM hE (ex_ok hM (by omega) f) p w (Nat.le_refl _) hi hl hc hz hst
end
end Go.Proofs.YtiilpnoaocfjgaaGreatDoor.pr

namespace Go.Proofs.YtiilpnoaocfjgaaGreatDoor.pb
open Go.ChangeShapes Go.WideShapes Go.ChangeAt Go.RowKit
open tk
set_option linter.unusedVariables false
set_option linter.unusedSimpArgs false
set_option maxRecDepth 20000

def nxt (k : Int) (d : Nat) : Nat := if opB k = true then d + 1 else if clB k = true then d - 1 else d
def nestF : List Tk → Nat → Nat → Int
  | [], _, _ => -1
  | t :: r, d, i => if 40 < nxt t.k d then (i : Int) else nestF r (nxt t.k d) (i + 1)
def nestOf (l : List Tk) : Int := nestF l 0 0
theorem nest_end (l : List Tk) (d i : Nat) : nestF (l.drop l.length) d i = -1 := by rw [List.drop_length]; rfl
theorem nest_hit {l : List Tk} {d I : Nat} (h : I < l.length) (h1 : 40 < nxt l[I].k d) : nestF (l.drop I) d I = (I : Int) := by
  rw [List.drop_eq_getElem_cons h]
  unfold nestF
  rw [if_pos h1]
theorem nest_on {l : List Tk} {d I : Nat} (h : I < l.length) (h1 : ¬ 40 < nxt l[I].k d) : nestF (l.drop I) d I = nestF (l.drop (I + 1)) (nxt l[I].k d) (I + 1) := by
  rw [List.drop_eq_getElem_cons h]
  conv => lhs; unfold nestF
  rw [if_neg h1]
theorem nestF_range : ∀ (l : List Tk) (d i : Nat), nestF l d i = -1 ∨ ((i : Int) ≤ nestF l d i ∧ nestF l d i < (i : Int) + l.length) := by
  intro l
  induction l with
  | nil => intro d i; exact .inl rfl
  | cons t r ih =>
    intro d i
    unfold nestF
    split
    · exact .inr ⟨by omega, by simp; omega⟩
    · rcases ih (nxt t.k d) (i + 1) with h | h
      · exact .inl h
      · exact .inr ⟨by omega, by simp; omega⟩
theorem nestOf_range (l : List Tk) : nestOf l = -1 ∨ (0 ≤ nestOf l ∧ nestOf l < l.length) := by
  have := nestF_range l 0 0
  unfold nestOf
  omega

def RelNe (w : World) (l : List Tk) (d i : Value) (wr : World) : Prop :=
  ∃ (I D : Nat), I ≤ l.length ∧ i = .int .i64 (I : Int) ∧ d = .int .i64 (D : Int) ∧ D ≤ 40 ∧ nestF (l.drop I) D I = nestOf l ∧ Below w.heap.size w wr

set_option maxHeartbeats 1600000 in
theorem spec_nestOf (l : List Tk) (a : Option Addr) (cap : Nat) (w : World) (hn : l.length ≤ 1048576) (hc : Lies w.heap.size w a l) :
    Calls Tryz.prog 30 #[.slice a l.length cap] w fun e w' => e = .returned (.int .i64 (nestOf l)) ∧ Below w.heap.size w w' := by
  have HC := Lib.hid hc
  clear hc
  obtain ⟨n, hln⟩ : ∃ n, n = l.length := ⟨_, rfl⟩
  have HLN := Lib.hid hln
  rw [← hln]
  rw [← hln] at hn
  clear hln
  go_enter Tryz.func30, Tryz.ntmps30
  go_wp2
  go_loopw [3, 4] (fun d i wr => RelNe w l d i wr) (fun _ i _ => n - (intOf i).toNat)
  case atStart => exact ⟨0, 0, by omega, rfl, rfl, by omega, rfl, Below.refl _ _⟩
  case round =>
    obtain ⟨I, D, hI, rfl, rfl, hD1, hbr, hbel⟩ := hrel
    have HB := Lib.hid hbel
    have HBR := Lib.hid hbr
    rw [← HLN.out] at hI
    clear hbel hbr
    by_cases hlt : I < n
    · have hltl : I < l.length := by have := HLN.out; omega
      obtain ⟨b, o, rfl, hb, hcell⟩ := lies_at HC.out hltl
      obtain ⟨c0, c1, c2⟩ := (hcell I hltl).keep HB.out hb
      have HIT := Lib.hid (fun h1 => nest_hit (d := D) hltl h1)
      have HON := Lib.hid (fun h1 => nest_on (d := D) hltl h1)
      obtain ⟨t, ht⟩ : ∃ t, t = l[I] := ⟨_, rfl⟩
      rw [← ht] at c0 c1 c2 HIT HON
      clear hcell ht
      have hi1 : (I : Int) < (n : Int) := by omega
      obtain ⟨X, hX⟩ : ∃ X, nxt t.k D = X := ⟨_, rfl⟩
      rw [hX] at HIT HON
      rw [HBR.out] at HIT HON
      have HREL := Lib.hid (show ¬ 40 < X → ∀ wr', Below w.heap.size w wr' → RelNe w l (.int .i64 (X : Int)) (.int .i64 ((I : Int) + 1)) wr' from fun h wr' hb' => ⟨I + 1, X, by have := HLN.out; omega, by go_num, rfl, by omega, (HON.out h).symm, hb'⟩)
      obtain ⟨C, hC⟩ : ∃ C, clB t.k = C := ⟨_, rfl⟩
      obtain ⟨O, hO⟩ : ∃ O, opB t.k = O := ⟨_, rfl⟩
      have hboth := @both t.k
      have hnest : nest t.k = if O = true then 1 else if C = true then -1 else 0 := by unfold nest; rw [hC, hO]
      unfold nxt at hX
      rw [hC, hO] at hX hboth
      have HCC := Lib.hid hC
      have HOO := Lib.hid hO
      have HNN := Lib.hid hnest
      clear hC hO hnest
      cases O <;> cases C
      case true.true => exact absurd (hboth rfl) (by decide)
      all_goals
        simp only [if_pos, if_neg, reduceIte, Bool.false_eq_true] at hX HNN
        clear hboth
      · subst hX
        by_cases hbig : 40 < D
        · exact absurd hbig (by omega)
        have HR := Lib.hid (HREL.out hbig _ (HB.out))
        have m0 : max (D : Int) 0 = (D : Int) := by omega
        have m1 : ¬ (40 : Int) < (D : Int) := by omega
        have m2 : max ((D : Int) + 0) 0 = (D : Int) := by omega
        clear hbig
        go_wp2_with (first | (go_at_call 88; refine (spec_close _ _).mono ?_; rw [HCC.out]; rintro e w' ⟨rfl, rfl⟩) | (go_at_call 89; refine (spec_open _ _).mono ?_; rw [HOO.out]; rintro e w' ⟨rfl, rfl⟩))
        go_roundw
        case rel => first | exact HR.out | (rw [show (if 0 < D then (D : Int) else 0) = (D : Int) by split <;> omega]; exact HR.out) | (rw [show (D : Int) + 1 + -1 = (D : Int) by omega]; exact HR.out)
        case measure => simp [intOf]; omega
      · cases D with
        | zero =>
          subst hX
          have HR := Lib.hid (HREL.out (by omega) _ (HB.out))
          go_wp2_with (first | (go_at_call 88; refine (spec_close _ _).mono ?_; rw [HCC.out]; rintro e w' ⟨rfl, rfl⟩) | (go_at_call 89; refine (spec_open _ _).mono ?_; rw [HOO.out]; rintro e w' ⟨rfl, rfl⟩))
          go_roundw
          case rel => first | exact HR.out | (rw [show (if 0 < D then (D : Int) else 0) = (D : Int) by split <;> omega]; exact HR.out) | (rw [show (D : Int) + 1 + -1 = (D : Int) by omega]; exact HR.out)
          case measure => simp [intOf]; omega
        | succ D =>
          simp only [Nat.add_sub_cancel] at hX
          subst hX
          have HR := Lib.hid (HREL.out (by omega) _ (HB.out))
          have e1 : ((D + 1 : Nat) : Int) = (D : Int) + 1 := by omega
          rw [e1]
          have m0 : max (D : Int) 0 = (D : Int) := by omega
          have m3 : max (0 : Int) (D : Int) = (D : Int) := by omega
          have m1 : ¬ (40 : Int) < (D : Int) := by omega
          have m2 : max ((D : Int) + 1 + -1) 0 = (D : Int) := by omega
          have m4 : max (0 : Int) ((D : Int) + 1 - 1) = (D : Int) := by omega
          go_wp2_with (first | (go_at_call 88; refine (spec_close _ _).mono ?_; rw [HCC.out]; rintro e w' ⟨rfl, rfl⟩) | (go_at_call 89; refine (spec_open _ _).mono ?_; rw [HOO.out]; rintro e w' ⟨rfl, rfl⟩))
          go_roundw
          case rel => first | exact HR.out | (rw [show (if 0 < D then (D : Int) else 0) = (D : Int) by split <;> omega]; exact HR.out) | (rw [show (D : Int) + 1 + -1 = (D : Int) by omega]; exact HR.out)
          case measure => simp [intOf]; omega
      · subst hX
        have m2 : max ((D : Int) + 1) 0 = (D : Int) + 1 := by omega
        by_cases hbig : 40 < D + 1
        · have HE := Lib.hid (HIT.out hbig)
          have m1 : (40 : Int) < (D : Int) + 1 := by omega
          clear hbig
          go_wp2_with (first | (go_at_call 88; refine (spec_close _ _).mono ?_; rw [HCC.out]; rintro e w' ⟨rfl, rfl⟩) | (go_at_call 89; refine (spec_open _ _).mono ?_; rw [HOO.out]; rintro e w' ⟨rfl, rfl⟩))
          go_ret
          exact ⟨by rw [HE.out]; rfl, (HB.out)⟩
        · have HR := Lib.hid (HREL.out hbig _ (HB.out))
          have m1 : ¬ (40 : Int) < (D : Int) + 1 := by omega
          clear hbig
          go_wp2_with (first | (go_at_call 88; refine (spec_close _ _).mono ?_; rw [HCC.out]; rintro e w' ⟨rfl, rfl⟩) | (go_at_call 89; refine (spec_open _ _).mono ?_; rw [HOO.out]; rintro e w' ⟨rfl, rfl⟩))
          go_roundw
          case rel => first | exact HR.out | (rw [show (if 0 < D then (D : Int) else 0) = (D : Int) by split <;> omega]; exact HR.out) | (rw [show (D : Int) + 1 + -1 = (D : Int) by omega]; exact HR.out)
          case measure => simp [intOf]; omega
    · obtain rfl : I = n := by omega
      have hi1 : ¬ (I : Int) < (I : Int) := by omega
      have HE := Lib.hid (show nestOf l = -1 by rw [← HBR.out, HLN.out]; exact nest_end l D _)
      go_wp2
      go_ret
      exact ⟨by rw [HE.out]; rfl, HB.out⟩

set_option maxHeartbeats 1600000 in
theorem impl_nestOf (l : List Tk) (a : Option Addr) (cap : Nat) (w : World) (hn : l.length ≤ 1048576) (hc : Lies w.heap.size w a l) :
    Calls Tryz.prog 77 #[.slice a l.length cap] w fun e w' => e = .returned (.int .i64 (nestOf l)) ∧ Below w.heap.size w w' := by
  have HC := Lib.hid hc
  clear hc
  obtain ⟨n, hln⟩ : ∃ n, n = l.length := ⟨_, rfl⟩
  have HLN := Lib.hid hln
  rw [← hln]
  rw [← hln] at hn
  clear hln
  go_enter Tryz.func77, Tryz.ntmps77
  go_wp2
  go_loopw [3, 8] (fun d i wr => RelNe w l d i wr) (fun _ i _ => n - (intOf i).toNat)
  case atStart => exact ⟨0, 0, by omega, rfl, rfl, by omega, rfl, Below.refl _ _⟩
  case round =>
    obtain ⟨I, D, hI, rfl, rfl, hD1, hbr, hbel⟩ := hrel
    have HB := Lib.hid hbel
    have HBR := Lib.hid hbr
    rw [← HLN.out] at hI
    clear hbel hbr
    by_cases hlt : I < n
    · have hltl : I < l.length := by have := HLN.out; omega
      obtain ⟨b, o, rfl, hb, hcell⟩ := lies_at HC.out hltl
      obtain ⟨c0, c1, c2⟩ := (hcell I hltl).keep HB.out hb
      have HIT := Lib.hid (fun h1 => nest_hit (d := D) hltl h1)
      have HON := Lib.hid (fun h1 => nest_on (d := D) hltl h1)
      obtain ⟨t, ht⟩ : ∃ t, t = l[I] := ⟨_, rfl⟩
      rw [← ht] at c0 c1 c2 HIT HON
      clear hcell ht
      have hi1 : (I : Int) < (n : Int) := by omega
      have HB2 := Lib.hid (show Below w.heap.size w (wr.alloc (.cells #[.int .i64 t.k, .string t.s, .int .i64 t.a] 35)) from HB.out.trans ((Below.refl _ _).alloc HB.out.size _))
      obtain ⟨X, hX⟩ : ∃ X, nxt t.k D = X := ⟨_, rfl⟩
      rw [hX] at HIT HON
      rw [HBR.out] at HIT HON
      have HREL := Lib.hid (show ¬ 40 < X → ∀ wr', Below w.heap.size w wr' → RelNe w l (.int .i64 (X : Int)) (.int .i64 ((I : Int) + 1)) wr' from fun h wr' hb' => ⟨I + 1, X, by have := HLN.out; omega, by go_num, rfl, by omega, (HON.out h).symm, hb'⟩)
      obtain ⟨C, hC⟩ : ∃ C, clB t.k = C := ⟨_, rfl⟩
      obtain ⟨O, hO⟩ : ∃ O, opB t.k = O := ⟨_, rfl⟩
      have hboth := @both t.k
      have hnest : nest t.k = if O = true then 1 else if C = true then -1 else 0 := by unfold nest; rw [hC, hO]
      unfold nxt at hX
      rw [hC, hO] at hX hboth
      have HCC := Lib.hid hC
      have HOO := Lib.hid hO
      have HNN := Lib.hid hnest
      clear hC hO hnest
      cases O <;> cases C
      case true.true => exact absurd (hboth rfl) (by decide)
      all_goals
        simp only [if_pos, if_neg, reduceIte, Bool.false_eq_true] at hX HNN
        clear hboth
      · subst hX
        by_cases hbig : 40 < D
        · exact absurd hbig (by omega)
        have HR := Lib.hid (HREL.out hbig _ (HB2.out))
        have m0 : max (D : Int) 0 = (D : Int) := by omega
        have m1 : ¬ (40 : Int) < (D : Int) := by omega
        have m2 : max ((D : Int) + 0) 0 = (D : Int) := by omega
        clear hbig
        go_wp2_with (first | (go_at_call 90; refine (impl_nest _ _).mono ?_; rw [HNN.out]; rintro e w' ⟨rfl, rfl⟩))
        go_roundw
        case rel => first | exact HR.out | (rw [show (if 0 < D then (D : Int) else 0) = (D : Int) by split <;> omega]; exact HR.out) | (rw [show (D : Int) + 1 + -1 = (D : Int) by omega]; exact HR.out)
        case measure => simp [intOf]; omega
      · cases D with
        | zero =>
          subst hX
          have HR := Lib.hid (HREL.out (by omega) _ (HB2.out))
          go_wp2_with (first | (go_at_call 90; refine (impl_nest _ _).mono ?_; rw [HNN.out]; rintro e w' ⟨rfl, rfl⟩))
          go_roundw
          case rel => first | exact HR.out | (rw [show (if 0 < D then (D : Int) else 0) = (D : Int) by split <;> omega]; exact HR.out) | (rw [show (D : Int) + 1 + -1 = (D : Int) by omega]; exact HR.out)
          case measure => simp [intOf]; omega
        | succ D =>
          simp only [Nat.add_sub_cancel] at hX
          subst hX
          have HR := Lib.hid (HREL.out (by omega) _ (HB2.out))
          have e1 : ((D + 1 : Nat) : Int) = (D : Int) + 1 := by omega
          rw [e1]
          have m0 : max (D : Int) 0 = (D : Int) := by omega
          have m3 : max (0 : Int) (D : Int) = (D : Int) := by omega
          have m1 : ¬ (40 : Int) < (D : Int) := by omega
          have m2 : max ((D : Int) + 1 + -1) 0 = (D : Int) := by omega
          have m4 : max (0 : Int) ((D : Int) + 1 - 1) = (D : Int) := by omega
          go_wp2_with (first | (go_at_call 90; refine (impl_nest _ _).mono ?_; rw [HNN.out]; rintro e w' ⟨rfl, rfl⟩))
          go_roundw
          case rel => first | exact HR.out | (rw [show (if 0 < D then (D : Int) else 0) = (D : Int) by split <;> omega]; exact HR.out) | (rw [show (D : Int) + 1 + -1 = (D : Int) by omega]; exact HR.out)
          case measure => simp [intOf]; omega
      · subst hX
        have m2 : max ((D : Int) + 1) 0 = (D : Int) + 1 := by omega
        by_cases hbig : 40 < D + 1
        · have HE := Lib.hid (HIT.out hbig)
          have m1 : (40 : Int) < (D : Int) + 1 := by omega
          clear hbig
          go_wp2_with (first | (go_at_call 90; refine (impl_nest _ _).mono ?_; rw [HNN.out]; rintro e w' ⟨rfl, rfl⟩))
          go_ret
          exact ⟨by rw [HE.out]; rfl, (HB2.out)⟩
        · have HR := Lib.hid (HREL.out hbig _ (HB2.out))
          have m1 : ¬ (40 : Int) < (D : Int) + 1 := by omega
          clear hbig
          go_wp2_with (first | (go_at_call 90; refine (impl_nest _ _).mono ?_; rw [HNN.out]; rintro e w' ⟨rfl, rfl⟩))
          go_roundw
          case rel => first | exact HR.out | (rw [show (if 0 < D then (D : Int) else 0) = (D : Int) by split <;> omega]; exact HR.out) | (rw [show (D : Int) + 1 + -1 = (D : Int) by omega]; exact HR.out)
          case measure => simp [intOf]; omega
    · obtain rfl : I = n := by omega
      have hi1 : ¬ (I : Int) < (I : Int) := by omega
      have HE := Lib.hid (show nestOf l = -1 by rw [← HBR.out, HLN.out]; exact nest_end l D _)
      go_wp2
      go_ret
      exact ⟨by rw [HE.out]; rfl, HB.out⟩
end Go.Proofs.YtiilpnoaocfjgaaGreatDoor.pb
