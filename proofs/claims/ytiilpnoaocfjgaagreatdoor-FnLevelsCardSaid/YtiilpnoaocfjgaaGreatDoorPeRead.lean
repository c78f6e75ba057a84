/-
  impl's exprParser: rows of kids ('Rw'); word, kid, elements: contracts.
-/
import Derived.Test.YtiilpnoaocfjgaaGreatDoorPeImpl
import Derived.Test.YtiilpnoaocfjgaaGreatDoorPeGo
import Derived.Test.YtiilpnoaocfjgaaGreatDoorKidI
import Derived.Test.YtiilpnoaocfjgaaGreatDoorDepth
namespace Go.Proofs.YtiilpnoaocfjgaaGreatDoor.pr
open Go.ChangeShapes Go.WideShapes Go.ChangeAt Go.RowKit
open tk (Tk)
open nd (Nd PT KidV IBlk OwnI shN makeT)
open ps (Ps B5 posOk kidI top)
open pe
set_option linter.unusedVariables false
set_option linter.unusedSimpArgs false
set_option maxRecDepth 20000

/-- The row of kids of a node that is being read. -/
def Rw (b q : Nat) (u : Value) (ks : List Int) (v : Value) (z : List (Nd × Value)) (r : Nat → Nat) (w : World) : Prop :=
  (ks = [] ∧ u = .slice none 0 0) ∨ (KidV (b + 1) w q u ks ∧ q < w.heap.size ∧ (∀ j, j < z.length → r j ≠ q) ∧ v.ownBlock ≠ some q ∧ b < q)
theorem Rw.form {b q : Nat} {u : Value} {ks : List Int} {v : Value} {z : List (Nd × Value)} {r : Nat → Nat} {w : World} (h : Rw b q u ks v z r w) : ∃ ak ck, u = .slice ak ks.length ck := by
  rcases h with ⟨rfl, rfl⟩ | ⟨h, -⟩
  · exact ⟨none, 0, rfl⟩
  · obtain ⟨a, c, e, -⟩ := h.form; exact ⟨a, c, e⟩
theorem Rw.on {b q : Nat} {u : Value} {ks : List Int} {v v' : Value} {z z' : List (Nd × Value)} {r r' : Nat → Nat} {w w' : World} (h : Rw b q u ks v z r w) (e : Ext (X0 b) v z r w v' z' r' w') : Rw b q u ks v' z' r' w' := by
  rcases h with h | ⟨h1, h2, h3, h4, h5⟩
  · exact .inl h
  · refine .inr ⟨h1.keep (e.g.keep q h2 (show ¬ q = b by omega) (fun x => h4 x.symm)), Nat.lt_of_lt_of_le h2 e.g.size, fun j hj => ?_, fun x => e.g.ne h2 (fun y => h4 y.symm) x.symm, h5⟩
    rcases Nat.lt_or_ge j z.length with h | h
    · rw [e.old j h]; exact h3 j h
    · rcases e.new j h hj with h6 | h6
      · omega
      · have : r' j = b := h6; omega
theorem Rw.quiet {b q : Nat} {u : Value} {ks : List Int} {v : Value} {z : List (Nd × Value)} {r : Nat → Nat} {w w' : World} (h : Rw b q u ks v z r w) (hb : Below w.heap.size w w') : Rw b q u ks v z r w' := h.on (Ext.of (Gr.quiet hb))

/-- A result's parts. -/
def lvR : R → Int
  | .bad _ => 0
  | .ok lv _ _ _ => lv
def tgR : R → Bool
  | .bad _ => false
  | .ok _ tg _ _ => tg
def atR : R → Nat
  | .bad j => j
  | .ok _ _ _ j => j
def okR : R → Bool
  | .bad _ => false
  | .ok _ _ _ _ => true
/-- A node read whole: what is answered. -/
def Res (w0 : World) (a : Option Addr) (n cap : Nat) (zb : List Nd) (X : Nat → Prop) (v : Value) (z : List (Nd × Value)) (r : Nat → Nat) (w : World) (R : R) (e : Ending) (w' : World) : Prop :=
  e = .returned (.agg #[.int .i64 (lvR R), .bool (tgR R)]) ∧ ∃ v' z' r', St w0 a n cap (atR R) v' z' r' w' ∧ Ext X v z r w v' z' r' w' ∧ ∀ lv tg t j, R = .ok lv tg t j → z'.map (·.1) = zb ++ t.map (shN (zb.length : Int))
section
variable {w0 : World} {a : Option Addr} {n cap : Nat} {zb : List Nd} {X Y : Nat → Prop} {v v1 : Value} {z z1 : List (Nd × Value)} {r r1 : Nat → Nat} {w w1 : World} {R : R} {e : Ending} {w' : World}
theorem Res.wide (h : Res w0 a n cap zb X v z r w R e w') (hX : ∀ k, k < w.heap.size → X k → Y k) : Res w0 a n cap zb Y v z r w R e w' := by
  obtain ⟨h1, v', z', r', h2, h3, h4⟩ := h
  exact ⟨h1, v', z', r', h2, h3.wide hX, h4⟩
/-- .. behind what changed the parser, or what is one's own. -/
theorem Res.behind (h : Res w0 a n cap zb X v1 z1 r1 w1 R e w') (g : Ext X v z r w v1 z1 r1 w1) : Res w0 a n cap zb X v z r w R e w' := by
  obtain ⟨h1, v', z', r', h2, h3, h4⟩ := h
  exact ⟨h1, v', z', r', h2, g.trans h3, h4⟩
/-- .. and its result in a box of one's own. -/
theorem Res.done (h : Res w0 a n cap zb X v1 z1 r1 w1 R e w') (G : Ext X v z r w v1 z1 r1 w1) {g : Nat} (hg : w.heap.size ≤ g) (hgw : g < w1.heap.size) (hx : ¬ X g) (hv : some g ≠ v1.ownBlock) (hr : ∀ j, j < z1.length → r1 j ≠ g) (hb : w0.heap.size < g) (y0 y1 : Value) : Res w0 a n cap zb X v z r w R e ((w'.setCell ⟨g, 0, none⟩ y0).setCell ⟨g, 1, none⟩ y1) := by
  obtain ⟨h1, v', z', r', h2, h3, h4⟩ := h
  have k1 : some g ≠ v'.ownBlock := h3.g.ne hgw hv
  have k2 : ∀ j, j < z'.length → r' j ≠ g := fun j hj => by
    rcases Nat.lt_or_ge j z1.length with h | h
    · rw [h3.old j h]; exact hr j h
    · rcases h3.new j h hj with h5 | h5
      · omega
      · exact fun e => hx (e ▸ h5)
  have k3 : g ≠ w0.heap.size := by omega
  refine ⟨h1, v', z', r', (h2.oset k3 k1 k2 (by omega) 0 y0).oset k3 k1 k2 (by omega) 1 y1, ?_, h4⟩
  have G2 := G.trans h3
  exact ⟨(G2.g.set (.inr hg) 0 y0).set (.inr hg) 1 y1, G2.old, G2.new, G2.pre⟩
end
/-- What is said of expr, from a place on. -/
def CallE (w0 : World) (a : Option Addr) (cap : Nat) (l : List Tk) (E : Ps → Nat → R) (i0 : Nat) : Prop :=
  ∀ (p : Ps) (i : Nat) (v : Value) (z : List (Nd × Value)) (r : Nat → Nat) (w : World), i0 ≤ i → i ≤ l.length → z.length + 2 * (l.length - i) ≤ 200000 → St w0 a l.length cap i v z r w →
    Calls Tryz.prog 62 #[.pointer (some ⟨w0.heap.size, 0, none⟩), .agg #[.int .i64 p.l, .bool p.d, .bool p.i, .bool p.g, .bool p.s]] w (Res w0 a l.length cap (z.map (·.1)) (X0 w0.heap.size) v z r w (E p i))
theorem CallE.up {w0 : World} {a : Option Addr} {cap : Nat} {l : List Tk} {E : Ps → Nat → R} {i0 i1 : Nat} (h : CallE w0 a cap l E i0) (h1 : i0 ≤ i1) : CallE w0 a cap l E i1 := fun p i v z r w h2 => h p i v z r w (Nat.le_trans h1 h2)

section
variable {w0 : World} {l : List Tk} {a : Option Addr} {cap i : Nat} {v : Value} {z : List (Nd × Value)} {r : Nat → Nat} {E : Ps → Nat → R} {M i0 : Nat}

theorem addR (k op : Int) (s : ByteArray) (zb : List Nd) (ps : List (List Nd)) (u : Value) (q : Nat) (w : World) (hst : St w0 a l.length cap i v z r w) (hz : z.length ≤ 1000000) (hrw : Rw w0.heap.size q u (G2 zb.length ps) v z r w) (hzb : z.map (·.1) = zb ++ G1 zb.length ps) :
    Calls Tryz.prog 269 #[.pointer (some ⟨w0.heap.size, 0, none⟩), .agg #[.int .i64 k, .int .i64 op, .string s, .string ⟨#[]⟩, u]] w (Res w0 a l.length cap zb (Xq w0.heap.size q) v z r w (fin k op s ps i)) := by
  have hf := hrw.form
  have hu : u.oneCell' = true := by obtain ⟨ak, ck, rfl⟩ := hf; rfl
  obtain ⟨q', hq', c1, c2, c3, c4, c5⟩ : ∃ q', (q' = q ∨ w.heap.size ≤ q') ∧ (∀ w1, Below w.heap.size w w1 → w.heap.size < w1.heap.size → KidV (w0.heap.size + 1) w1 q' u (G2 zb.length ps) ∧ q' < w1.heap.size) ∧ (∀ j, j < z.length → r j ≠ q') ∧ v.ownBlock ≠ some q' ∧ w0.heap.size < q' ∧ q' ≤ w.heap.size := by
    rcases hrw with ⟨h1, h2⟩ | ⟨h1, h2, h3, h4, h5⟩
    · exact ⟨w.heap.size, .inr (Nat.le_refl _), fun w1 _ h => ⟨.inl ⟨h2, h1⟩, h⟩, fun j hj => by have := hst.own.lt j hj; omega, fun e => hst.new (Nat.le_refl _) e.symm, hst.lt, Nat.le_refl _⟩
    · exact ⟨q, .inl rfl, fun w1 hb _ => ⟨h1.keep (hb.block q h2), Nat.lt_of_lt_of_le h2 hb.size⟩, h3, h4, h5, Nat.le_of_lt h2⟩
  refine (add_any k op s ⟨#[]⟩ (G2 zb.length ps) u q' w hst hz hu hf c1 c2 c3 c4 c5).mono ?_
  rintro e w' ⟨rfl, v', r', s', g', o', n'⟩
  refine ⟨rfl, v', _, r', s', ⟨g'.wide (fun k _ h => .inl h), o', fun j h1 h2 => ?_, by simp⟩, fun lv tg t j he => ?_⟩
  · rw [List.length_append, List.length_singleton] at h2
    rw [show j = z.length by omega, n']
    rcases hq' with h | h
    · exact .inr (.inr h)
    · exact .inl h
  · injection he with _ _ he _
    rw [← he, List.map_append, hzb, mk_nodes, List.append_assoc]
    rfl

/-- The answer of a kid's reading. -/
def KRes (w0 : World) (a : Option Addr) (n cap : Nat) (zb : List Nd) (ps : List (List Nd)) (m : Nat) (u : Value) (q : Nat) (v : Value) (z : List (Nd × Value)) (r : Nat → Nat) (w : World) (R : R) (e : Ending) (w' : World) : Prop :=
  e = .returned (.bool (okR R)) ∧ ∃ v' z' r', St w0 a n cap (atR R) v' z' r' w' ∧ Ext (Xq w0.heap.size q) v z r w v' z' r' w' ∧ ∀ lv tg t j, R = .ok lv tg t j → z'.map (·.1) = zb ++ G1 zb.length (ps ++ [t]) ∧ Rw w0.heap.size q u (G2 zb.length (ps ++ [t]) ++ zs m) v' z' r' w'

set_option maxHeartbeats 3200000 in
theorem kid_any (hE : CallE w0 a cap l E i0) (hOk : ∀ p i, i ≤ l.length → Ok M l i (E p i)) (k op : Int) (s : ByteArray) (m : Nat) (zb : List Nd) (ps : List (List Nd)) (u : Value) (q : Nat) (p : Ps) (w : World) (h0 : i0 ≤ i) (hi : i ≤ l.length) (hl : l.length ≤ 50000) (hm : ps.length + m ≤ 10) (hz : z.length + 2 * (l.length - i) ≤ 200000) (hst : St w0 a l.length cap i v z r w) (hrw : Rw w0.heap.size q u (G2 zb.length ps ++ zs (m + 1)) v z r w) (hzb : z.map (·.1) = zb ++ G1 zb.length ps) :
    Calls Tryz.prog 270 #[.pointer (some ⟨w0.heap.size, 0, none⟩), .agg #[.int .i64 k, .int .i64 op, .string s, .string ⟨#[]⟩, u], .int .i64 (ps.length : Int), .agg #[.int .i64 p.l, .bool p.d, .bool p.i, .bool p.g, .bool p.s]] w
      (KRes w0 a l.length cap zb ps m u q v z r w (E (kq k op (ps.length + m + 1) (ps.length : Int) p) i)) := by
  have hks : (G2 zb.length ps ++ zs (m + 1)).length = ps.length + m + 1 := by rw [List.length_append, G2_len]; simp [zs]; omega
  obtain ⟨ak, ck, hu⟩ := hrw.form
  rw [hks] at hu
  subst hu
  obtain ⟨N, hN⟩ : ∃ N, N = ps.length + m + 1 := ⟨_, rfl⟩
  rw [← hN] at hks hrw ⊢
  obtain ⟨K, hK⟩ : ∃ K, ps.length = K := ⟨_, rfl⟩
  rw [hK] at hN hm ⊢
  obtain ⟨W, hW⟩ : ∃ W, W = (w.alloc (.cells #[.int .i64 k, .int .i64 op, .string s, .string ⟨#[]⟩, .slice ak N ck] 60)).alloc (.cells #[.int .i64 p.l, .bool p.d, .bool p.i, .bool p.g, .bool p.s] 26) := ⟨_, rfl⟩
  have hB : Below w.heap.size w W := by rw [hW]; exact ((Below.refl _ _).alloc (Nat.le_refl _) _).alloc (by simp) _
  have HN := Lib.hid (show Bk w.heap.size #[.int .i64 k, .int .i64 op, .string s, .string ⟨#[]⟩, .slice ak N ck] 60 W by rw [hW]; exact (Bk.new _ _ _).alloc _)
  have HP := Lib.hid (show Bk (w.heap.size + 1) #[.int .i64 p.l, .bool p.d, .bool p.i, .bool p.g, .bool p.s] 26 W by
    rw [hW]
    have := Bk.new (w.alloc (.cells #[.int .i64 k, .int .i64 op, .string s, .string ⟨#[]⟩, .slice ak N ck] 60)) #[.int .i64 p.l, .bool p.d, .bool p.i, .bool p.g, .bool p.s] 26
    simpa using this)
  have HS := Lib.hid (hst.keep hB)
  have HS0 := Lib.hid hst
  have HB := Lib.hid hB
  have HX := Lib.hid (hrw.quiet hB)
  have HKS := Lib.hid hks
  have HZB := Lib.hid hzb
  have HZ := Lib.hid hz
  have HI := Lib.hid hi
  have HL := Lib.hid hl
  have HNE := Lib.hid hN
  have HKE := Lib.hid hK
  have hNb : N ≤ 1048576 := by omega
  have HOK := Lib.hid (hOk (kq k op N (K : Int) p) i hi)
  have HEC := Lib.hid (fun W2 (s2 : St w0 a l.length cap i v z r W2) => hE (kq k op N (K : Int) p) i v z r W2 h0 hi hz s2)
  obtain ⟨n0, n1, n2, n3, n4⟩ := HN.out.c5
  obtain ⟨p0, p1, p2, p3, p4⟩ := HP.out.c5
  have hfl := fld_l
  have hk0 : (0 : Int) ≤ (K : Int) := by omega
  have hk1 : (K : Int) < (N : Int) := by omega
  have hKb : K ≤ 10 := by omega
  clear hst hB hrw hks hzb hz hi hl hN hK hOk hE h0 hm
  rw [hW] at n0 n1 n2 n3 n4 p0 p1 p2 p3 p4
  go_enter Tryz.func270, Tryz.ntmps270
  go_wp2_with fail
  rw [← hW]
  clear hW n0 n1 n2 n3 n4 p0 p1 p2 p3 p4
  refine (_root_.Go.Proofs.YtiilpnoaocfjgaaGreatDoor.ps.impl_kidPos k op s ⟨#[]⟩ ak N ck (K : Int) p.l p.d p.i p.g p.s _ hNb).mono ?_
  rintro e w1 ⟨rfl, b1⟩
  have S1 := Lib.hid (HS.out.keep b1)
  have N1 := Lib.hid (HN.out.keep b1)
  have X1 := Lib.hid (HX.out.quiet b1)
  have G1' := Lib.hid (show Ext (X0 w0.heap.size) v z r w v z r w1 from Ext.of (Gr.quiet (HB.out.trans (b1.mono HB.out.size))))
  have HC := Lib.hid (HEC.out w1 S1.out)
  unfold kq at HC
  clear b1
  go_wp2_with fail
  refine HC.out.mono ?_
  rintro e w2 h2
  cases hr : E (kidI k op N (K : Int) p.l p.d p.i p.g p.s) i with
  | bad j =>
    rw [hr] at h2
    obtain ⟨rfl, v2, z2, r2, s2, g2, -⟩ := h2
    have S2 := Lib.hid s2
    have G2' := Lib.hid (G1'.out.trans g2)
    clear s2 g2
    simp only [lvR, tgR]
    go_wp2
    go_ret
    have e1 : E (kq k op N (K : Int) p) i = .bad j := hr
    rw [e1]
    exact ⟨rfl, v2, z2, r2, S2.out, G2'.out.wide (fun k _ h => .inl h), fun lv tg t j he => by cases he⟩
  | ok lv tg t j =>
    have e1 : E (kq k op N (K : Int) p) i = .ok lv tg t j := hr
    have hok := HOK.out
    rw [e1] at hok
    rw [hr] at h2
    obtain ⟨rfl, v2, z2, r2, s2, g2, m2⟩ := h2
    simp only [lvR, tgR]
    simp only [atR] at s2
    have m2 := m2 _ _ _ _ rfl
    obtain ⟨o1, o2, o3, o4, o5, o6⟩ := hok
    have hz2 : z2.length = z.length + t.length := by have := congrArg List.length m2; simpa using this
    have hzl : z.length = zb.length + nd.sumL ps := by have := congrArg List.length HZB.out; rw [List.length_map, List.length_append, G1_len] at this; exact this
    have HM := Lib.hid (show z2.map (·.1) = zb ++ G1 zb.length (ps ++ [t]) by
      rw [m2, HZB.out, G1_snoc, List.append_assoc, List.length_append])
    have HSB := Lib.hid (show zb.length + nd.sumL ps + t.length ≤ 1000000 by have := HZ.out; have := HL.out; omega)
    have hz0 : 0 < z2.length := by omega
    have hzx : z2.length ≤ 1000000 := by have := HZ.out; have := HL.out; omega
    have HROOT := Lib.hid (fun W2 (s3 : St w0 a l.length cap j v2 z2 r2 W2) => root_any W2 s3 hz0 hzx)
    have S2 := Lib.hid s2
    have E2 := Lib.hid (G1'.out.trans g2)
    have X2 := Lib.hid (X1.out.on g2)
    have N2 := Lib.hid (N1.out.on g2.g (show ¬ w.heap.size = w0.heap.size by have := HS0.out.lt; omega) (HS0.out.new (Nat.le_refl _)))
    have HV := Lib.hid (show ((z2.length : Int) - 1) = ((zb.length + (G1 zb.length (ps ++ [t])).length : Nat) : Int) - 1 by
      have := congrArg List.length HM.out
      rw [List.length_map, List.length_append] at this
      omega)
    have hlv : (lv == 0) = false := by rw [beq_eq_false_iff_ne]; omega
    obtain ⟨ZV, hZV⟩ : ∃ ZV, ZV = ((z2.length : Int) - 1) := ⟨_, rfl⟩
    rw [← hZV] at HROOT HV
    rcases X2.out with ⟨hh, -⟩ | ⟨x1, x2, x3, x4, x5⟩
    · exact absurd (congrArg List.length hh) (by rw [HKS.out]; simp; omega)
    rcases x1 with ⟨-, hh⟩ | ⟨cc, hu, ib, iB, im⟩
    · exact absurd (congrArg List.length hh) (by rw [HKS.out]; simp; omega)
    rw [HKS.out] at hu
    injection hu with hu1 hu2 hu3
    subst hu1
    have hKL : K < (G2 zb.length ps ++ zs (m + 1)).length := by rw [HKS.out]; omega
    have d0 := ib.at K hKL
    have d1 := ib.frozen K
    obtain ⟨dx, hdx⟩ : ∃ dx, (G2 zb.length ps ++ zs (m + 1))[K] = dx := ⟨_, rfl⟩
    rw [hdx] at d0
    have IB := Lib.hid ib
    have IM := Lib.hid im
    have I2 := Lib.hid x2
    have I3 := Lib.hid x3
    have I4 := Lib.hid x4
    have I5 := Lib.hid x5
    obtain ⟨n0, n1, n2, n3, n4⟩ := N2.out.c5
    clear s2 g2 m2 o1 o2 o3 o4 o5 o6 hz2 hzl hz0 hzx ib im x2 x3 x4 x5 hKL hdx iB hZV
    go_wp2
    go_region_law (first | (go_simp; go_at_call 117; refine (HROOT.out _ (by first | exact S2.out | exact S2.out.drew)).mono ?_; rintro e w9 ⟨rfl, rfl⟩))
    all_goals
      go_wp2
      go_ret
      rw [e1]
      have hS := S2.out.drew.oset (g := q) (by have := I5.out; omega) (fun e => I4.out e.symm) I3.out (Nat.le_of_lt I5.out) K (.int .i64 ZV)
      have hG : Ext (Xq w0.heap.size q) v z r w v2 z2 r2 (w2.drew.setCell ⟨q, K, none⟩ (.int .i64 ZV)) :=
        (E2.out.wide (Y := Xq w0.heap.size q) (fun k _ h => Or.inl h)).trans (Ext.of (Gr.set (X := Xq w0.heap.size q) (Gr.quiet (below_drewN (Below.refl _ _) 1)) (Or.inl (show Xq w0.heap.size q q from Or.inr rfl)) K (.int .i64 ZV)))
      refine ⟨rfl, v2, z2, r2, hS, hG, fun lv' tg' t' j' he => ?_⟩
      injection he with _ _ he _
      rw [← he]
      refine ⟨HM.out, .inr ⟨.inr ⟨cc, ?_, ?_, by have := I5.out; omega, IM.out⟩, by have := I2.out; simpa using this, I3.out, I4.out, I5.out⟩⟩
      · rw [← kid_set zb.length ps t m HSB.out, List.length_set, HKS.out, hu3]
      · rw [← kid_set zb.length ps t m HSB.out, ← HV.out, HKE.out]
        exact (IB.out.of_block (w' := w2.drew) rfl).set K ZV
end
end Go.Proofs.YtiilpnoaocfjgaaGreatDoor.pr
