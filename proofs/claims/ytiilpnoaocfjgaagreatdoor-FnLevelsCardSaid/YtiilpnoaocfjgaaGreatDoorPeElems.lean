/-
  impl's exprParser: elements: contracts.
-/
import Derived.Test.YtiilpnoaocfjgaaGreatDoorPeMeth3
namespace Go.Proofs.YtiilpnoaocfjgaaGreatDoor.pr
open Go.ChangeShapes Go.WideShapes Go.ChangeAt Go.RowKit
open tk (Tk)
open nd (Nd PT KidV IBlk OwnI shN makeT)
open ps (Ps B5 posOk kidI top)
open pe
set_option linter.unusedVariables false
set_option linter.unusedSimpArgs false
set_option maxRecDepth 20000

/-- 'append(l, v)' of a row of integers, as a step of a region that draws its order. -/
theorem step_append_kid {ops : Array Oper} {o : Oper} {a : Act} {w : World} {K : Act → World → Prop} {Q : Exit → Act → World → Prop} {E : Prop} (hgd : o.guard = none) (s x : Operand)
    (ho : o.op = .call { callee := .builtin .append, args := #[s, x], argTypes := #[53, 53] }) (B : Nat) (v : Value) (d : List Int) (z : Int) (hs : a.eval s = v)
    (hown : OwnI B v d w) (gz : Nat) (hx : a.eval x = .slice (some ⟨gz, 0, none⟩) 1 1) (hz : w.heap[gz]? = some (.cells #[.int .i64 z] 3 (0, 0))) (hn : d.length ≤ 1048576) (hB : B ≤ w.heap.size)
    (h : ∀ g cap w', OwnI B (.slice (some ⟨g, 0, none⟩) (d.length + 1) cap) (d ++ [z]) w' → w.grownBy w' v.ownBlock → (v.ownBlock = some g ∨ w.heap.size ≤ g) → K (a.put o.dst (.slice (some ⟨g, 0, none⟩) (d.length + 1) cap)) w') :
    if Region.wanted o (yielded ops a.tmps) = true then Oper.wp Tryz.prog o a w K Q else E := by
  obtain ⟨i0, hi, hz0, hz1, hz2⟩ := info_parts Go.Proofs.YtiilpnoaocfjgaaGreatDoor.nd.Tryz.infoInt
  refine step_append_lies w hgd s x 53 ho B 3 i0 _ 1 8 Tryz.underlying53 hi hz0 hz1 hz2 rfl (by decide) v d.length (nd.ivals d) hs hown ⟨gz, 0, none⟩ 1 1 [.int .i64 z] hx rfl ?_ ?_ (by decide) (by unfold maxLen; omega) (by omega) hB _ rfl ?_
  · intro j u hj
    rw [show ((⟨gz, 0, none⟩ : Addr).add j) = ⟨gz, j, none⟩ by unfold Addr.add; split <;> simp_all]
    rw [cell_of_row _ gz j _ _ _ hz]
    simpa using hj
  · intro u hu
    simp at hu
    rcases hu with rfl <;> rfl
  · intro g cap w' hown' hg hor _
    refine h g cap w' ?_ hg (hor.imp id (fun e => by omega))
    unfold OwnI
    rw [nd.ivals_snoc, List.length_append]
    exact hown'
theorem below_none {w w' : World} (h : w.grownBy w' none) : Below w.heap.size w w' := ⟨h.os, h.tape, h.output, h.size, fun k hk => h.block k hk (by simp)⟩
/-- Where a row of kids grows. -/
theorem St.grown {w0 : World} {a : Option Addr} {n cap i : Nat} {v u : Value} {z : List (Nd × Value)} {r : Nat → Nat} {w w' : World} (h : St w0 a n cap i v z r w) (hg : w.grownBy w' u.ownBlock) (hq : ∀ q, u.ownBlock = some q → w0.heap.size < q ∧ v.ownBlock ≠ some q ∧ ∀ j, j < z.length → r j ≠ q) : St w0 a n cap i v z r w' := by
  cases hu : u.ownBlock with
  | none => rw [hu] at hg; exact h.keep (below_none hg)
  | some q =>
    rw [hu] at hg
    obtain ⟨h1, h2, h3⟩ := hq q hu
    refine ⟨h.bel.grown hg h.bel.size (fun k hk => by injection hk with hk; omega), (hg.block _ h.lt (by simp; omega)).trans h.box, h.own.kept hg h2 h3, h.ge⟩
theorem Rw.own {b q : Nat} {u : Value} {ks : List Int} {v : Value} {z : List (Nd × Value)} {r : Nat → Nat} {w : World} (h : Rw b q u ks v z r w) : OwnI (b + 1) u ks w := by
  rcases h with ⟨rfl, rfl⟩ | ⟨h, -⟩
  · exact OwnI.nil _ _
  · exact h.own
theorem Rw.blk {b q : Nat} {u : Value} {ks : List Int} {v : Value} {z : List (Nd × Value)} {r : Nat → Nat} {w : World} (h : Rw b q u ks v z r w) : ∀ g, u.ownBlock = some g → g = q ∧ q < w.heap.size ∧ b < g ∧ v.ownBlock ≠ some g ∧ ∀ j, j < z.length → r j ≠ g := by
  intro g hg
  rcases h with ⟨rfl, rfl⟩ | ⟨h1, h2, h3, h4, h5⟩
  · cases hg
  · rcases h1 with ⟨rfl, -⟩ | ⟨c, rfl, -⟩
    · cases hg
    · have e : q = g := by simpa [Value.ownBlock] using hg
      subst e
      exact ⟨rfl, h2, h5, h4, h3⟩
theorem Rw.mk {b g n c : Nat} {ks : List Int} {v : Value} {z : List (Nd × Value)} {r : Nat → Nat} {w : World} (h : OwnI (b + 1) (.slice (some ⟨g, 0, none⟩) n c) ks w) (h3 : ∀ j, j < z.length → r j ≠ g) (h4 : v.ownBlock ≠ some g) : Rw b g (.slice (some ⟨g, 0, none⟩) n c) ks v z r w := by
  rcases h.blkM with ⟨hh, -⟩ | ⟨g', c', hv, hB, hb, hm⟩
  · injection hh with hh _ _; cases hh
  · injection hv with hv1 hv2 hv3
    injection hv1 with hv1
    injection hv1 with hv1 _ _
    subst hv1; subst hv2; subst hv3
    exact .inr ⟨.inr ⟨c, rfl, hb, hB, hm⟩, hb.lt, h3, h4, hB⟩

theorem els_succ (E : Ps → Nat → R) (l : List Tk) (m g : Nat) (ps : List (List Nd)) (i : Nat) : els E l m (g + 1) ps i = (match E top i with | .bad j => .bad j | .ok _ _ t j => if ps.length + 1 = m ∨ ¬ kd l j = 36 then .ok (ps ++ [t]) j else els E l m g (ps ++ [t]) (sk l (j + 1))) := rfl
def okP : P → Bool
  | .bad _ => false
  | .ok _ _ => true
def atP : P → Nat
  | .bad j => j
  | .ok _ j => j
section
variable {w0 : World} {l : List Tk} {a : Option Addr} {cap i : Nat} {v : Value} {z : List (Nd × Value)} {r : Nat → Nat} {E : Ps → Nat → R} {M i0 : Nat}

/-- What elements answers. -/
def ERes (w0 : World) (a : Option Addr) (n cap : Nat) (zb : List Nd) (gn : Nat) (k op : Int) (s : ByteArray) (v : Value) (z : List (Nd × Value)) (r : Nat → Nat) (w : World) (R : P) (e : Ending) (w' : World) : Prop :=
  e = .returned (.bool (okP R)) ∧ ∃ v' z' r' u' q', St w0 a n cap (atP R) v' z' r' w' ∧ Ext (Xq w0.heap.size gn) v z r w v' z' r' w' ∧ Mb (X0 w0.heap.size) w0.heap.size gn #[.int .i64 k, .int .i64 op, .string s, .string ⟨#[]⟩, u'] 60 v' z' r' w' ∧ ∀ ps j, R = .ok ps j → z'.map (·.1) = zb ++ G1 zb.length ps ∧ Rw w0.heap.size q' u' (G2 zb.length ps) v' z' r' w' ∧ w.heap.size ≤ q'
def RelEl (w0 : World) (a : Option Addr) (cap : Nat) (l : List Tk) (E : Ps → Nat → R) (zb : List Nd) (gn : Nat) (k op : Int) (s : ByteArray) (m : Nat) (i : Nat) (v : Value) (z : List (Nd × Value)) (r : Nat → Nat) (w : World) (wr : World) : Prop :=
  ∃ ps j v' z' r' u' q', St w0 a l.length cap j v' z' r' wr ∧ Ext (Xq w0.heap.size gn) v z r w v' z' r' wr ∧ Mb (X0 w0.heap.size) w0.heap.size gn #[.int .i64 k, .int .i64 op, .string s, .string ⟨#[]⟩, u'] 60 v' z' r' wr ∧ z'.map (·.1) = zb ++ G1 zb.length ps ∧ Rw w0.heap.size q' u' (G2 zb.length ps) v' z' r' wr ∧ w.heap.size ≤ q' ∧ els E l m (m - ps.length) ps j = els E l m m [] i ∧ ps.length < m ∧ i ≤ j ∧ j ≤ l.length ∧ z'.length + 2 * (l.length - j) ≤ 200000
set_option maxHeartbeats 6400000 in
theorem elements_any (hE : CallE w0 a cap l E i0) (hOk : ∀ p i, i ≤ l.length → Ok M l i (E p i)) (k op : Int) (s : ByteArray) (m : Nat) (zb : List Nd) (gn : Nat) (w : World) (h0 : i0 ≤ i) (hi : i ≤ l.length) (hl : l.length ≤ 50000) (hc : tk.Lies w0.heap.size w0 a l) (hm : 0 < m) (hm2 : m ≤ 6) (hz : z.length + 2 * (l.length - i) ≤ 200000) (hst : St w0 a l.length cap i v z r w) (hn : Mb (X0 w0.heap.size) w0.heap.size gn #[.int .i64 k, .int .i64 op, .string s, .string ⟨#[]⟩, .slice none 0 0] 60 v z r w) (hzb : z.map (·.1) = zb) :
    Calls Tryz.prog 260 #[.pointer (some ⟨w0.heap.size, 0, none⟩), .pointer (some ⟨gn, 0, none⟩), .int .i64 (m : Int)] w (ERes w0 a l.length cap zb gn k op s v z r w (els E l m m [] i)) := by
  have HST := Lib.hid hst
  have HN := Lib.hid hn
  have HC := Lib.hid hc
  have HL := Lib.hid hl
  have HZB := Lib.hid (show z.map (·.1) = zb ++ G1 zb.length [] by rw [hzb, G1_nil, List.append_nil])
  have HZ := Lib.hid hz
  have HI := Lib.hid hi
  have HGN := Lib.hid hn.bk.lt
  have hfl := fld_l
  have HM := Lib.hid hm
  clear hst hn hzb hz hi hc hm
  go_enter Tryz.func260, Tryz.ntmps260
  go_wp2
  go_loopw [7] (fun _ wr => RelEl w0 a cap l E zb gn k op s m i v z r w wr) (fun _ wr => l.length - atOf w0.heap.size wr)
  case atStart => exact ⟨[], i, v, z, r, _, w.heap.size, HST.out, Ext.refl _ _ _ _ _, HN.out, HZB.out, .inl ⟨G2_nil _, rfl⟩, Nat.le_refl _, rfl, HM.out, Nat.le_refl _, HI.out, HZ.out⟩
  case round =>
    obtain ⟨ps, j, v1, z1, r1, u1, q1, hs1, he1, hn1, hz1, hr1, hq1, hels, hpm, hij, hjl, hzl⟩ := hrel
    have HAT := Lib.hid (at_of hs1)
    have HEX := Lib.hid (fun W2 (s2 : St w0 a l.length cap j v1 z1 r1 W2) => hE top j v1 z1 r1 W2 (Nat.le_trans h0 hij) hjl hzl s2)
    have HOK := Lib.hid (hOk top j hjl)
    obtain ⟨g, hg⟩ : ∃ g, m - ps.length = g + 1 := ⟨m - ps.length - 1, by omega⟩
    rw [hg] at hels
    rw [els_succ] at hels
    have S1 := Lib.hid hs1
    have E1 := Lib.hid he1
    have N1 := Lib.hid hn1
    have M1 := Lib.hid hz1
    have X1 := Lib.hid hr1
    have Q1 := Lib.hid hq1
    have HJL := Lib.hid hjl
    have HZL := Lib.hid hzl
    have HIJ := Lib.hid hij
    have HG := Lib.hid hg
    clear hs1 he1 hn1 hz1 hr1 hq1 hjl hzl hij hg
    cases hr : E top j with
    | bad j2 =>
      rw [hr] at hels
      simp only at hels
      rw [hr] at HEX
      have HELS := Lib.hid hels
      clear hels hr
      go_wp2_with (first | (go_at_call 29; refine (_root_.Go.Proofs.YtiilpnoaocfjgaaGreatDoor.ps.impl_top _).mono ?_; rintro e w2 ⟨rfl, b2⟩; have S2 := Lib.hid (S1.out.keep b2); have G2' := Lib.hid (show Ext (X0 w0.heap.size) v1 z1 r1 wr v1 z1 r1 w2 from Ext.of (Gr.quiet b2)); clear b2) | (refine (HEX.out w2 S2.out).mono ?_; rintro e w3 ⟨rfl, v3, z3, r3, s3, e3, -⟩; simp only [lvR, tgR]))
      simp only [atR] at s3
      go_ret
      rw [← HELS.out]
      have N3 := (N1.out.ext G2'.out).ext e3
      refine ⟨rfl, v3, z3, r3, u1, q1, s3, E1.out.trans ((G2'.out.trans e3).wide (fun k _ h => .inl h)), N3, fun ps' j' he => by cases he⟩
    | ok lv tg t j2 =>
      rw [hr] at hels HEX HOK
      simp only at hels
      have hok := HOK.out
      obtain ⟨o1, o2, o3, o4, o5, o6⟩ := hok
      have hlv : (lv == 0) = false := by rw [beq_eq_false_iff_ne]; omega
      have hlv2 : (lv != 0) = true := by simp; omega
      have hlv3 : ¬ lv = 0 := by omega
      have HELS := Lib.hid hels
      have HO2 := Lib.hid o2
      have HO1 := Lib.hid o1
      have HO4 := Lib.hid o4
      have HO5 := Lib.hid o5
      clear hels hr o1 o2 o3 o4 o5 o6
      go_wp2_with (first | (go_at_call 29; refine (_root_.Go.Proofs.YtiilpnoaocfjgaaGreatDoor.ps.impl_top _).mono ?_; rintro e w2 ⟨rfl, b2⟩; have S2 := Lib.hid (S1.out.keep b2); have G2' := Lib.hid (show Ext (X0 w0.heap.size) v1 z1 r1 wr v1 z1 r1 w2 from Ext.of (Gr.quiet b2)); clear b2) | (refine (HEX.out w2 S2.out).mono ?_; rintro e w3 ⟨rfl, v3, z3, r3, s3, e3, m3⟩; simp only [lvR, tgR]))
      simp only [atR] at s3
      have m3 := m3 _ _ _ _ rfl
      have hzz : z3.length = z1.length + t.length := by have := congrArg List.length m3; simpa using this
      have hzl1 : z1.length = zb.length + nd.sumL ps := by have := congrArg List.length M1.out; rw [List.length_map, List.length_append, G1_len] at this; exact this
      have M3 := Lib.hid (show z3.map (·.1) = zb ++ G1 zb.length (ps ++ [t]) by rw [m3, M1.out, G1_snoc, List.append_assoc, List.length_append])
      have HSB := Lib.hid (show zb.length + nd.sumL ps + t.length ≤ 1000000 by have := HZL.out; have := HO4.out; have := HO2.out; omega)
      have hz0 : 0 < z3.length := by have := HO5.out; omega
      have HZ3 := Lib.hid (show z3.length + 2 * (l.length - j2) ≤ 200000 by have := HZL.out; have := HO4.out; have := HO2.out; have := HO1.out; omega)
      have hzx : z3.length ≤ 1000000 := by have := HZ3.out; omega
      have HROOT := Lib.hid (fun W2 (s4 : St w0 a l.length cap j2 v3 z3 r3 W2) => root_any W2 s4 hz0 hzx)
      have HV := Lib.hid (show ((z3.length : Int) - 1) = ((zb.length + (G1 zb.length (ps ++ [t])).length : Nat) : Int) - 1 by
        have := congrArg List.length M3.out
        rw [List.length_map, List.length_append] at this
        omega)
      obtain ⟨ZV, hZV⟩ : ∃ ZV, ZV = ((z3.length : Int) - 1) := ⟨_, rfl⟩
      rw [← hZV] at HROOT HV
      have S3 := Lib.hid s3
      have E3 := Lib.hid (E1.out.trans ((G2'.out.trans e3).wide (fun k _ h => Or.inl h)))
      have N3 := Lib.hid ((N1.out.ext G2'.out).ext e3)
      have X3 := Lib.hid ((X1.out.on G2'.out).on e3)
      obtain ⟨D, hD⟩ : ∃ D, G2 zb.length ps = D := ⟨_, rfl⟩
      have hkl : D.length = ps.length := by rw [← hD, G2_len]
      have HGS := Lib.hid (show G2 zb.length (ps ++ [t]) = D ++ [ZV] by rw [G2_snoc _ _ _ HSB.out, ← HV.out, hD])
      rw [hD] at X3 X1
      obtain ⟨uk, uc, hu⟩ := X1.out.form
      subst hu
      obtain ⟨K, hK⟩ : ∃ K, ps.length = K := ⟨_, rfl⟩
      rw [hK] at hkl
      have HKL := Lib.hid hkl
      have HKP := Lib.hid hK
      rw [hK] at hpm
      have HEL := Lib.hid (show (if K + 1 = m ∨ ¬ kd l j2 = 36 then P.ok (ps ++ [t]) j2 else els E l m g (ps ++ [t]) (sk l (j2 + 1))) = els E l m m [] i by rw [← HELS.out, hK])
      have hKb : D.length ≤ 6 := by omega
      have HPM := Lib.hid hpm
      have HOW := Lib.hid (show ∀ w1, Below w3.heap.size w3 w1 → OwnI (w0.heap.size + 1) (.slice uk D.length uc) D w1 from fun w1 hb => X3.out.own.keep hb (Nat.le_refl _))
      have HSW := Lib.hid (show ∀ w1, Below w3.heap.size w3 w1 → ∀ w4, w1.grownBy w4 (Value.slice uk D.length uc).ownBlock → St w0 a l.length cap j2 v3 z3 r3 w4 from fun w1 hb w4 hg => (S3.out.keep hb).grown hg (fun q hq => by obtain ⟨-, -, h3, h4, h5⟩ := X3.out.blk q hq; exact ⟨h3, h4, h5⟩))
      obtain ⟨n0, n1, n2, n3, n4⟩ := N3.out.bk.c5
      have N4 : ∀ z, (w3.alloc z).cell? ⟨gn, 4, none⟩ = some (.slice uk D.length uc) := fun z => nd.cell_past z n4
      have HUQ := Lib.hid (show ∀ g, (Value.slice uk D.length uc).ownBlock = some g → w.heap.size ≤ g from fun g hg => by obtain ⟨h1, -⟩ := X3.out.blk g hg; rw [h1]; exact Q1.out)
      have HNB := Lib.hid (show ∀ w1, (∀ k, k < w3.heap.size → some k ≠ (Value.slice uk D.length uc).ownBlock → w1.heap[k]? = w3.heap[k]?) → Mb (X0 w0.heap.size) w0.heap.size gn #[.int .i64 k, .int .i64 op, .string s, .string ⟨#[]⟩, .slice uk D.length uc] 60 v3 z3 r3 w1 from fun w1 hk => ⟨(hk gn N3.out.bk.lt (fun e => by
        have h1 := HUQ.out gn e.symm
        have h2 := HGN.out
        omega)).trans N3.out.bk, N3.out.x, N3.out.b, N3.out.o, N3.out.r⟩)
      have HS3L := Lib.hid S3.out.lt
      clear s3 e3 m3 hzz hzl1 hz0 hzx hZV hK hkl hD hpm n0 n1 n2 n3
      go_wp2
      go_region_law (first | (refine step_append_kid (by rfl) _ _ (by rfl) (w0.heap.size + 1) (.slice uk D.length uc) D ZV (by rfl) (HOW.out _ (by first | exact (Below.refl _ w3).alloc (Nat.le_refl _) _ | exact ((Below.refl _ w3).alloc (Nat.le_refl _) _).drew | exact ((Below.refl _ w3).drew).alloc (Nat.le_refl _) _)) w3.heap.size (by rfl) (by exact heap_alloc_new w3 _) (by omega) (by simp; exact Nat.le_of_lt HS3L.out) ?_; intro g2 cap2 w4 own4 gr4 or4; have s4 := HSW.out _ (by first | exact (Below.refl _ w3).alloc (Nat.le_refl _) _ | exact ((Below.refl _ w3).alloc (Nat.le_refl _) _).drew | exact ((Below.refl _ w3).drew).alloc (Nat.le_refl _) _) w4 gr4; have gx4 : ∀ k, k < w3.heap.size → some k ≠ (Value.slice uk D.length uc).ownBlock → w4.heap[k]? = w3.heap[k]? := fun k hk hn => (gr4.block k (by simp; exact Nat.lt_succ_of_lt hk) hn).trans (Below.heap_alloc w3 _ k hk); have sz4 : w3.heap.size ≤ w4.heap.size := Nat.le_trans (by simp) gr4.size; have ox4 : (Value.slice uk D.length uc).ownBlock = some g2 ∨ w3.heap.size ≤ g2 := or4.imp id (fun h => Nat.le_trans (by simp) h); have nb4 := HNB.out w4 gx4; obtain ⟨-, -, -, -, y4⟩ := nb4.bk.c5; have y5 := nb4.bk.f 4) | (go_simp; go_at_call 117; refine (HROOT.out _ (by first | exact S3.out | exact S3.out.drew)).mono ?_; rintro e w9 ⟨rfl, rfl⟩))
      all_goals
        have hgg : w.heap.size ≤ g2 := by
          rcases ox4 with h | h
          · exact HUQ.out g2 h
          · exact Nat.le_trans E3.out.g.size h
        have hgn2 : gn ≠ g2 := by have := HGN.out; omega
        have hrow : (∀ j, j < z3.length → r3 j ≠ g2) ∧ v3.ownBlock ≠ some g2 := by
          rcases ox4 with h | h
          · obtain ⟨-, -, -, h4, h5⟩ := X3.out.blk g2 h; exact ⟨h5, h4⟩
          · exact ⟨fun j hj => by have := S3.out.own.lt j hj; omega, fun e => S3.out.new h e.symm⟩
        have S5 := Lib.hid (s4.mset nb4 4 (.slice (some ⟨g2, 0, none⟩) (D.length + 1) cap2))
        have N5 := Lib.hid (nb4.set 4 (.slice (some ⟨g2, 0, none⟩) (D.length + 1) cap2))
        have X5 := Lib.hid (Rw.mk (v := v3) (z := z3) (r := r3) (nd.OwnI.kept own4 (nd.grown_one w4 gn 4 (.slice (some ⟨g2, 0, none⟩) (D.length + 1) cap2)) (fun e => hgn2 (by simpa [Value.ownBlock] using e.symm))) hrow.1 hrow.2)
        rw [← HGS.out] at X5
        have E5 := Lib.hid (show Ext (Xq w0.heap.size gn) v z r w v3 z3 r3 (w4.setCell ⟨gn, 4, none⟩ (.slice (some ⟨g2, 0, none⟩) (D.length + 1) cap2)) from ⟨⟨by have := E3.out.g.size; simp; omega, fun k hk hx hn => by
          rw [heap_setCell_other _ _ k _ (show k ≠ gn from fun e => hx (Or.inr e))]
          exact (gx4 k (Nat.lt_of_lt_of_le hk E3.out.g.size) (fun e => by have := HUQ.out k e.symm; omega)).trans (E3.out.g.keep k hk hx hn), E3.out.g.own⟩, E3.out.old, E3.out.new, E3.out.pre⟩)
        have HGG := Lib.hid hgg
        clear own4 gr4 or4 s4 gx4 sz4 ox4 nb4 hgg hgn2 hrow y4 y5
        by_cases hkm : D.length + 1 = m
        · have HE := Lib.hid (show els E l m m [] i = .ok (ps ++ [t]) j2 by rw [← HEL.out, if_pos (Or.inl (by rw [← HKL.out]; exact hkm))])
          obtain ⟨-, -, -, -, y4⟩ := N5.out.bk.c5
          have hq1 : ((D.length : Int) + 1 == (m : Int)) = true := by rw [beq_iff_eq]; omega
          have hq2 : (D.length : Int) + 1 = (m : Int) := by omega
          clear hkm
          go_wp2
          go_ret
          rw [HE.out]
          exact ⟨rfl, v3, z3, r3, _, g2, S5.out, E5.out, N5.out, fun ps' j' he => by injection he with h1 h2; subst h1; exact ⟨M3.out, X5.out, HGG.out⟩⟩
        · have HTK := Lib.hid (fun W2 (s2 : St w0 a l.length cap j2 v3 z3 r3 W2) => take_any 36 W2 s2 HC.out (by have := HL.out; omega) HO2.out)
          obtain ⟨-, -, -, -, y4⟩ := N5.out.bk.c5
          have hq1 : ((D.length : Int) + 1 == (m : Int)) = false := by rw [beq_eq_false_iff_ne]; omega
          have hq2 : ¬ (D.length : Int) + 1 = (m : Int) := by omega
          have HKM := Lib.hid hkm
          by_cases h36 : kd l j2 = 36
          · have HE := Lib.hid (show els E l m g (ps ++ [t]) (sk l (j2 + 1)) = els E l m m [] i by rw [← HEL.out, if_neg (by have := HKL.out; omega)])
            have HJ2 := Lib.hid (kd_lt (l := l) (i := j2) (by omega))
            rw [decide_eq_true h36, show aft l j2 36 = j2 + 1 from if_pos h36] at HTK
            have HSK := Lib.hid (fun W2 (s2 : St w0 a l.length cap (j2 + 1) v3 z3 r3 W2) => skip_any W2 s2 HC.out (by have := HL.out; omega) HJ2.out)
            have HSL := Lib.hid (sk_le (l := l) (i := j2 + 1) HJ2.out)
            clear h36 hkm
            go_wp2_with (first | (refine (HSK.out _ S6.out).mono ?_; rintro e w7 ⟨rfl, s7, g7⟩; have S7 := Lib.hid s7; have G7 := Lib.hid (G6.out.trans g7); clear s7 g7) | (refine (HTK.out _ S5.out).mono ?_; rintro e w6 ⟨rfl, s6, g6⟩; have S6 := Lib.hid s6; have G6 := Lib.hid g6; clear s6 g6))
            go_roundw
            case rel =>
              have e7 : Ext (X0 w0.heap.size) v3 z3 r3 (w4.setCell ⟨gn, 4, none⟩ (.slice (some ⟨g2, 0, none⟩) (D.length + 1) cap2)) v3 z3 r3 w7 := Ext.of G7.out
              refine ⟨ps ++ [t], sk l (j2 + 1), v3, z3, r3, _, g2, S7.out, E5.out.trans (e7.wide (fun k _ h => Or.inl h)), N5.out.ext e7, M3.out, X5.out.on e7, HGG.out, ?_, ?_, ?_, HSL.out.2, ?_⟩
              · rw [← HE.out, List.length_append, List.length_singleton, show m - (ps.length + 1) = g by have := HG.out; omega]
              · rw [List.length_append, List.length_singleton]; have := HKL.out; have := HKP.out; have := HPM.out; have := HKM.out; omega
              · have := HIJ.out; have := HO1.out; have := HSL.out.1; omega
              · have := HZ3.out; have := HSL.out.1; omega
            case measure =>
              rw [at_of S7.out, HAT.out]
              have := HO1.out
              have := HSL.out
              have := HJ2.out
              omega
          · have HE := Lib.hid (show els E l m m [] i = .ok (ps ++ [t]) j2 by rw [← HEL.out, if_pos (Or.inr h36)])
            rw [decide_eq_false h36, show aft l j2 36 = j2 from if_neg h36] at HTK
            clear h36 hkm
            go_wp2_with (refine (HTK.out _ S5.out).mono ?_; rintro e w6 ⟨rfl, s6, g6⟩; have S6 := Lib.hid s6; have G6 := Lib.hid g6; clear s6 g6)
            go_ret
            have e7 : Ext (X0 w0.heap.size) v3 z3 r3 (w4.setCell ⟨gn, 4, none⟩ (.slice (some ⟨g2, 0, none⟩) (D.length + 1) cap2)) v3 z3 r3 w6 := Ext.of G6.out
            rw [HE.out]
            exact ⟨rfl, v3, z3, r3, _, g2, S6.out, E5.out.trans (e7.wide (fun k _ h => Or.inl h)), N5.out.ext e7, fun ps' j' he => by injection he with h1 h2; subst h1; exact ⟨M3.out, X5.out.on e7, HGG.out⟩⟩
    
end
end Go.Proofs.YtiilpnoaocfjgaaGreatDoor.pr
