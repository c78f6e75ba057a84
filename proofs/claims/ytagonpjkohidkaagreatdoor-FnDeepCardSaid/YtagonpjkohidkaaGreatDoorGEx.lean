/-
  impl's exprParser: elements: contracts.
  impl's exprParser: listed, group, call, name, builtin: contracts.
  impl's exprParser: group, call, name, builtin: contracts.
  impl's exprParser: call, name, builtin: contracts.
  impl's exprParser: begun, continued, mayBeFirst: contracts.
  impl's exprParser: first: contracts.
  impl's exprParser: expr: contracts.
-/
import Derived.Test.YtagonpjkohidkaaGreatDoorPeMeth3
import Derived.Test.YtagonpjkohidkaaGreatDoorOperand
import Derived.Test.YtagonpjkohidkaaGreatDoorLevel
namespace Go.Proofs.YtagonpjkohidkaaGreatDoor.pr
open Go.ChangeShapes Go.WideShapes Go.ChangeAt Go.RowKit
open tk (Tk)
open nd (Nd PT KidV IBlk OwnI shN makeT)
open ps (Ps B5 posOk kidI top)
open pe
set_option linter.unusedVariables false
set_option linter.unusedSimpArgs false
set_option maxRecDepth 20000

/-- 'append(l, v)' of a row of integers, as a step of a region that draws its order. -/
theorem step_append_kid {ops : Array Oper} {o : Oper} {a : Act} {w : World} {K : Act → World → Prop} {Q : Exit → Act → World → Prop} {E : Prop} (hgd : o.guard = none) (s x : Operand)
    (ho : o.op = .call { callee := .builtin .append, args := #[s, x], argTypes := #[42, 42] }) (B : Nat) (v : Value) (d : List Int) (z : Int) (hs : a.eval s = v)
    (hown : OwnI B v d w) (gz : Nat) (hx : a.eval x = .slice (some ⟨gz, 0, none⟩) 1 1) (hz : w.heap[gz]? = some (.cells #[.int .i64 z] 3 (0, 0))) (hn : d.length ≤ 1048576) (hB : B ≤ w.heap.size)
    (h : ∀ g cap w', OwnI B (.slice (some ⟨g, 0, none⟩) (d.length + 1) cap) (d ++ [z]) w' → w.grownBy w' v.ownBlock → (v.ownBlock = some g ∨ w.heap.size ≤ g) → K (a.put o.dst (.slice (some ⟨g, 0, none⟩) (d.length + 1) cap)) w') :
    if Region.wanted o (yielded ops a.tmps) = true then Oper.wp Tryz.prog o a w K Q else E := by
  obtain ⟨i0, hi, hz0, hz1, hz2⟩ := info_parts Go.Proofs.YtagonpjkohidkaaGreatDoor.nd.Tryz.infoInt
  refine step_append_lies w hgd s x 42 ho B 3 i0 _ 1 8 Tryz.underlying42 hi hz0 hz1 hz2 rfl (by decide) v d.length (nd.ivals d) hs hown ⟨gz, 0, none⟩ 1 1 [.int .i64 z] hx rfl ?_ ?_ (by decide) (by unfold maxLen; omega) (by omega) hB _ rfl ?_
  · intro j u hj
    rw [show ((⟨gz, 0, none⟩ : Addr).add j) = ⟨gz, j, none⟩ by unfold Addr.add; split <;> simp_all]
    rw [cell_of_row _ gz j _ _ _ hz]
    simpa using hj
  · intro u hu
    simp at hu
    rcases hu with rfl <;> rfl
  · intro g cap w' hown' hg hor _
    refine h g cap w' ?_ hg (hor.imp id (fun e => by omega))
    unfold OwnI
    rw [nd.ivals_snoc, List.length_append]
    exact hown'
theorem below_none {w w' : World} (h : w.grownBy w' none) : Below w.heap.size w w' := ⟨h.os, h.tape, h.output, h.size, fun k hk => h.block k hk (by simp)⟩
/-- Where a row of kids grows. -/
theorem St.grown {w0 : World} {a : Option Addr} {n cap i : Nat} {v u : Value} {z : List (Nd × Value)} {r : Nat → Nat} {w w' : World} (h : St w0 a n cap i v z r w) (hg : w.grownBy w' u.ownBlock) (hq : ∀ q, u.ownBlock = some q → w0.heap.size < q ∧ v.ownBlock ≠ some q ∧ ∀ j, j < z.length → r j ≠ q) : St w0 a n cap i v z r w' := by
  cases hu : u.ownBlock with
  | none => rw [hu] at hg; exact h.keep (below_none hg)
  | some q =>
    rw [hu] at hg
    obtain ⟨h1, h2, h3⟩ := hq q hu
    refine ⟨h.bel.grown hg h.bel.size (fun k hk => by injection hk with hk; omega), (hg.block _ h.lt (by simp; omega)).trans h.box, h.own.kept hg h2 h3, h.ge⟩
theorem Rw.own {b q : Nat} {u : Value} {ks : List Int} {v : Value} {z : List (Nd × Value)} {r : Nat → Nat} {w : World} (h : Rw b q u ks v z r w) : OwnI (b + 1) u ks w := by
  rcases h with ⟨rfl, rfl⟩ | ⟨h, -⟩
  · exact OwnI.nil _ _
  · exact h.own
theorem Rw.blk {b q : Nat} {u : Value} {ks : List Int} {v : Value} {z : List (Nd × Value)} {r : Nat → Nat} {w : World} (h : Rw b q u ks v z r w) : ∀ g, u.ownBlock = some g → g = q ∧ q < w.heap.size ∧ b < g ∧ v.ownBlock ≠ some g ∧ ∀ j, j < z.length → r j ≠ g := by
  intro g hg
  rcases h with ⟨rfl, rfl⟩ | ⟨h1, h2, h3, h4, h5⟩
  · cases hg
  · rcases h1 with ⟨rfl, -⟩ | ⟨c, rfl, -⟩
    · cases hg
    · have e : q = g := by simpa [Value.ownBlock] using hg
      subst e
      exact ⟨rfl, h2, h5, h4, h3⟩
theorem Rw.mk {b g n c : Nat} {ks : List Int} {v : Value} {z : List (Nd × Value)} {r : Nat → Nat} {w : World} (h : OwnI (b + 1) (.slice (some ⟨g, 0, none⟩) n c) ks w) (h3 : ∀ j, j < z.length → r j ≠ g) (h4 : v.ownBlock ≠ some g) : Rw b g (.slice (some ⟨g, 0, none⟩) n c) ks v z r w := by
  rcases h.blkM with ⟨hh, -⟩ | ⟨g', c', hv, hB, hb, hm⟩
  · injection hh with hh _ _; cases hh
  · injection hv with hv1 hv2 hv3
    injection hv1 with hv1
    injection hv1 with hv1 _ _
    subst hv1; subst hv2; subst hv3
    exact .inr ⟨.inr ⟨c, rfl, hb, hB, hm⟩, hb.lt, h3, h4, hB⟩

theorem els_succ (E : Ps → Nat → R) (l : List Tk) (m g : Nat) (ps : List (List Nd)) (i : Nat) : els E l m (g + 1) ps i = (match E top i with | .bad j => .bad j | .ok _ _ t j => if ps.length + 1 = m ∨ ¬ kd l j = 36 then .ok (ps ++ [t]) j else els E l m g (ps ++ [t]) (sk l (j + 1))) := rfl
def okP : P → Bool
  | .bad _ => false
  | .ok _ _ => true
def atP : P → Nat
  | .bad j => j
  | .ok _ j => j
section
variable {w0 : World} {l : List Tk} {a : Option Addr} {cap i : Nat} {v : Value} {z : List (Nd × Value)} {r : Nat → Nat} {E : Ps → Nat → R} {M i0 : Nat}

/-- What elements answers. -/
def ERes (w0 : World) (a : Option Addr) (n cap : Nat) (zb : List Nd) (gn : Nat) (k op : Int) (s : ByteArray) (v : Value) (z : List (Nd × Value)) (r : Nat → Nat) (w : World) (R : P) (e : Ending) (w' : World) : Prop :=
  e = .returned (.bool (okP R)) ∧ ∃ v' z' r' u' q', St w0 a n cap (atP R) v' z' r' w' ∧ Ext (Xq w0.heap.size gn) v z r w v' z' r' w' ∧ Mb (X0 w0.heap.size) w0.heap.size gn #[.int .i64 k, .int .i64 op, .string s, .string ⟨#[]⟩, u'] 44 v' z' r' w' ∧ ∀ ps j, R = .ok ps j → z'.map (·.1) = zb ++ G1 zb.length ps ∧ Rw w0.heap.size q' u' (G2 zb.length ps) v' z' r' w' ∧ w.heap.size ≤ q'
def RelEl (w0 : World) (a : Option Addr) (cap : Nat) (l : List Tk) (E : Ps → Nat → R) (zb : List Nd) (gn : Nat) (k op : Int) (s : ByteArray) (m : Nat) (i : Nat) (v : Value) (z : List (Nd × Value)) (r : Nat → Nat) (w : World) (wr : World) : Prop :=
  ∃ ps j v' z' r' u' q', St w0 a l.length cap j v' z' r' wr ∧ Ext (Xq w0.heap.size gn) v z r w v' z' r' wr ∧ Mb (X0 w0.heap.size) w0.heap.size gn #[.int .i64 k, .int .i64 op, .string s, .string ⟨#[]⟩, u'] 44 v' z' r' wr ∧ z'.map (·.1) = zb ++ G1 zb.length ps ∧ Rw w0.heap.size q' u' (G2 zb.length ps) v' z' r' wr ∧ w.heap.size ≤ q' ∧ els E l m (m - ps.length) ps j = els E l m m [] i ∧ ps.length < m ∧ i ≤ j ∧ j ≤ l.length ∧ z'.length + 2 * (l.length - j) ≤ 200000
set_option maxHeartbeats 6400000 in
theorem elements_any (hE : CallE w0 a cap l E i0) (hOk : ∀ p i, i ≤ l.length → Ok M l i (E p i)) (k op : Int) (s : ByteArray) (m : Nat) (zb : List Nd) (gn : Nat) (w : World) (h0 : i0 ≤ i) (hi : i ≤ l.length) (hl : l.length ≤ 50000) (hc : tk.Lies w0.heap.size w0 a l) (hm : 0 < m) (hm2 : m ≤ 6) (hz : z.length + 2 * (l.length - i) ≤ 200000) (hst : St w0 a l.length cap i v z r w) (hn : Mb (X0 w0.heap.size) w0.heap.size gn #[.int .i64 k, .int .i64 op, .string s, .string ⟨#[]⟩, .slice none 0 0] 44 v z r w) (hzb : z.map (·.1) = zb) :
    Calls Tryz.prog 224 #[.pointer (some ⟨w0.heap.size, 0, none⟩), .pointer (some ⟨gn, 0, none⟩), .int .i64 (m : Int)] w (ERes w0 a l.length cap zb gn k op s v z r w (els E l m m [] i)) := by
  have HST := Lib.hid hst
  have HN := Lib.hid hn
  have HC := Lib.hid hc
  have HL := Lib.hid hl
  have HZB := Lib.hid (show z.map (·.1) = zb ++ G1 zb.length [] by rw [hzb, G1_nil, List.append_nil])
  have HZ := Lib.hid hz
  have HI := Lib.hid hi
  have HGN := Lib.hid hn.bk.lt
  have hfl := fld_l
  have HM := Lib.hid hm
  clear hst hn hzb hz hi hc hm
  go_enter Tryz.func224, Tryz.ntmps224
  go_wp2
  go_loopw [7] (fun _ wr => RelEl w0 a cap l E zb gn k op s m i v z r w wr) (fun _ wr => l.length - atOf w0.heap.size wr)
  case atStart => exact ⟨[], i, v, z, r, _, w.heap.size, HST.out, Ext.refl _ _ _ _ _, HN.out, HZB.out, .inl ⟨G2_nil _, rfl⟩, Nat.le_refl _, rfl, HM.out, Nat.le_refl _, HI.out, HZ.out⟩
  case round =>
    obtain ⟨ps, j, v1, z1, r1, u1, q1, hs1, he1, hn1, hz1, hr1, hq1, hels, hpm, hij, hjl, hzl⟩ := hrel
    have HAT := Lib.hid (at_of hs1)
    have HEX := Lib.hid (fun W2 (s2 : St w0 a l.length cap j v1 z1 r1 W2) => hE top j v1 z1 r1 W2 (Nat.le_trans h0 hij) hjl hzl s2)
    have HOK := Lib.hid (hOk top j hjl)
    obtain ⟨g, hg⟩ : ∃ g, m - ps.length = g + 1 := ⟨m - ps.length - 1, by omega⟩
    rw [hg] at hels
    rw [els_succ] at hels
    have S1 := Lib.hid hs1
    have E1 := Lib.hid he1
    have N1 := Lib.hid hn1
    have M1 := Lib.hid hz1
    have X1 := Lib.hid hr1
    have Q1 := Lib.hid hq1
    have HJL := Lib.hid hjl
    have HZL := Lib.hid hzl
    have HIJ := Lib.hid hij
    have HG := Lib.hid hg
    clear hs1 he1 hn1 hz1 hr1 hq1 hjl hzl hij hg
    cases hr : E top j with
    | bad j2 =>
      rw [hr] at hels
      simp only at hels
      rw [hr] at HEX
      have HELS := Lib.hid hels
      clear hels hr
      go_wp2_with (first | (go_at_call 14; refine (_root_.Go.Proofs.YtagonpjkohidkaaGreatDoor.ps.impl_top _).mono ?_; rintro e w2 ⟨rfl, b2⟩; have S2 := Lib.hid (S1.out.keep b2); have G2' := Lib.hid (show Ext (X0 w0.heap.size) v1 z1 r1 wr v1 z1 r1 w2 from Ext.of (Gr.quiet b2)); clear b2) | (refine (HEX.out w2 S2.out).mono ?_; rintro e w3 ⟨rfl, v3, z3, r3, s3, e3, -⟩; simp only [lvR, tgR]))
      simp only [atR] at s3
      go_ret
      rw [← HELS.out]
      have N3 := (N1.out.ext G2'.out).ext e3
      refine ⟨rfl, v3, z3, r3, u1, q1, s3, E1.out.trans ((G2'.out.trans e3).wide (fun k _ h => .inl h)), N3, fun ps' j' he => by cases he⟩
    | ok lv tg t j2 =>
      rw [hr] at hels HEX HOK
      simp only at hels
      have hok := HOK.out
      obtain ⟨o1, o2, o3, o4, o5, o6⟩ := hok
      have hlv : (lv == 0) = false := by rw [beq_eq_false_iff_ne]; omega
      have hlv2 : (lv != 0) = true := by simp; omega
      have hlv3 : ¬ lv = 0 := by omega
      have HELS := Lib.hid hels
      have HO2 := Lib.hid o2
      have HO1 := Lib.hid o1
      have HO4 := Lib.hid o4
      have HO5 := Lib.hid o5
      clear hels hr o1 o2 o3 o4 o5 o6
      go_wp2_with (first | (go_at_call 14; refine (_root_.Go.Proofs.YtagonpjkohidkaaGreatDoor.ps.impl_top _).mono ?_; rintro e w2 ⟨rfl, b2⟩; have S2 := Lib.hid (S1.out.keep b2); have G2' := Lib.hid (show Ext (X0 w0.heap.size) v1 z1 r1 wr v1 z1 r1 w2 from Ext.of (Gr.quiet b2)); clear b2) | (refine (HEX.out w2 S2.out).mono ?_; rintro e w3 ⟨rfl, v3, z3, r3, s3, e3, m3⟩; simp only [lvR, tgR]))
      simp only [atR] at s3
      have m3 := m3 _ _ _ _ rfl
      have hzz : z3.length = z1.length + t.length := by have := congrArg List.length m3; simpa using this
      have hzl1 : z1.length = zb.length + nd.sumL ps := by have := congrArg List.length M1.out; rw [List.length_map, List.length_append, G1_len] at this; exact this
      have M3 := Lib.hid (show z3.map (·.1) = zb ++ G1 zb.length (ps ++ [t]) by rw [m3, M1.out, G1_snoc, List.append_assoc, List.length_append])
      have HSB := Lib.hid (show zb.length + nd.sumL ps + t.length ≤ 1000000 by have := HZL.out; have := HO4.out; have := HO2.out; omega)
      have hz0 : 0 < z3.length := by have := HO5.out; omega
      have HZ3 := Lib.hid (show z3.length + 2 * (l.length - j2) ≤ 200000 by have := HZL.out; have := HO4.out; have := HO2.out; have := HO1.out; omega)
      have hzx : z3.length ≤ 1000000 := by have := HZ3.out; omega
      have HROOT := Lib.hid (fun W2 (s4 : St w0 a l.length cap j2 v3 z3 r3 W2) => root_any W2 s4 hz0 hzx)
      have HV := Lib.hid (show ((z3.length : Int) - 1) = ((zb.length + (G1 zb.length (ps ++ [t])).length : Nat) : Int) - 1 by
        have := congrArg List.length M3.out
        rw [List.length_map, List.length_append] at this
        omega)
      obtain ⟨ZV, hZV⟩ : ∃ ZV, ZV = ((z3.length : Int) - 1) := ⟨_, rfl⟩
      rw [← hZV] at HROOT HV
      have S3 := Lib.hid s3
      have E3 := Lib.hid (E1.out.trans ((G2'.out.trans e3).wide (fun k _ h => Or.inl h)))
      have N3 := Lib.hid ((N1.out.ext G2'.out).ext e3)
      have X3 := Lib.hid ((X1.out.on G2'.out).on e3)
      obtain ⟨D, hD⟩ : ∃ D, G2 zb.length ps = D := ⟨_, rfl⟩
      have hkl : D.length = ps.length := by rw [← hD, G2_len]
      have HGS := Lib.hid (show G2 zb.length (ps ++ [t]) = D ++ [ZV] by rw [G2_snoc _ _ _ HSB.out, ← HV.out, hD])
      rw [hD] at X3 X1
      obtain ⟨uk, uc, hu⟩ := X1.out.form
      subst hu
      obtain ⟨K, hK⟩ : ∃ K, ps.length = K := ⟨_, rfl⟩
      rw [hK] at hkl
      have HKL := Lib.hid hkl
      have HKP := Lib.hid hK
      rw [hK] at hpm
      have HEL := Lib.hid (show (if K + 1 = m ∨ ¬ kd l j2 = 36 then P.ok (ps ++ [t]) j2 else els E l m g (ps ++ [t]) (sk l (j2 + 1))) = els E l m m [] i by rw [← HELS.out, hK])
      have hKb : D.length ≤ 6 := by omega
      have HPM := Lib.hid hpm
      have HOW := Lib.hid (show ∀ w1, Below w3.heap.size w3 w1 → OwnI (w0.heap.size + 1) (.slice uk D.length uc) D w1 from fun w1 hb => X3.out.own.keep hb (Nat.le_refl _))
      have HSW := Lib.hid (show ∀ w1, Below w3.heap.size w3 w1 → ∀ w4, w1.grownBy w4 (Value.slice uk D.length uc).ownBlock → St w0 a l.length cap j2 v3 z3 r3 w4 from fun w1 hb w4 hg => (S3.out.keep hb).grown hg (fun q hq => by obtain ⟨-, -, h3, h4, h5⟩ := X3.out.blk q hq; exact ⟨h3, h4, h5⟩))
      obtain ⟨n0, n1, n2, n3, n4⟩ := N3.out.bk.c5
      have N4 : ∀ z, (w3.alloc z).cell? ⟨gn, 4, none⟩ = some (.slice uk D.length uc) := fun z => nd.cell_past z n4
      have HUQ := Lib.hid (show ∀ g, (Value.slice uk D.length uc).ownBlock = some g → w.heap.size ≤ g from fun g hg => by obtain ⟨h1, -⟩ := X3.out.blk g hg; rw [h1]; exact Q1.out)
      have HNB := Lib.hid (show ∀ w1, (∀ k, k < w3.heap.size → some k ≠ (Value.slice uk D.length uc).ownBlock → w1.heap[k]? = w3.heap[k]?) → Mb (X0 w0.heap.size) w0.heap.size gn #[.int .i64 k, .int .i64 op, .string s, .string ⟨#[]⟩, .slice uk D.length uc] 44 v3 z3 r3 w1 from fun w1 hk => ⟨(hk gn N3.out.bk.lt (fun e => by
        have h1 := HUQ.out gn e.symm
        have h2 := HGN.out
        omega)).trans N3.out.bk, N3.out.x, N3.out.b, N3.out.o, N3.out.r⟩)
      have HS3L := Lib.hid S3.out.lt
      clear s3 e3 m3 hzz hzl1 hz0 hzx hZV hK hkl hD hpm n0 n1 n2 n3
      go_wp2
      go_region_law (first | (refine step_append_kid (by rfl) _ _ (by rfl) (w0.heap.size + 1) (.slice uk D.length uc) D ZV (by rfl) (HOW.out _ (by first | exact (Below.refl _ w3).alloc (Nat.le_refl _) _ | exact ((Below.refl _ w3).alloc (Nat.le_refl _) _).drew | exact ((Below.refl _ w3).drew).alloc (Nat.le_refl _) _)) w3.heap.size (by rfl) (by exact heap_alloc_new w3 _) (by omega) (by simp; exact Nat.le_of_lt HS3L.out) ?_; intro g2 cap2 w4 own4 gr4 or4; have s4 := HSW.out _ (by first | exact (Below.refl _ w3).alloc (Nat.le_refl _) _ | exact ((Below.refl _ w3).alloc (Nat.le_refl _) _).drew | exact ((Below.refl _ w3).drew).alloc (Nat.le_refl _) _) w4 gr4; have gx4 : ∀ k, k < w3.heap.size → some k ≠ (Value.slice uk D.length uc).ownBlock → w4.heap[k]? = w3.heap[k]? := fun k hk hn => (gr4.block k (by simp; exact Nat.lt_succ_of_lt hk) hn).trans (Below.heap_alloc w3 _ k hk); have sz4 : w3.heap.size ≤ w4.heap.size := Nat.le_trans (by simp) gr4.size; have ox4 : (Value.slice uk D.length uc).ownBlock = some g2 ∨ w3.heap.size ≤ g2 := or4.imp id (fun h => Nat.le_trans (by simp) h); have nb4 := HNB.out w4 gx4; obtain ⟨-, -, -, -, y4⟩ := nb4.bk.c5; have y5 := nb4.bk.f 4) | (go_simp; go_at_call 93; refine (HROOT.out _ (by first | exact S3.out | exact S3.out.drew)).mono ?_; rintro e w9 ⟨rfl, rfl⟩))
      all_goals
        have hgg : w.heap.size ≤ g2 := by
          rcases ox4 with h | h
          · exact HUQ.out g2 h
          · exact Nat.le_trans E3.out.g.size h
        have hgn2 : gn ≠ g2 := by have := HGN.out; omega
        have hrow : (∀ j, j < z3.length → r3 j ≠ g2) ∧ v3.ownBlock ≠ some g2 := by
          rcases ox4 with h | h
          · obtain ⟨-, -, -, h4, h5⟩ := X3.out.blk g2 h; exact ⟨h5, h4⟩
          · exact ⟨fun j hj => by have := S3.out.own.lt j hj; omega, fun e => S3.out.new h e.symm⟩
        have S5 := Lib.hid (s4.mset nb4 4 (.slice (some ⟨g2, 0, none⟩) (D.length + 1) cap2))
        have N5 := Lib.hid (nb4.set 4 (.slice (some ⟨g2, 0, none⟩) (D.length + 1) cap2))
        have X5 := Lib.hid (Rw.mk (v := v3) (z := z3) (r := r3) (nd.OwnI.kept own4 (nd.grown_one w4 gn 4 (.slice (some ⟨g2, 0, none⟩) (D.length + 1) cap2)) (fun e => hgn2 (by simpa [Value.ownBlock] using e.symm))) hrow.1 hrow.2)
        rw [← HGS.out] at X5
        have E5 := Lib.hid (show Ext (Xq w0.heap.size gn) v z r w v3 z3 r3 (w4.setCell ⟨gn, 4, none⟩ (.slice (some ⟨g2, 0, none⟩) (D.length + 1) cap2)) from ⟨⟨by have := E3.out.g.size; simp; omega, fun k hk hx hn => by
          rw [heap_setCell_other _ _ k _ (show k ≠ gn from fun e => hx (Or.inr e))]
          exact (gx4 k (Nat.lt_of_lt_of_le hk E3.out.g.size) (fun e => by have := HUQ.out k e.symm; omega)).trans (E3.out.g.keep k hk hx hn), E3.out.g.own⟩, E3.out.old, E3.out.new, E3.out.pre⟩)
        have HGG := Lib.hid hgg
        clear own4 gr4 or4 s4 gx4 sz4 ox4 nb4 hgg hgn2 hrow y4 y5
        by_cases hkm : D.length + 1 = m
        · have HE := Lib.hid (show els E l m m [] i = .ok (ps ++ [t]) j2 by rw [← HEL.out, if_pos (Or.inl (by rw [← HKL.out]; exact hkm))])
          obtain ⟨-, -, -, -, y4⟩ := N5.out.bk.c5
          have hq1 : ((D.length : Int) + 1 == (m : Int)) = true := by rw [beq_iff_eq]; omega
          have hq2 : (D.length : Int) + 1 = (m : Int) := by omega
          clear hkm
          go_wp2
          go_ret
          rw [HE.out]
          exact ⟨rfl, v3, z3, r3, _, g2, S5.out, E5.out, N5.out, fun ps' j' he => by injection he with h1 h2; subst h1; exact ⟨M3.out, X5.out, HGG.out⟩⟩
        · have HTK := Lib.hid (fun W2 (s2 : St w0 a l.length cap j2 v3 z3 r3 W2) => take_any 36 W2 s2 HC.out (by have := HL.out; omega) HO2.out)
          obtain ⟨-, -, -, -, y4⟩ := N5.out.bk.c5
          have hq1 : ((D.length : Int) + 1 == (m : Int)) = false := by rw [beq_eq_false_iff_ne]; omega
          have hq2 : ¬ (D.length : Int) + 1 = (m : Int) := by omega
          have HKM := Lib.hid hkm
          by_cases h36 : kd l j2 = 36
          · have HE := Lib.hid (show els E l m g (ps ++ [t]) (sk l (j2 + 1)) = els E l m m [] i by rw [← HEL.out, if_neg (by have := HKL.out; omega)])
            have HJ2 := Lib.hid (kd_lt (l := l) (i := j2) (by omega))
            rw [decide_eq_true h36, show aft l j2 36 = j2 + 1 from if_pos h36] at HTK
            have HSK := Lib.hid (fun W2 (s2 : St w0 a l.length cap (j2 + 1) v3 z3 r3 W2) => skip_any W2 s2 HC.out (by have := HL.out; omega) HJ2.out)
            have HSL := Lib.hid (sk_le (l := l) (i := j2 + 1) HJ2.out)
            clear h36 hkm
            go_wp2_with (first | (refine (HSK.out _ S6.out).mono ?_; rintro e w7 ⟨rfl, s7, g7⟩; have S7 := Lib.hid s7; have G7 := Lib.hid (G6.out.trans g7); clear s7 g7) | (refine (HTK.out _ S5.out).mono ?_; rintro e w6 ⟨rfl, s6, g6⟩; have S6 := Lib.hid s6; have G6 := Lib.hid g6; clear s6 g6))
            go_roundw
            case rel =>
              have e7 : Ext (X0 w0.heap.size) v3 z3 r3 (w4.setCell ⟨gn, 4, none⟩ (.slice (some ⟨g2, 0, none⟩) (D.length + 1) cap2)) v3 z3 r3 w7 := Ext.of G7.out
              refine ⟨ps ++ [t], sk l (j2 + 1), v3, z3, r3, _, g2, S7.out, E5.out.trans (e7.wide (fun k _ h => Or.inl h)), N5.out.ext e7, M3.out, X5.out.on e7, HGG.out, ?_, ?_, ?_, HSL.out.2, ?_⟩
              · rw [← HE.out, List.length_append, List.length_singleton, show m - (ps.length + 1) = g by have := HG.out; omega]
              · rw [List.length_append, List.length_singleton]; have := HKL.out; have := HKP.out; have := HPM.out; have := HKM.out; omega
              · have := HIJ.out; have := HO1.out; have := HSL.out.1; omega
              · have := HZ3.out; have := HSL.out.1; omega
            case measure =>
              rw [at_of S7.out, HAT.out]
              have := HO1.out
              have := HSL.out
              have := HJ2.out
              omega
          · have HE := Lib.hid (show els E l m m [] i = .ok (ps ++ [t]) j2 by rw [← HEL.out, if_pos (Or.inr h36)])
            rw [decide_eq_false h36, show aft l j2 36 = j2 from if_neg h36] at HTK
            clear h36 hkm
            go_wp2_with (refine (HTK.out _ S5.out).mono ?_; rintro e w6 ⟨rfl, s6, g6⟩; have S6 := Lib.hid s6; have G6 := Lib.hid g6; clear s6 g6)
            go_ret
            have e7 : Ext (X0 w0.heap.size) v3 z3 r3 (w4.setCell ⟨gn, 4, none⟩ (.slice (some ⟨g2, 0, none⟩) (D.length + 1) cap2)) v3 z3 r3 w6 := Ext.of G6.out
            rw [HE.out]
            exact ⟨rfl, v3, z3, r3, _, g2, S6.out, E5.out.trans (e7.wide (fun k _ h => Or.inl h)), N5.out.ext e7, fun ps' j' he => by injection he with h1 h2; subst h1; exact ⟨M3.out, X5.out.on e7, HGG.out⟩⟩
    
end
end Go.Proofs.YtagonpjkohidkaaGreatDoor.pr

namespace Go.Proofs.YtagonpjkohidkaaGreatDoor.pr
open Go.ChangeShapes Go.WideShapes Go.ChangeAt Go.RowKit
open tk (Tk)
open nd (Nd PT KidV IBlk OwnI shN makeT)
open ps (Ps B5 posOk kidI top)
open pe
set_option linter.unusedVariables false
set_option linter.unusedSimpArgs false
set_option maxRecDepth 20000

/-- The parser and a box for the result. -/
structure Fy (w0 : World) (a : Option Addr) (n cap : Nat) (X : Nat → Prop) (gR : Nat) (v0 : Value) (z0 : List (Nd × Value)) (r0 : Nat → Nat) (ws : World) (i : Nat) (v : Value) (z : List (Nd × Value)) (r : Nat → Nat) (w : World) : Prop where
  st : St w0 a n cap i v z r w
  tot : Ext X v0 z0 r0 ws v z r w
  rb : Mb X w0.heap.size gR #[.int .i64 0, .bool false] 72 v z r w
  ge : ws.heap.size ≤ gR
section
variable {w0 : World} {a : Option Addr} {n cap : Nat} {X : Nat → Prop} {gR : Nat} {v0 : Value} {z0 : List (Nd × Value)} {r0 : Nat → Nat} {ws : World} {i i' : Nat} {v v' : Value} {z z' : List (Nd × Value)} {r r' : Nat → Nat} {w w' : World}
theorem Fy.go (h : Fy w0 a n cap X gR v0 z0 r0 ws i v z r w) (s : St w0 a n cap i' v' z' r' w') (e : Ext X v z r w v' z' r' w') : Fy w0 a n cap X gR v0 z0 r0 ws i' v' z' r' w' := ⟨s, h.tot.trans e, h.rb.ext e, h.ge⟩
theorem Fy.quiet (h : Fy w0 a n cap X gR v0 z0 r0 ws i v z r w) (b : Below w.heap.size w w') : Fy w0 a n cap X gR v0 z0 r0 ws i v z r w' := h.go (h.st.keep b) (Ext.of (Gr.quiet b))
theorem Fy.take (h : Fy w0 a n cap X gR v0 z0 r0 ws i v z r w) (hX : X w0.heap.size) (s : St w0 a n cap i' v z r w') (e : Gr (X0 w0.heap.size) v v w w') : Fy w0 a n cap X gR v0 z0 r0 ws i' v z r w' :=
  h.go s (Ext.of (e.wide (fun k _ hk => by rw [show k = w0.heap.size from hk]; exact hX)))
theorem Fy.at (h : Fy w0 a n cap X gR v0 z0 r0 ws i v z r w) (hX : X w0.heap.size) : Fy w0 a n cap X gR v0 z0 r0 ws (i + 1) v z r (w.setCell ⟨w0.heap.size, 1, none⟩ (.int .i64 ((i : Int) + 1))) := by
  have s := h.st.at (i + 1)
  rw [show ((i + 1 : Nat) : Int) = (i : Int) + 1 by omega] at s
  exact h.go s (Ext.of (Gr.at hX 1 _))
/-- A box among those that may be written is written. -/
theorem Fy.mset (h : Fy w0 a n cap X gR v0 z0 r0 ws i v z r w) {g : Nat} {c : Array Value} {ty : TypeId} (m : Mb (X0 w0.heap.size) w0.heap.size g c ty v z r w) (hg : X g) (j : Nat) (u : Value) : Fy w0 a n cap X gR v0 z0 r0 ws i v z r (w.setCell ⟨g, j, none⟩ u) :=
  h.go (h.st.mset m j u) (Ext.of (Gr.set (Gr.refl X v w) (.inl hg) j u))
theorem Fy.bad {e : Ending} {zb : List Nd} (h : Fy w0 a n cap X gR v0 z0 r0 ws i v z r w) (y0 y1 : Value) (he : e = .returned (.agg #[.int .i64 0, .bool false])) : Res w0 a n cap zb X v0 z0 r0 ws (.bad i) e ((w.setCell ⟨gR, 0, none⟩ y0).setCell ⟨gR, 1, none⟩ y1) := by
  have h0 : Res w0 a n cap zb X v z r w (.bad i) e w := ⟨he, v, z, r, h.st, Ext.refl _ _ _ _ _, fun _ _ _ _ he => by cases he⟩
  exact h0.fin h.tot h.rb h.ge y0 y1
theorem Fy.ok {e : Ending} {zb : List Nd} {lv : Int} {tg : Bool} {t : List Nd} (h : Fy w0 a n cap X gR v0 z0 r0 ws i v z r w) (y0 y1 : Value) (he : e = .returned (.agg #[.int .i64 lv, .bool tg])) (hm : z.map (·.1) = zb ++ t.map (shN (zb.length : Int))) : Res w0 a n cap zb X v0 z0 r0 ws (.ok lv tg t i) e ((w.setCell ⟨gR, 0, none⟩ y0).setCell ⟨gR, 1, none⟩ y1) := by
  have h0 : Res w0 a n cap zb X v z r w (.ok lv tg t i) e w := ⟨he, v, z, r, h.st, Ext.refl _ _ _ _ _, fun _ _ _ _ he => by injection he with _ _ he _; rw [← he]; exact hm⟩
  exact h0.fin h.tot h.rb h.ge y0 y1
theorem Fy.res {e : Ending} {zb : List Nd} {R : R} (h : Fy w0 a n cap X gR v0 z0 r0 ws i v z r w) (hr : Res w0 a n cap zb X v z r w R e w') (y0 y1 : Value) : Res w0 a n cap zb X v0 z0 r0 ws R e ((w'.setCell ⟨gR, 0, none⟩ y0).setCell ⟨gR, 1, none⟩ y1) := hr.fin h.tot h.rb h.ge y0 y1
theorem Fy.rbk {e : Ending} {zb : List Nd} {R : R} (h : Fy w0 a n cap X gR v0 z0 r0 ws i v z r w) (hr : Res w0 a n cap zb X v z r w R e w') : Bk gR #[.int .i64 0, .bool false] 72 w' := hr.bk h.rb.bk h.rb.x h.rb.o
end
theorem Mb.new {w0 : World} {a : Option Addr} {n cap i : Nat} {v : Value} {z : List (Nd × Value)} {r : Nat → Nat} {w W : World} {X : Nat → Prop} {g : Nat} {c : Array Value} {ty : TypeId} (hst : St w0 a n cap i v z r w) (hb : Bk g c ty W) (hg : w.heap.size ≤ g) (hx : ¬ X g) : Mb X w0.heap.size g c ty v z r W :=
  ⟨hb, hx, Nat.lt_of_lt_of_le hst.lt hg, hst.new hg, fun j hj => by have := hst.own.lt j hj; omega⟩
/-- What is written into a box that the call made is its own matter. -/
theorem Res.narrow {w0 : World} {a : Option Addr} {n cap : Nat} {zb : List Nd} {v : Value} {z : List (Nd × Value)} {r : Nat → Nat} {w : World} {R : R} {e : Ending} {w' : World} {gn : Nat} (h : Res w0 a n cap zb (Xq w0.heap.size gn) v z r w R e w') (hg : w.heap.size ≤ gn) : Res w0 a n cap zb (X0 w0.heap.size) v z r w R e w' :=
  h.wide fun k hk hx => by rcases hx with h1 | h1; exact h1; omega
/-- The end of a call that read a row of kids of its own. -/
theorem resq {w0 : World} {a : Option Addr} {n cap : Nat} {zb : List Nd} {v0 v : Value} {z0 z : List (Nd × Value)} {r0 r : Nat → Nat} {ws w : World} {R : R} {e : Ending} {w' : World} {gn gR q i : Nat} (hq : ws.heap.size ≤ q) (F : Fy w0 a n cap (Xq w0.heap.size gn) gR v0 z0 r0 ws i v z r w) (h : Res w0 a n cap zb (Xq w0.heap.size q) v z r w R e w') (hgn : ws.heap.size ≤ gn) (hgq : gR ≠ q) (y0 y1 : Value) : Res w0 a n cap zb (X0 w0.heap.size) v0 z0 r0 ws R e ((w'.setCell ⟨gR, 0, none⟩ y0).setCell ⟨gR, 1, none⟩ y1) := by
  have F' := F.tot.wide (Y := fun k => k = w0.heap.size ∨ k = gn ∨ k = q) (fun k _ hk => by rcases hk with h | h; exact .inl h; exact .inr (.inl h))
  have h' := h.wide (Y := fun k => k = w0.heap.size ∨ k = gn ∨ k = q) (fun k _ hk => by rcases hk with h | h; exact .inl h; exact .inr (.inr h))
  have m : Mb (fun k => k = w0.heap.size ∨ k = gn ∨ k = q) w0.heap.size gR #[.int .i64 0, .bool false] 72 v z r w := ⟨F.rb.bk, fun hk => by rcases hk with h | h | h; exact F.rb.x (.inl h); exact F.rb.x (.inr h); exact hgq h, F.rb.b, F.rb.o, F.rb.r⟩
  exact (h'.fin F' m F.ge y0 y1).wide fun k hk hx => by rcases hx with h1 | h1 | h1; exact h1; omega; omega
theorem eres_len {zb : List Nd} {ps : List (List Nd)} {l : List Tk} {M i j : Nat} {z z2 : List (Nd × Value)} (hzb : z.map (·.1) = zb) (m2 : z2.map (·.1) = zb ++ G1 zb.length ps) (ho : OkP M l i 0 (.ok ps j)) (hz : z.length + 2 * (l.length - i) ≤ 200000) : z2.length ≤ 1000000 := by
  have h1 := congrArg List.length hzb
  have h2 := congrArg List.length m2
  rw [List.length_map] at h1
  rw [List.length_map, List.length_append, G1_len] at h2
  obtain ⟨o1, o2, o3, o4, o5⟩ := ho
  omega
section
variable {w0 : World} {l : List Tk} {a : Option Addr} {cap i : Nat} {v : Value} {z : List (Nd × Value)} {r : Nat → Nat} {E : Ps → Nat → R} {M i0 : Nat}

set_option maxHeartbeats 6400000 in
theorem listed_any (hE : CallE w0 a cap l E i0) (hOk : ∀ p i, i ≤ l.length → Ok M l i (E p i)) (k A B : Int) (s0 : ByteArray) (zb : List Nd) (w : World) (h0 : i0 ≤ i + 1) (hA : ¬ A = 0) (hB0 : ¬ B = 0) (hi : i < l.length) (hl : l.length ≤ 50000) (hc : tk.Lies w0.heap.size w0 a l) (hz : z.length + 2 * (l.length - i) ≤ 200000) (hst : St w0 a l.length cap i v z r w) (hzb : z.map (·.1) = zb) :
    Calls Tryz.prog 277 #[.pointer (some ⟨w0.heap.size, 0, none⟩), .agg #[.int .i64 k, .int .i64 0, .string s0, .string ⟨#[]⟩, .slice none 0 0], .int .i64 A, .int .i64 B] w (Res w0 a l.length cap zb (X0 w0.heap.size) v z r w (listed E l k A B i)) := by
  obtain ⟨W, hW⟩ : ∃ W, W = (w.alloc (.cells #[.int .i64 k, .int .i64 0, .string s0, .string ⟨#[]⟩, .slice none 0 0] 44)).alloc (.cells #[.int .i64 0, .bool false] 72) := ⟨_, rfl⟩
  have hB : Below w.heap.size w W := by rw [hW]; exact ((Below.refl _ _).alloc (Nat.le_refl _) _).alloc (by simp) _
  have hNb : Bk w.heap.size #[.int .i64 k, .int .i64 0, .string s0, .string ⟨#[]⟩, .slice none 0 0] 44 W := by rw [hW]; exact (Bk.new _ _ _).alloc _
  have hRb : Bk (w.heap.size + 1) #[.int .i64 0, .bool false] 72 W := by
    rw [hW]
    have := Bk.new (w.alloc (.cells #[.int .i64 k, .int .i64 0, .string s0, .string ⟨#[]⟩, .slice none 0 0] 44)) #[.int .i64 0, .bool false] 72
    simpa using this
  have hlt := hst.lt
  have N0 := Lib.hid (Mb.new (X := X0 w0.heap.size) hst hNb (Nat.le_refl _) (by unfold X0; omega))
  have F0 := Lib.hid (show Fy w0 a l.length cap (Xq w0.heap.size w.heap.size) (w.heap.size + 1) v z r w i v z r W from ⟨hst.keep hB, Ext.of (Gr.quiet hB), Mb.new hst hRb (by omega) (by unfold Xq; omega), by omega⟩)
  have HXB := Lib.hid (show Xq w0.heap.size w.heap.size w0.heap.size from Or.inl rfl)
  have HXN := Lib.hid (show Xq w0.heap.size w.heap.size w.heap.size from Or.inr rfl)
  have HNE := Lib.hid (show ¬ w.heap.size = w0.heap.size by omega)
  have HC := Lib.hid hc
  have HL := Lib.hid hl
  have HI := Lib.hid hi
  have HZ := Lib.hid hz
  have HZB := Lib.hid hzb
  have HZB0 := Lib.hid (show z.map (·.1) = zb ++ G1 zb.length [] by rw [hzb, G1_nil, List.append_nil])
  have HZ1 := Lib.hid (show z.length ≤ 1000000 by omega)
  have hib : i ≤ 50000 := by omega
  have hfs := fld_s
  have HNX := Lib.hid (next_any W F0.out.st hc (by omega) (Nat.le_of_lt hi))
  have HTA := Lib.hid (fun W2 (s2 : St w0 a l.length cap (i + 1) v z r W2) => take_any A W2 s2 hc (by omega) hi)
  obtain ⟨x, hx⟩ : ∃ x, tx l i = x := ⟨_, rfl⟩
  have hfin : ∀ ps j, fin k 0 (tx l i) ps j = fin k 0 x ps j := fun ps j => by rw [hx]
  rw [hx] at HNX
  have hdef : listed E l k A B i = (if kd l (i + 1) = A then (if B = 33 ∧ kd l (i + 2) = 33 then fin k 0 x [] (i + 3) else match els E l 6 6 [] (i + 2) with | .bad j => .bad j | .ok ps j => if kd l j = B then fin k 0 x ps (j + 1) else .bad j) else .bad (i + 1)) := by unfold listed; rw [hx]; rfl
  rw [hdef]
  clear hst hB hNb hRb hzb hz hi hl hlt hx hfin hdef
  by_cases h1 : kd l (i + 1) = A
  · rw [if_pos h1]
    rw [decide_eq_true h1, show aft l (i + 1) A = i + 2 from if_pos h1] at HTA
    have hi1 := kd_lt (l := l) (i := i + 1) (by omega)
    have HTB := Lib.hid (fun W2 (s2 : St w0 a l.length cap (i + 2) v z r W2) => take_any B W2 s2 hc (by have := HL.out; omega) hi1)
    by_cases h2 : B = 33 ∧ kd l (i + 2) = 33
    · rw [if_pos h2]
      obtain ⟨rfl, h3⟩ := h2
      rw [decide_eq_true h3, show aft l (i + 2) 33 = i + 3 from if_pos h3] at HTB
      clear h1 h3 hi1 hc hA hB0 hE hOk h0
      go_enter Tryz.func277, Tryz.ntmps277
      go_wp2_with fail
      rw [← hW]
      clear hW
      refine HNX.out.mono ?_
      rintro e w1 ⟨rfl, b1⟩
      have F1 := Lib.hid (F0.out.quiet b1)
      have N1 := Lib.hid (N0.out.ext (Ext.of (Gr.quiet b1)))
      clear b1
      have N2 := Lib.hid (N1.out.set 2 (.string x))
      have F2 := Lib.hid (F1.out.mset N1.out HXN.out 2 (.string x))
      have N3 := Lib.hid (N2.out.oth HNE.out 1 (.int .i64 ((i : Int) + 1)))
      have F3 := Lib.hid (F2.out.at HXB.out)
      obtain ⟨c0, c1, c2⟩ := F2.out.st.c
      have f1 := F2.out.st.f 1
      obtain ⟨n0, n1, n2, n3, n4⟩ := N1.out.bk.c5
      have nf := N1.out.bk.f 2
      go_wp2_with fail
      clear c0 c1 c2 f1 n0 n1 n2 n3 n4 nf
      refine (HTA.out _ F3.out.st).mono ?_
      rintro e w4 ⟨rfl, s4, g4⟩
      have F4 := Lib.hid (F3.out.take HXB.out s4 g4)
      have N4 := Lib.hid (N3.out.ext (Ext.of g4))
      clear s4 g4
      go_wp2_with fail
      refine (HTB.out _ F4.out.st).mono ?_
      rintro e w5 ⟨rfl, s5, g5⟩
      have F5 := Lib.hid (F4.out.take HXB.out s5 g5)
      have N5 := Lib.hid (N4.out.ext (Ext.of g5))
      clear s5 g5
      obtain ⟨r0, r1⟩ := F5.out.rb.bk.c2
      have g0 := F5.out.rb.bk.f 0
      have g1 := F5.out.rb.bk.f 1
      obtain ⟨n0, n1, n2, n3, n4⟩ := N5.out.bk.c5
      go_wp2_with fail
      clear r0 r1 g0 g1 n0 n1 n2 n3 n4
      refine ((addR k 0 x zb [] (.slice none 0 0) w0.heap.size _ F5.out.st HZ1.out (.inl ⟨rfl, rfl⟩) HZB0.out).mono fun e w' h => h.wide (Y := Xq w0.heap.size w.heap.size) (fun k _ h => by rcases h with h | h <;> exact Or.inl h)).mono ?_
      rintro e w9 h9
      obtain ⟨rfl, hv9⟩ := id h9
      have H9 := Lib.hid h9
      have R9 := Lib.hid (F5.out.rbk h9)
      obtain ⟨r0, r1⟩ := R9.out.c2
      have g0 := R9.out.f 0
      have g1 := R9.out.f 1
      clear h9 hv9
      go_wp2
      obtain ⟨t0, t1⟩ := (R9.out.put2 (.int .i64 (lvR (fin k 0 x [] (i + 3)))) (.bool (tgR (fin k 0 x [] (i + 3))))).c2
      exact bodyPost_ret (v := .agg #[.int .i64 (lvR (fin k 0 x [] (i + 3))), .bool (tgR (fin k 0 x [] (i + 3)))]) (by simp [results, Tryz.results277, go_sem, t0, t1]) rfl ((F5.out.res H9.out _ _).narrow (Nat.le_refl _))
    · rw [if_neg h2]
      have HEL := Lib.hid (fun W2 (s2 : St w0 a l.length cap (i + 2) v z r W2) n2 => elements_any hE hOk k 0 x 6 zb w.heap.size W2 (by omega) hi1 HL.out hc (by omega) (by omega) (by have := HZ.out; omega) s2 n2 HZB.out)
      have HOP := Lib.hid (els_ok (M := M) hOk 6 6 [] (i + 2) hi1 (fun q hq => by simp at hq))
      -- what comes behind the list, from the state in which it is read
      have HEND : ∀ (w5 : World), Fy w0 a l.length cap (Xq w0.heap.size w.heap.size) (w.heap.size + 1) v z r w (i + 2) v z r w5 → True := fun _ _ => trivial
      clear HEND
      cases hr : els E l 6 6 [] (i + 2) with
      | bad j =>
        simp only
        rw [hr] at HEL
        by_cases h33 : B = 33
        · subst h33
          have h3 : ¬ kd l (i + 2) = 33 := fun h => h2 ⟨rfl, h⟩
          rw [decide_eq_false h3, show aft l (i + 2) 33 = i + 2 from if_neg h3] at HTB
          clear h1 h2 h3 hi1 hc hA hB0 hE hOk h0 hr
          go_enter Tryz.func277, Tryz.ntmps277
          go_wp2_with fail
          rw [← hW]
          clear hW
          refine HNX.out.mono ?_
          rintro e w1 ⟨rfl, b1⟩
          have F1 := Lib.hid (F0.out.quiet b1)
          have N1 := Lib.hid (N0.out.ext (Ext.of (Gr.quiet b1)))
          clear b1
          have N2 := Lib.hid (N1.out.set 2 (.string x))
          have F2 := Lib.hid (F1.out.mset N1.out HXN.out 2 (.string x))
          have N3 := Lib.hid (N2.out.oth HNE.out 1 (.int .i64 ((i : Int) + 1)))
          have F3 := Lib.hid (F2.out.at HXB.out)
          obtain ⟨c0, c1, c2⟩ := F2.out.st.c
          have f1 := F2.out.st.f 1
          obtain ⟨n0, n1, n2, n3, n4⟩ := N1.out.bk.c5
          have nf := N1.out.bk.f 2
          go_wp2_with fail
          clear c0 c1 c2 f1 n0 n1 n2 n3 n4 nf
          refine (HTA.out _ F3.out.st).mono ?_
          rintro e w4 ⟨rfl, s4, g4⟩
          have F4 := Lib.hid (F3.out.take HXB.out s4 g4)
          have N4 := Lib.hid (N3.out.ext (Ext.of g4))
          clear s4 g4
          go_wp2_with fail
          refine (HTB.out _ F4.out.st).mono ?_
          rintro e w5 ⟨rfl, s5, g5⟩
          have F5 := Lib.hid (F4.out.take HXB.out s5 g5)
          have N5 := Lib.hid (N4.out.ext (Ext.of g5))
          clear s5 g5
          go_wp2_with fail
          refine (HEL.out _ F5.out.st N5.out).mono ?_
          rintro e w6 ⟨rfl, v6, z6, r6, u6, q6, s6, e6, n6, -⟩
          simp only [atP] at s6
          have F6 := Lib.hid (F5.out.go s6 e6)
          clear s6 e6 n6
          simp only [okP]
          obtain ⟨r0, r1⟩ := F6.out.rb.bk.c2
          have g0 := F6.out.rb.bk.f 0
          have g1 := F6.out.rb.bk.f 1
          go_wp2
          obtain ⟨t0, t1⟩ := (F6.out.rb.bk.put2 (.int .i64 0) (.bool false)).c2
          exact bodyPost_ret (v := .agg #[.int .i64 0, .bool false]) (by simp [results, Tryz.results277, go_sem, t0, t1]) rfl ((F6.out.bad _ _ rfl).narrow (Nat.le_refl _))
        · obtain ⟨b1', b2'⟩ := ne_facts h33
          clear h1 h2 hi1 hc hA hB0 hE hOk h0 hr
          go_enter Tryz.func277, Tryz.ntmps277
          go_wp2_with fail
          rw [← hW]
          clear hW
          refine HNX.out.mono ?_
          rintro e w1 ⟨rfl, b1⟩
          have F1 := Lib.hid (F0.out.quiet b1)
          have N1 := Lib.hid (N0.out.ext (Ext.of (Gr.quiet b1)))
          clear b1
          have N2 := Lib.hid (N1.out.set 2 (.string x))
          have F2 := Lib.hid (F1.out.mset N1.out HXN.out 2 (.string x))
          have N3 := Lib.hid (N2.out.oth HNE.out 1 (.int .i64 ((i : Int) + 1)))
          have F3 := Lib.hid (F2.out.at HXB.out)
          obtain ⟨c0, c1, c2⟩ := F2.out.st.c
          have f1 := F2.out.st.f 1
          obtain ⟨n0, n1, n2, n3, n4⟩ := N1.out.bk.c5
          have nf := N1.out.bk.f 2
          go_wp2_with fail
          clear c0 c1 c2 f1 n0 n1 n2 n3 n4 nf
          refine (HTA.out _ F3.out.st).mono ?_
          rintro e w4 ⟨rfl, s4, g4⟩
          have F4 := Lib.hid (F3.out.take HXB.out s4 g4)
          have N4 := Lib.hid (N3.out.ext (Ext.of g4))
          clear s4 g4
          go_wp2_with fail
          refine (HEL.out _ F4.out.st N4.out).mono ?_
          rintro e w6 ⟨rfl, v6, z6, r6, u6, q6, s6, e6, n6, -⟩
          simp only [atP] at s6
          have F6 := Lib.hid (F4.out.go s6 e6)
          clear s6 e6 n6
          simp only [okP]
          obtain ⟨r0, r1⟩ := F6.out.rb.bk.c2
          have g0 := F6.out.rb.bk.f 0
          have g1 := F6.out.rb.bk.f 1
          go_wp2
          obtain ⟨t0, t1⟩ := (F6.out.rb.bk.put2 (.int .i64 0) (.bool false)).c2
          exact bodyPost_ret (v := .agg #[.int .i64 0, .bool false]) (by simp [results, Tryz.results277, go_sem, t0, t1]) rfl ((F6.out.bad _ _ rfl).narrow (Nat.le_refl _))
      | ok ps j =>
        simp only
        rw [hr] at HEL HOP
        have hjl := HOP.out.2.1
        have HTC := Lib.hid (fun v2 z2 r2 W2 s2 => take_any (v := v2) (z := z2) (r := r2) (cap := cap) (i := j) B W2 s2 hc (by have := HL.out; omega) hjl)
        by_cases h4 : kd l j = B
        · rw [if_pos h4]
          rw [decide_eq_true h4, show aft l j B = j + 1 from if_pos h4] at HTC
          by_cases h33 : B = 33
          · subst h33
            have h3 : ¬ kd l (i + 2) = 33 := fun h => h2 ⟨rfl, h⟩
            rw [decide_eq_false h3, show aft l (i + 2) 33 = i + 2 from if_neg h3] at HTB
            clear h1 h2 h3 h4 hi1 hjl hc hA hB0 hE hOk h0 hr
            go_enter Tryz.func277, Tryz.ntmps277
            go_wp2_with fail
            rw [← hW]
            clear hW
            refine HNX.out.mono ?_
            rintro e w1 ⟨rfl, b1⟩
            have F1 := Lib.hid (F0.out.quiet b1)
            have N1 := Lib.hid (N0.out.ext (Ext.of (Gr.quiet b1)))
            clear b1
            have N2 := Lib.hid (N1.out.set 2 (.string x))
            have F2 := Lib.hid (F1.out.mset N1.out HXN.out 2 (.string x))
            have N3 := Lib.hid (N2.out.oth HNE.out 1 (.int .i64 ((i : Int) + 1)))
            have F3 := Lib.hid (F2.out.at HXB.out)
            obtain ⟨c0, c1, c2⟩ := F2.out.st.c
            have f1 := F2.out.st.f 1
            obtain ⟨n0, n1, n2, n3, n4⟩ := N1.out.bk.c5
            have nf := N1.out.bk.f 2
            go_wp2_with fail
            clear c0 c1 c2 f1 n0 n1 n2 n3 n4 nf
            refine (HTA.out _ F3.out.st).mono ?_
            rintro e w4 ⟨rfl, s4, g4⟩
            have F4 := Lib.hid (F3.out.take HXB.out s4 g4)
            have N4 := Lib.hid (N3.out.ext (Ext.of g4))
            clear s4 g4
            go_wp2_with fail
            refine (HTB.out _ F4.out.st).mono ?_
            rintro e w5 ⟨rfl, s5, g5⟩
            have F5 := Lib.hid (F4.out.take HXB.out s5 g5)
            have N5 := Lib.hid (N4.out.ext (Ext.of g5))
            clear s5 g5
            go_wp2_with fail
            refine (HEL.out _ F5.out.st N5.out).mono ?_
            rintro e w6 ⟨rfl, v6, z6, r6, u6, q6, s6, e6, n6, m6⟩
            obtain ⟨m6, x6, y6⟩ := m6 _ _ rfl
            simp only [atP] at s6
            have F6 := Lib.hid (F5.out.go s6 e6)
            have N6 := Lib.hid n6
            have X6 := Lib.hid x6
            have HM6 := Lib.hid m6
            have HQ6 := Lib.hid (show w.heap.size + 1 < q6 from Nat.lt_of_lt_of_le F5.out.rb.bk.lt y6)
            clear y6
            have HZ6 := Lib.hid (eres_len HZB.out m6 HOP.out (by have := HZ.out; omega))
            clear s6 e6 n6 m6 x6
            simp only [okP]
            go_wp2_with fail
            refine (HTC.out _ _ _ _ F6.out.st).mono ?_
            rintro e w7 ⟨rfl, s7, g7⟩
            have F7 := Lib.hid (F6.out.take HXB.out s7 g7)
            have N7 := Lib.hid (N6.out.ext (Ext.of g7))
            have X7 := Lib.hid (X6.out.take g7)
            clear s7 g7
            obtain ⟨r0, r1⟩ := F7.out.rb.bk.c2
            have g0 := F7.out.rb.bk.f 0
            have g1 := F7.out.rb.bk.f 1
            obtain ⟨n0, n1, n2, n3, n4⟩ := N7.out.bk.c5
            go_wp2_with fail
            clear r0 r1 g0 g1 n0 n1 n2 n3 n4
            refine (addR k 0 x zb ps u6 q6 _ F7.out.st HZ6.out X7.out HM6.out).mono ?_
            rintro e w9 h9
            obtain ⟨rfl, hv9⟩ := id h9
            have H9 := Lib.hid h9
            have R9 := Lib.hid (h9.bk F7.out.rb.bk (fun h => by rcases h with h | h; exact F7.out.rb.x (Or.inl h); have := HQ6.out; omega) F7.out.rb.o)
            obtain ⟨r0, r1⟩ := R9.out.c2
            have g0 := R9.out.f 0
            have g1 := R9.out.f 1
            clear h9 hv9
            go_wp2
            obtain ⟨t0, t1⟩ := (R9.out.put2 (.int .i64 (lvR (fin k 0 x ps (j + 1)))) (.bool (tgR (fin k 0 x ps (j + 1))))).c2
            exact bodyPost_ret (v := .agg #[.int .i64 (lvR (fin k 0 x ps (j + 1))), .bool (tgR (fin k 0 x ps (j + 1)))]) (by simp [results, Tryz.results277, go_sem, t0, t1]) rfl ((resq (by have := HQ6.out; omega) F7.out H9.out (Nat.le_refl _) (by have := HQ6.out; omega) _ _))
          · obtain ⟨b1', b2'⟩ := ne_facts h33
            clear h1 h2 h4 hi1 hjl hc hA hB0 hE hOk h0 hr
            go_enter Tryz.func277, Tryz.ntmps277
            go_wp2_with fail
            rw [← hW]
            clear hW
            refine HNX.out.mono ?_
            rintro e w1 ⟨rfl, b1⟩
            have F1 := Lib.hid (F0.out.quiet b1)
            have N1 := Lib.hid (N0.out.ext (Ext.of (Gr.quiet b1)))
            clear b1
            have N2 := Lib.hid (N1.out.set 2 (.string x))
            have F2 := Lib.hid (F1.out.mset N1.out HXN.out 2 (.string x))
            have N3 := Lib.hid (N2.out.oth HNE.out 1 (.int .i64 ((i : Int) + 1)))
            have F3 := Lib.hid (F2.out.at HXB.out)
            obtain ⟨c0, c1, c2⟩ := F2.out.st.c
            have f1 := F2.out.st.f 1
            obtain ⟨n0, n1, n2, n3, n4⟩ := N1.out.bk.c5
            have nf := N1.out.bk.f 2
            go_wp2_with fail
            clear c0 c1 c2 f1 n0 n1 n2 n3 n4 nf
            refine (HTA.out _ F3.out.st).mono ?_
            rintro e w4 ⟨rfl, s4, g4⟩
            have F4 := Lib.hid (F3.out.take HXB.out s4 g4)
            have N4 := Lib.hid (N3.out.ext (Ext.of g4))
            clear s4 g4
            go_wp2_with fail
            refine (HEL.out _ F4.out.st N4.out).mono ?_
            rintro e w6 ⟨rfl, v6, z6, r6, u6, q6, s6, e6, n6, m6⟩
            obtain ⟨m6, x6, y6⟩ := m6 _ _ rfl
            simp only [atP] at s6
            have F6 := Lib.hid (F4.out.go s6 e6)
            have N6 := Lib.hid n6
            have X6 := Lib.hid x6
            have HM6 := Lib.hid m6
            have HQ6 := Lib.hid (show w.heap.size + 1 < q6 from Nat.lt_of_lt_of_le F4.out.rb.bk.lt y6)
            clear y6
            have HZ6 := Lib.hid (eres_len HZB.out m6 HOP.out (by have := HZ.out; omega))
            clear s6 e6 n6 m6 x6
            simp only [okP]
            go_wp2_with fail
            refine (HTC.out _ _ _ _ F6.out.st).mono ?_
            rintro e w7 ⟨rfl, s7, g7⟩
            have F7 := Lib.hid (F6.out.take HXB.out s7 g7)
            have N7 := Lib.hid (N6.out.ext (Ext.of g7))
            have X7 := Lib.hid (X6.out.take g7)
            clear s7 g7
            obtain ⟨r0, r1⟩ := F7.out.rb.bk.c2
            have g0 := F7.out.rb.bk.f 0
            have g1 := F7.out.rb.bk.f 1
            obtain ⟨n0, n1, n2, n3, n4⟩ := N7.out.bk.c5
            go_wp2_with fail
            clear r0 r1 g0 g1 n0 n1 n2 n3 n4
            refine (addR k 0 x zb ps u6 q6 _ F7.out.st HZ6.out X7.out HM6.out).mono ?_
            rintro e w9 h9
            obtain ⟨rfl, hv9⟩ := id h9
            have H9 := Lib.hid h9
            have R9 := Lib.hid (h9.bk F7.out.rb.bk (fun h => by rcases h with h | h; exact F7.out.rb.x (Or.inl h); have := HQ6.out; omega) F7.out.rb.o)
            obtain ⟨r0, r1⟩ := R9.out.c2
            have g0 := R9.out.f 0
            have g1 := R9.out.f 1
            clear h9 hv9
            go_wp2
            obtain ⟨t0, t1⟩ := (R9.out.put2 (.int .i64 (lvR (fin k 0 x ps (j + 1)))) (.bool (tgR (fin k 0 x ps (j + 1))))).c2
            exact bodyPost_ret (v := .agg #[.int .i64 (lvR (fin k 0 x ps (j + 1))), .bool (tgR (fin k 0 x ps (j + 1)))]) (by simp [results, Tryz.results277, go_sem, t0, t1]) rfl ((resq (by have := HQ6.out; omega) F7.out H9.out (Nat.le_refl _) (by have := HQ6.out; omega) _ _))
        · rw [if_neg h4]
          rw [decide_eq_false h4, show aft l j B = j from if_neg h4] at HTC
          by_cases h33 : B = 33
          · subst h33
            have h3 : ¬ kd l (i + 2) = 33 := fun h => h2 ⟨rfl, h⟩
            rw [decide_eq_false h3, show aft l (i + 2) 33 = i + 2 from if_neg h3] at HTB
            clear h1 h2 h3 h4 hi1 hjl hc hA hB0 hE hOk h0 hr
            go_enter Tryz.func277, Tryz.ntmps277
            go_wp2_with fail
            rw [← hW]
            clear hW
            refine HNX.out.mono ?_
            rintro e w1 ⟨rfl, b1⟩
            have F1 := Lib.hid (F0.out.quiet b1)
            have N1 := Lib.hid (N0.out.ext (Ext.of (Gr.quiet b1)))
            clear b1
            have N2 := Lib.hid (N1.out.set 2 (.string x))
            have F2 := Lib.hid (F1.out.mset N1.out HXN.out 2 (.string x))
            have N3 := Lib.hid (N2.out.oth HNE.out 1 (.int .i64 ((i : Int) + 1)))
            have F3 := Lib.hid (F2.out.at HXB.out)
            obtain ⟨c0, c1, c2⟩ := F2.out.st.c
            have f1 := F2.out.st.f 1
            obtain ⟨n0, n1, n2, n3, n4⟩ := N1.out.bk.c5
            have nf := N1.out.bk.f 2
            go_wp2_with fail
            clear c0 c1 c2 f1 n0 n1 n2 n3 n4 nf
            refine (HTA.out _ F3.out.st).mono ?_
            rintro e w4 ⟨rfl, s4, g4⟩
            have F4 := Lib.hid (F3.out.take HXB.out s4 g4)
            have N4 := Lib.hid (N3.out.ext (Ext.of g4))
            clear s4 g4
            go_wp2_with fail
            refine (HTB.out _ F4.out.st).mono ?_
            rintro e w5 ⟨rfl, s5, g5⟩
            have F5 := Lib.hid (F4.out.take HXB.out s5 g5)
            have N5 := Lib.hid (N4.out.ext (Ext.of g5))
            clear s5 g5
            go_wp2_with fail
            refine (HEL.out _ F5.out.st N5.out).mono ?_
            rintro e w6 ⟨rfl, v6, z6, r6, u6, q6, s6, e6, n6, m6⟩
            obtain ⟨m6, x6, -⟩ := m6 _ _ rfl
            simp only [atP] at s6
            have F6 := Lib.hid (F5.out.go s6 e6)
            have N6 := Lib.hid n6
            have X6 := Lib.hid x6
            have HM6 := Lib.hid m6
            have HZ6 := Lib.hid (eres_len HZB.out m6 HOP.out (by have := HZ.out; omega))
            clear s6 e6 n6 m6 x6
            simp only [okP]
            go_wp2_with fail
            refine (HTC.out _ _ _ _ F6.out.st).mono ?_
            rintro e w7 ⟨rfl, s7, g7⟩
            have F7 := Lib.hid (F6.out.take HXB.out s7 g7)
            have N7 := Lib.hid (N6.out.ext (Ext.of g7))
            have X7 := Lib.hid (X6.out.take g7)
            clear s7 g7
            obtain ⟨r0, r1⟩ := F7.out.rb.bk.c2
            have g0 := F7.out.rb.bk.f 0
            have g1 := F7.out.rb.bk.f 1
            go_wp2
            obtain ⟨t0, t1⟩ := (F7.out.rb.bk.put2 (.int .i64 0) (.bool false)).c2
            exact bodyPost_ret (v := .agg #[.int .i64 0, .bool false]) (by simp [results, Tryz.results277, go_sem, t0, t1]) rfl ((F7.out.bad _ _ rfl).narrow (Nat.le_refl _))
          · obtain ⟨b1', b2'⟩ := ne_facts h33
            clear h1 h2 h4 hi1 hjl hc hA hB0 hE hOk h0 hr
            go_enter Tryz.func277, Tryz.ntmps277
            go_wp2_with fail
            rw [← hW]
            clear hW
            refine HNX.out.mono ?_
            rintro e w1 ⟨rfl, b1⟩
            have F1 := Lib.hid (F0.out.quiet b1)
            have N1 := Lib.hid (N0.out.ext (Ext.of (Gr.quiet b1)))
            clear b1
            have N2 := Lib.hid (N1.out.set 2 (.string x))
            have F2 := Lib.hid (F1.out.mset N1.out HXN.out 2 (.string x))
            have N3 := Lib.hid (N2.out.oth HNE.out 1 (.int .i64 ((i : Int) + 1)))
            have F3 := Lib.hid (F2.out.at HXB.out)
            obtain ⟨c0, c1, c2⟩ := F2.out.st.c
            have f1 := F2.out.st.f 1
            obtain ⟨n0, n1, n2, n3, n4⟩ := N1.out.bk.c5
            have nf := N1.out.bk.f 2
            go_wp2_with fail
            clear c0 c1 c2 f1 n0 n1 n2 n3 n4 nf
            refine (HTA.out _ F3.out.st).mono ?_
            rintro e w4 ⟨rfl, s4, g4⟩
            have F4 := Lib.hid (F3.out.take HXB.out s4 g4)
            have N4 := Lib.hid (N3.out.ext (Ext.of g4))
            clear s4 g4
            go_wp2_with fail
            refine (HEL.out _ F4.out.st N4.out).mono ?_
            rintro e w6 ⟨rfl, v6, z6, r6, u6, q6, s6, e6, n6, m6⟩
            obtain ⟨m6, x6, -⟩ := m6 _ _ rfl
            simp only [atP] at s6
            have F6 := Lib.hid (F4.out.go s6 e6)
            have N6 := Lib.hid n6
            have X6 := Lib.hid x6
            have HM6 := Lib.hid m6
            have HZ6 := Lib.hid (eres_len HZB.out m6 HOP.out (by have := HZ.out; omega))
            clear s6 e6 n6 m6 x6
            simp only [okP]
            go_wp2_with fail
            refine (HTC.out _ _ _ _ F6.out.st).mono ?_
            rintro e w7 ⟨rfl, s7, g7⟩
            have F7 := Lib.hid (F6.out.take HXB.out s7 g7)
            have N7 := Lib.hid (N6.out.ext (Ext.of g7))
            have X7 := Lib.hid (X6.out.take g7)
            clear s7 g7
            obtain ⟨r0, r1⟩ := F7.out.rb.bk.c2
            have g0 := F7.out.rb.bk.f 0
            have g1 := F7.out.rb.bk.f 1
            go_wp2
            obtain ⟨t0, t1⟩ := (F7.out.rb.bk.put2 (.int .i64 0) (.bool false)).c2
            exact bodyPost_ret (v := .agg #[.int .i64 0, .bool false]) (by simp [results, Tryz.results277, go_sem, t0, t1]) rfl ((F7.out.bad _ _ rfl).narrow (Nat.le_refl _))
  · rw [if_neg h1]
    rw [decide_eq_false h1, show aft l (i + 1) A = i + 1 from if_neg h1] at HTA
    clear h1 hc hA hB0 hE hOk h0
    go_enter Tryz.func277, Tryz.ntmps277
    go_wp2_with fail
    rw [← hW]
    clear hW
    refine HNX.out.mono ?_
    rintro e w1 ⟨rfl, b1⟩
    have F1 := Lib.hid (F0.out.quiet b1)
    have N1 := Lib.hid (N0.out.ext (Ext.of (Gr.quiet b1)))
    clear b1
    have N2 := Lib.hid (N1.out.set 2 (.string x))
    have F2 := Lib.hid (F1.out.mset N1.out HXN.out 2 (.string x))
    have N3 := Lib.hid (N2.out.oth HNE.out 1 (.int .i64 ((i : Int) + 1)))
    have F3 := Lib.hid (F2.out.at HXB.out)
    obtain ⟨c0, c1, c2⟩ := F2.out.st.c
    have f1 := F2.out.st.f 1
    obtain ⟨n0, n1, n2, n3, n4⟩ := N1.out.bk.c5
    have nf := N1.out.bk.f 2
    go_wp2_with fail
    clear c0 c1 c2 f1 n0 n1 n2 n3 n4 nf
    refine (HTA.out _ F3.out.st).mono ?_
    rintro e w4 ⟨rfl, s4, g4⟩
    have F4 := Lib.hid (F3.out.take HXB.out s4 g4)
    have N4 := Lib.hid (N3.out.ext (Ext.of g4))
    clear s4 g4
    obtain ⟨r0, r1⟩ := F4.out.rb.bk.c2
    have g0 := F4.out.rb.bk.f 0
    have g1 := F4.out.rb.bk.f 1
    go_wp2
    obtain ⟨t0, t1⟩ := (F4.out.rb.bk.put2 (.int .i64 0) (.bool false)).c2
    exact bodyPost_ret (v := .agg #[.int .i64 0, .bool false]) (by simp [results, Tryz.results277, go_sem, t0, t1]) rfl ((F4.out.bad _ _ rfl).narrow (Nat.le_refl _))
end
end Go.Proofs.YtagonpjkohidkaaGreatDoor.pr

namespace Go.Proofs.YtagonpjkohidkaaGreatDoor.pr
open Go.ChangeShapes Go.WideShapes Go.ChangeAt Go.RowKit
open tk (Tk)
open nd (Nd PT KidV IBlk OwnI shN makeT)
open ps (fits Ps B5 posOk kidI top)
open pe
set_option linter.unusedVariables false
set_option linter.unusedSimpArgs false
set_option maxRecDepth 20000

section
variable {w0 : World} {l : List Tk} {a : Option Addr} {cap i : Nat} {v : Value} {z : List (Nd × Value)} {r : Nat → Nat} {E : Ps → Nat → R} {M i0 : Nat}

theorem eres_len2 {zb : List Nd} {ps : List (List Nd)} {l : List Tk} {M i j : Nat} {z z2 : List (Nd × Value)} (hzb : z.map (·.1) = zb) (m2 : z2.map (·.1) = zb ++ G1 zb.length ps) (ho : OkP M l i 0 (.ok ps j)) (hz : z.length + 2 * (l.length - i) ≤ 200000) : z2.length + 2 * (l.length - (j + 1)) ≤ 200000 := by
  have h1 := congrArg List.length hzb
  have h2 := congrArg List.length m2
  rw [List.length_map] at h1
  rw [List.length_map, List.length_append, G1_len] at h2
  obtain ⟨o1, o2, o3, o4, o5⟩ := ho
  omega
set_option maxHeartbeats 6400000 in
theorem group_any (hE : CallE w0 a cap l E i0) (hOk : ∀ p i, i ≤ l.length → Ok M l i (E p i)) (p : Ps) (zb : List Nd) (w : World) (h0 : i0 ≤ i + 1) (hi : i < l.length) (hl : l.length ≤ 50000) (hc : tk.Lies w0.heap.size w0 a l) (hz : z.length + 2 * (l.length - i) ≤ 200000) (hst : St w0 a l.length cap i v z r w) (hzb : z.map (·.1) = zb) :
    Calls Tryz.prog 143 #[.pointer (some ⟨w0.heap.size, 0, none⟩), .agg #[.int .i64 p.l, .bool p.d, .bool p.i, .bool p.g, .bool p.s]] w (Res w0 a l.length cap zb (X0 w0.heap.size) v z r w (group E l p i)) := by
  obtain ⟨V, hV⟩ : ∃ V, V = (w.alloc (.cells #[.int .i64 p.l, .bool p.d, .bool p.i, .bool p.g, .bool p.s] 34)).alloc (.cells #[.int .i64 0, .bool false] 72) := ⟨_, rfl⟩
  have hB : Below w.heap.size w V := by rw [hV]; exact ((Below.refl _ _).alloc (Nat.le_refl _) _).alloc (by simp) _
  have hPb : Bk w.heap.size #[.int .i64 p.l, .bool p.d, .bool p.i, .bool p.g, .bool p.s] 34 V := by rw [hV]; exact (Bk.new _ _ _).alloc _
  have hRb : Bk (w.heap.size + 1) #[.int .i64 0, .bool false] 72 V := by
    rw [hV]
    have := Bk.new (w.alloc (.cells #[.int .i64 p.l, .bool p.d, .bool p.i, .bool p.g, .bool p.s] 34)) #[.int .i64 0, .bool false] 72
    simpa using this
  have hlt := hst.lt
  have P0 : Mb (Xq w0.heap.size (w.heap.size + 1 + 1)) w0.heap.size w.heap.size #[.int .i64 p.l, .bool p.d, .bool p.i, .bool p.g, .bool p.s] 34 v z r V := Mb.new hst hPb (Nat.le_refl _) (by unfold Xq; omega)
  have F0 : Fy w0 a l.length cap (Xq w0.heap.size (w.heap.size + 1 + 1)) (w.heap.size + 1) v z r w i v z r V := ⟨hst.keep hB, Ext.of (Gr.quiet hB), Mb.new hst hRb (by omega) (by unfold Xq; omega), by omega⟩
  have HXB := Lib.hid (show Xq w0.heap.size (w.heap.size + 1 + 1) w0.heap.size from Or.inl rfl)
  obtain ⟨W, hW⟩ : ∃ W, W = (V.setCell ⟨w0.heap.size, 1, none⟩ (.int .i64 ((i : Int) + 1))).alloc (.cells #[.int .i64 13, .int .i64 0, .string ⟨#[]⟩, .string ⟨#[]⟩, .slice none 0 0] 44) := ⟨_, rfl⟩
  have hgn : (V.setCell ⟨w0.heap.size, 1, none⟩ (.int .i64 ((i : Int) + 1))).heap.size = w.heap.size + 1 + 1 := by rw [hV]; simp
  have hB1 : Below (V.setCell ⟨w0.heap.size, 1, none⟩ (.int .i64 ((i : Int) + 1))).heap.size (V.setCell ⟨w0.heap.size, 1, none⟩ (.int .i64 ((i : Int) + 1))) W := by rw [hW]; exact (Below.refl _ _).alloc (Nat.le_refl _) _
  have f1' := F0.at HXB.out
  have F1 := Lib.hid (f1'.quiet hB1)
  have P1 := Lib.hid ((P0.oth (by omega : ¬ w.heap.size = w0.heap.size) 1 (.int .i64 ((i : Int) + 1))).ext (Ext.of (Gr.quiet hB1)))
  have N1 := Lib.hid (show Mb (X0 w0.heap.size) w0.heap.size (w.heap.size + 1 + 1) #[.int .i64 13, .int .i64 0, .string ⟨#[]⟩, .string ⟨#[]⟩, .slice none 0 0] 44 v z r W by
    refine Mb.new f1'.st ?_ (by rw [hgn]; exact Nat.le_refl _) (by unfold X0; omega)
    rw [hW, ← hgn]
    exact Bk.new _ _ _)
  obtain ⟨c0, c1, c2⟩ := F0.st.c
  have f1 := F0.st.f 1
  obtain ⟨p0, p1, p2, p3, p4⟩ := P1.out.bk.c5
  obtain ⟨n0, n1, n2, n3, n4⟩ := N1.out.bk.c5
  have HGW := Lib.hid (show w.heap.size ≤ w.heap.size + 1 + 1 by omega)
  have HC := Lib.hid hc
  have HL := Lib.hid hl
  have HI := Lib.hid hi
  have HZ := Lib.hid hz
  have HZB := Lib.hid hzb
  have hib : i ≤ 50000 := by omega
  have HOP := Lib.hid (els_ok (M := M) hOk (many p) (many p) [] (i + 1) hi (fun q hq => by simp at hq))
  have HPL := Lib.hid (els_len (E := E) (l := l) (many p) (many p) [] (i + 1))
  obtain ⟨m, hm⟩ : ∃ m, many p = m := ⟨_, rfl⟩
  have hm1 : 0 < m := by rw [← hm]; unfold many; split <;> omega
  have hm6 : m ≤ 6 := by rw [← hm]; unfold many; split <;> omega
  have HEL := Lib.hid (fun W2 (s2 : St w0 a l.length cap (i + 1) v z r W2) n2 => elements_any hE hOk 13 0 ⟨#[]⟩ m zb (w.heap.size + 1 + 1) W2 h0 hi hl hc hm1 hm6 (by omega) s2 n2 hzb)
  have HM6 := Lib.hid hm6
  have hdef : group E l p i = (match els E l m m [] (i + 1) with | .bad j => .bad j | .ok ps j => if kd l j = 33 then (if ps.length = 1 then .ok 15 false (ps.headD []) (j + 1) else inn l ps (j + 1)) else .bad j) := by unfold group; rw [hm]; rfl
  rw [hdef]
  have hFT : ft 13 0 p = decide (m = 6) := by
    rw [← hm]; unfold many
    cases ft 13 0 p <;> rfl
  have HFT := Lib.hid (show fits 13 0 p.l p.d p.i p.g p.s = decide (m = 6) from hFT)
  rw [hm] at HOP HPL
  have hm16 : m = 1 ∨ m = 6 := by rw [← hm]; unfold many; split <;> simp
  rw [hW] at p0 p1 p2 p3 p4 n0 n1 n2 n3 n4
  rw [hV] at hW c0 c1 c2 f1 p0 p1 p2 p3 p4 n0 n1 n2 n3 n4
  clear hst hB hB1 hPb hRb hzb hz hi hl hlt hdef hgn hm hFT P0 F0 f1' hV hE hOk h0 hm1 hm6
  cases hr : els E l m m [] (i + 1) with
  | bad j =>
    simp only
    rw [hr] at HEL
    clear hc hr
    rcases hm16 with rfl | rfl
    · go_enter Tryz.func143, Tryz.ntmps143
      go_wp2_with fail
      rw [← hW]
      clear hW c0 c1 c2 f1 p0 p1 p2 p3 p4 n0 n1 n2 n3 n4
      refine (_root_.Go.Proofs.YtagonpjkohidkaaGreatDoor.ps.impl_fits 13 0 p.l ⟨#[]⟩ ⟨#[]⟩ none 0 0 p.d p.i p.g p.s _).mono ?_
      rw [HFT.out]
      rintro e w2 ⟨rfl, b2⟩
      have F2 := Lib.hid (F1.out.quiet b2)
      have N2 := Lib.hid (N1.out.ext (Ext.of (Gr.quiet b2)))
      have P2 := Lib.hid (P1.out.ext (Ext.of (Gr.quiet b2)))
      clear b2
      go_wp2_with fail
      refine (HEL.out _ F2.out.st N2.out).mono ?_
      rintro e w6 ⟨rfl, v6, z6, r6, u6, q6, s6, e6, n6, -⟩
      simp only [atP] at s6
      have F6 := Lib.hid (F2.out.go s6 e6)
      clear s6 e6 n6
      simp only [okP]
      obtain ⟨r0, r1⟩ := F6.out.rb.bk.c2
      have g0 := F6.out.rb.bk.f 0
      have g1 := F6.out.rb.bk.f 1
      go_wp2
      obtain ⟨t0, t1⟩ := (F6.out.rb.bk.put2 (.int .i64 0) (.bool false)).c2
      exact bodyPost_ret (v := .agg #[.int .i64 0, .bool false]) (by simp [results, Tryz.results143, go_sem, t0, t1]) rfl ((F6.out.bad _ _ rfl).narrow HGW.out)
    · go_enter Tryz.func143, Tryz.ntmps143
      go_wp2_with fail
      rw [← hW]
      clear hW c0 c1 c2 f1 p0 p1 p2 p3 p4 n0 n1 n2 n3 n4
      refine (_root_.Go.Proofs.YtagonpjkohidkaaGreatDoor.ps.impl_fits 13 0 p.l ⟨#[]⟩ ⟨#[]⟩ none 0 0 p.d p.i p.g p.s _).mono ?_
      rw [HFT.out]
      rintro e w2 ⟨rfl, b2⟩
      have F2 := Lib.hid (F1.out.quiet b2)
      have N2 := Lib.hid (N1.out.ext (Ext.of (Gr.quiet b2)))
      have P2 := Lib.hid (P1.out.ext (Ext.of (Gr.quiet b2)))
      clear b2
      go_wp2_with fail
      refine (HEL.out _ F2.out.st N2.out).mono ?_
      rintro e w6 ⟨rfl, v6, z6, r6, u6, q6, s6, e6, n6, -⟩
      simp only [atP] at s6
      have F6 := Lib.hid (F2.out.go s6 e6)
      clear s6 e6 n6
      simp only [okP]
      obtain ⟨r0, r1⟩ := F6.out.rb.bk.c2
      have g0 := F6.out.rb.bk.f 0
      have g1 := F6.out.rb.bk.f 1
      go_wp2
      obtain ⟨t0, t1⟩ := (F6.out.rb.bk.put2 (.int .i64 0) (.bool false)).c2
      exact bodyPost_ret (v := .agg #[.int .i64 0, .bool false]) (by simp [results, Tryz.results143, go_sem, t0, t1]) rfl ((F6.out.bad _ _ rfl).narrow HGW.out)
  | ok ps j =>
    simp only
    rw [hr] at HEL HOP
    have hpl := HPL.out _ _ hr
    simp only [List.length_nil, Nat.zero_add] at hpl
    have hjl := HOP.out.2.1
    have hps := HOP.out.2.2.2.2
    have HPS := Lib.hid (show ps.length ≤ 6 by have := HM6.out; omega)
    have HTC := Lib.hid (fun v2 z2 r2 W2 s2 => take_any (v := v2) (z := z2) (r := r2) (cap := cap) (i := j) 33 W2 s2 hc (by have := HL.out; omega) hjl)
    by_cases h4 : kd l j = 33
    · rw [if_pos h4]
      rw [decide_eq_true h4, show aft l j 33 = j + 1 from if_pos h4] at HTC
      have hj1 := kd_lt (l := l) (i := j) (by omega)
      have HJ1 := Lib.hid hj1
      by_cases h5 : ps.length = 1
      · rw [if_pos h5]
        obtain ⟨t, rfl⟩ := List.length_eq_one_iff.1 h5
        clear hc hr hjl h4 h5 hpl hps hj1
        rcases hm16 with rfl | rfl
        · go_enter Tryz.func143, Tryz.ntmps143
          go_wp2_with fail
          rw [← hW]
          clear hW c0 c1 c2 f1 p0 p1 p2 p3 p4 n0 n1 n2 n3 n4
          refine (_root_.Go.Proofs.YtagonpjkohidkaaGreatDoor.ps.impl_fits 13 0 p.l ⟨#[]⟩ ⟨#[]⟩ none 0 0 p.d p.i p.g p.s _).mono ?_
          rw [HFT.out]
          rintro e w2 ⟨rfl, b2⟩
          have F2 := Lib.hid (F1.out.quiet b2)
          have N2 := Lib.hid (N1.out.ext (Ext.of (Gr.quiet b2)))
          have P2 := Lib.hid (P1.out.ext (Ext.of (Gr.quiet b2)))
          clear b2
          go_wp2_with fail
          refine (HEL.out _ F2.out.st N2.out).mono ?_
          rintro e w6 ⟨rfl, v6, z6, r6, u6, q6, s6, e6, n6, m6⟩
          obtain ⟨m6, x6, y6⟩ := m6 _ _ rfl
          simp only [atP] at s6
          have F6 := Lib.hid (F2.out.go s6 e6)
          have P6 := Lib.hid (P2.out.ext e6)
          have N6 := Lib.hid n6
          have X6 := Lib.hid x6
          have M6 := Lib.hid m6
          have HZ6 := Lib.hid (eres_len2 HZB.out m6 HOP.out (by have := HZ.out; omega))
          have HQ6 := Lib.hid (show w.heap.size + 1 < q6 from Nat.lt_of_lt_of_le F2.out.rb.bk.lt y6)
          clear s6 e6 n6 m6 x6 y6
          simp only [okP]
          go_wp2_with fail
          refine (HTC.out _ _ _ _ F6.out.st).mono ?_
          rintro e w7 ⟨rfl, s7, g7⟩
          have F7 := Lib.hid (F6.out.take HXB.out s7 g7)
          have P7 := Lib.hid (P6.out.ext (Ext.of (g7.wide (Y := Xq w0.heap.size (w.heap.size + 1 + 1)) (fun k _ h => Or.inl h))))
          have N7 := Lib.hid (N6.out.ext (Ext.of g7))
          have X7 := Lib.hid (X6.out.take g7)
          clear s7 g7
          obtain ⟨uk, uc, hu⟩ := X7.out.form
          rw [G2_len] at hu
          simp only [List.length_singleton] at hu
          subst hu
          obtain ⟨r0, r1⟩ := F7.out.rb.bk.c2
          have g0 := F7.out.rb.bk.f 0
          have g1 := F7.out.rb.bk.f 1
          obtain ⟨n0, n1, n2, n3, n4⟩ := N7.out.bk.c5
          go_wp2
          obtain ⟨t0, t1⟩ := (F7.out.rb.bk.put2 (.int .i64 15) (.bool false)).c2
          exact bodyPost_ret (v := .agg #[.int .i64 15, .bool false]) (by simp [results, Tryz.results143, go_sem, t0, t1]) rfl ((F7.out.ok (zb := zb) (lv := 15) (tg := false) (t := t) _ _ rfl (by rw [M6.out, G_one])).narrow HGW.out)
        · go_enter Tryz.func143, Tryz.ntmps143
          go_wp2_with fail
          rw [← hW]
          clear hW c0 c1 c2 f1 p0 p1 p2 p3 p4 n0 n1 n2 n3 n4
          refine (_root_.Go.Proofs.YtagonpjkohidkaaGreatDoor.ps.impl_fits 13 0 p.l ⟨#[]⟩ ⟨#[]⟩ none 0 0 p.d p.i p.g p.s _).mono ?_
          rw [HFT.out]
          rintro e w2 ⟨rfl, b2⟩
          have F2 := Lib.hid (F1.out.quiet b2)
          have N2 := Lib.hid (N1.out.ext (Ext.of (Gr.quiet b2)))
          have P2 := Lib.hid (P1.out.ext (Ext.of (Gr.quiet b2)))
          clear b2
          go_wp2_with fail
          refine (HEL.out _ F2.out.st N2.out).mono ?_
          rintro e w6 ⟨rfl, v6, z6, r6, u6, q6, s6, e6, n6, m6⟩
          obtain ⟨m6, x6, y6⟩ := m6 _ _ rfl
          simp only [atP] at s6
          have F6 := Lib.hid (F2.out.go s6 e6)
          have P6 := Lib.hid (P2.out.ext e6)
          have N6 := Lib.hid n6
          have X6 := Lib.hid x6
          have M6 := Lib.hid m6
          have HZ6 := Lib.hid (eres_len2 HZB.out m6 HOP.out (by have := HZ.out; omega))
          have HQ6 := Lib.hid (show w.heap.size + 1 < q6 from Nat.lt_of_lt_of_le F2.out.rb.bk.lt y6)
          clear s6 e6 n6 m6 x6 y6
          simp only [okP]
          go_wp2_with fail
          refine (HTC.out _ _ _ _ F6.out.st).mono ?_
          rintro e w7 ⟨rfl, s7, g7⟩
          have F7 := Lib.hid (F6.out.take HXB.out s7 g7)
          have P7 := Lib.hid (P6.out.ext (Ext.of (g7.wide (Y := Xq w0.heap.size (w.heap.size + 1 + 1)) (fun k _ h => Or.inl h))))
          have N7 := Lib.hid (N6.out.ext (Ext.of g7))
          have X7 := Lib.hid (X6.out.take g7)
          clear s7 g7
          obtain ⟨uk, uc, hu⟩ := X7.out.form
          rw [G2_len] at hu
          simp only [List.length_singleton] at hu
          subst hu
          obtain ⟨r0, r1⟩ := F7.out.rb.bk.c2
          have g0 := F7.out.rb.bk.f 0
          have g1 := F7.out.rb.bk.f 1
          obtain ⟨n0, n1, n2, n3, n4⟩ := N7.out.bk.c5
          go_wp2
          obtain ⟨t0, t1⟩ := (F7.out.rb.bk.put2 (.int .i64 15) (.bool false)).c2
          exact bodyPost_ret (v := .agg #[.int .i64 15, .bool false]) (by simp [results, Tryz.results143, go_sem, t0, t1]) rfl ((F7.out.ok (zb := zb) (lv := 15) (tg := false) (t := t) _ _ rfl (by rw [M6.out, G_one])).narrow HGW.out)
      · rw [if_neg h5]
        have HIN := Lib.hid (fun v2 z2 r2 W2 u q hz2 s2 hq2 hr2 hm2 => in_any (v := v2) (z := z2) (r := r2) (cap := cap) (i := j + 1) ⟨#[]⟩ zb ps u q p W2 hj1 HL.out hc hz2 s2 hq2 hr2 hm2)
        have h5a : ((ps.length : Int) == 1) = false := by rw [beq_eq_false_iff_ne]; omega
        have h5b : ¬ (ps.length : Int) = 1 := by omega
        have hpb : ps.length ≤ 6 := HPS.out
        obtain ⟨K, hK⟩ : ∃ K, ps.length = K := ⟨_, rfl⟩
        rw [hK] at h5a h5b hpb
        have HK := Lib.hid hK
        clear hc hr hjl h4 h5 hpl hps hj1 hK
        rcases hm16 with rfl | rfl
        · go_enter Tryz.func143, Tryz.ntmps143
          go_wp2_with fail
          rw [← hW]
          clear hW c0 c1 c2 f1 p0 p1 p2 p3 p4 n0 n1 n2 n3 n4
          refine (_root_.Go.Proofs.YtagonpjkohidkaaGreatDoor.ps.impl_fits 13 0 p.l ⟨#[]⟩ ⟨#[]⟩ none 0 0 p.d p.i p.g p.s _).mono ?_
          rw [HFT.out]
          rintro e w2 ⟨rfl, b2⟩
          have F2 := Lib.hid (F1.out.quiet b2)
          have N2 := Lib.hid (N1.out.ext (Ext.of (Gr.quiet b2)))
          have P2 := Lib.hid (P1.out.ext (Ext.of (Gr.quiet b2)))
          clear b2
          go_wp2_with fail
          refine (HEL.out _ F2.out.st N2.out).mono ?_
          rintro e w6 ⟨rfl, v6, z6, r6, u6, q6, s6, e6, n6, m6⟩
          obtain ⟨m6, x6, y6⟩ := m6 _ _ rfl
          simp only [atP] at s6
          have F6 := Lib.hid (F2.out.go s6 e6)
          have P6 := Lib.hid (P2.out.ext e6)
          have N6 := Lib.hid n6
          have X6 := Lib.hid x6
          have M6 := Lib.hid m6
          have HZ6 := Lib.hid (eres_len2 HZB.out m6 HOP.out (by have := HZ.out; omega))
          have HQ6 := Lib.hid (show w.heap.size + 1 < q6 from Nat.lt_of_lt_of_le F2.out.rb.bk.lt y6)
          clear s6 e6 n6 m6 x6 y6
          simp only [okP]
          go_wp2_with fail
          refine (HTC.out _ _ _ _ F6.out.st).mono ?_
          rintro e w7 ⟨rfl, s7, g7⟩
          have F7 := Lib.hid (F6.out.take HXB.out s7 g7)
          have P7 := Lib.hid (P6.out.ext (Ext.of (g7.wide (Y := Xq w0.heap.size (w.heap.size + 1 + 1)) (fun k _ h => Or.inl h))))
          have N7 := Lib.hid (N6.out.ext (Ext.of g7))
          have X7 := Lib.hid (X6.out.take g7)
          clear s7 g7
          obtain ⟨uk, uc, hu⟩ := X7.out.form
          rw [G2_len, HK.out] at hu
          subst hu
          obtain ⟨r0, r1⟩ := F7.out.rb.bk.c2
          have g0 := F7.out.rb.bk.f 0
          have g1 := F7.out.rb.bk.f 1
          obtain ⟨n0, n1, n2, n3, n4⟩ := N7.out.bk.c5
          obtain ⟨p0, p1, p2, p3, p4⟩ := P7.out.bk.c5
          have HQW := Lib.hid (show q6 < w7.heap.size by
            rcases X7.out with ⟨hh, -⟩ | hh
            · have := congrArg List.length hh; rw [G2_len, HK.out] at this; have := HOP.out.2.2.2.2; have := HK.out; simp at *; omega
            · exact hh.2.1)
          go_wp2_with fail
          clear n0 n1 n2 n3 n4 p0 p1 p2 p3 p4 r0 r1 g0 g1
          refine (HIN.out _ _ _ w7 _ q6 HZ6.out F7.out.st HQW.out X7.out M6.out).mono ?_
          rintro e w9 h9
          obtain ⟨rfl, hv9⟩ := id h9
          have H9 := Lib.hid h9
          have R9 := Lib.hid (h9.bk F7.out.rb.bk (fun h => by rcases h with h | h; exact F7.out.rb.x (Or.inl h); have := HQ6.out; omega) F7.out.rb.o)
          obtain ⟨r0, r1⟩ := R9.out.c2
          have g0 := R9.out.f 0
          have g1 := R9.out.f 1
          clear h9 hv9
          go_wp2
          obtain ⟨t0, t1⟩ := (R9.out.put2 (.int .i64 (lvR (inn l ps (j + 1)))) (.bool (tgR (inn l ps (j + 1))))).c2
          exact bodyPost_ret (v := .agg #[.int .i64 (lvR (inn l ps (j + 1))), .bool (tgR (inn l ps (j + 1)))]) (by simp [results, Tryz.results143, go_sem, t0, t1]) rfl (resq (by have := HQ6.out; omega) F7.out H9.out HGW.out (by have := HQ6.out; omega) _ _)
        · go_enter Tryz.func143, Tryz.ntmps143
          go_wp2_with fail
          rw [← hW]
          clear hW c0 c1 c2 f1 p0 p1 p2 p3 p4 n0 n1 n2 n3 n4
          refine (_root_.Go.Proofs.YtagonpjkohidkaaGreatDoor.ps.impl_fits 13 0 p.l ⟨#[]⟩ ⟨#[]⟩ none 0 0 p.d p.i p.g p.s _).mono ?_
          rw [HFT.out]
          rintro e w2 ⟨rfl, b2⟩
          have F2 := Lib.hid (F1.out.quiet b2)
          have N2 := Lib.hid (N1.out.ext (Ext.of (Gr.quiet b2)))
          have P2 := Lib.hid (P1.out.ext (Ext.of (Gr.quiet b2)))
          clear b2
          go_wp2_with fail
          refine (HEL.out _ F2.out.st N2.out).mono ?_
          rintro e w6 ⟨rfl, v6, z6, r6, u6, q6, s6, e6, n6, m6⟩
          obtain ⟨m6, x6, y6⟩ := m6 _ _ rfl
          simp only [atP] at s6
          have F6 := Lib.hid (F2.out.go s6 e6)
          have P6 := Lib.hid (P2.out.ext e6)
          have N6 := Lib.hid n6
          have X6 := Lib.hid x6
          have M6 := Lib.hid m6
          have HZ6 := Lib.hid (eres_len2 HZB.out m6 HOP.out (by have := HZ.out; omega))
          have HQ6 := Lib.hid (show w.heap.size + 1 < q6 from Nat.lt_of_lt_of_le F2.out.rb.bk.lt y6)
          clear s6 e6 n6 m6 x6 y6
          simp only [okP]
          go_wp2_with fail
          refine (HTC.out _ _ _ _ F6.out.st).mono ?_
          rintro e w7 ⟨rfl, s7, g7⟩
          have F7 := Lib.hid (F6.out.take HXB.out s7 g7)
          have P7 := Lib.hid (P6.out.ext (Ext.of (g7.wide (Y := Xq w0.heap.size (w.heap.size + 1 + 1)) (fun k _ h => Or.inl h))))
          have N7 := Lib.hid (N6.out.ext (Ext.of g7))
          have X7 := Lib.hid (X6.out.take g7)
          clear s7 g7
          obtain ⟨uk, uc, hu⟩ := X7.out.form
          rw [G2_len, HK.out] at hu
          subst hu
          obtain ⟨r0, r1⟩ := F7.out.rb.bk.c2
          have g0 := F7.out.rb.bk.f 0
          have g1 := F7.out.rb.bk.f 1
          obtain ⟨n0, n1, n2, n3, n4⟩ := N7.out.bk.c5
          obtain ⟨p0, p1, p2, p3, p4⟩ := P7.out.bk.c5
          have HQW := Lib.hid (show q6 < w7.heap.size by
            rcases X7.out with ⟨hh, -⟩ | hh
            · have := congrArg List.length hh; rw [G2_len, HK.out] at this; have := HOP.out.2.2.2.2; have := HK.out; simp at *; omega
            · exact hh.2.1)
          go_wp2_with fail
          clear n0 n1 n2 n3 n4 p0 p1 p2 p3 p4 r0 r1 g0 g1
          refine (HIN.out _ _ _ w7 _ q6 HZ6.out F7.out.st HQW.out X7.out M6.out).mono ?_
          rintro e w9 h9
          obtain ⟨rfl, hv9⟩ := id h9
          have H9 := Lib.hid h9
          have R9 := Lib.hid (h9.bk F7.out.rb.bk (fun h => by rcases h with h | h; exact F7.out.rb.x (Or.inl h); have := HQ6.out; omega) F7.out.rb.o)
          obtain ⟨r0, r1⟩ := R9.out.c2
          have g0 := R9.out.f 0
          have g1 := R9.out.f 1
          clear h9 hv9
          go_wp2
          obtain ⟨t0, t1⟩ := (R9.out.put2 (.int .i64 (lvR (inn l ps (j + 1)))) (.bool (tgR (inn l ps (j + 1))))).c2
          exact bodyPost_ret (v := .agg #[.int .i64 (lvR (inn l ps (j + 1))), .bool (tgR (inn l ps (j + 1)))]) (by simp [results, Tryz.results143, go_sem, t0, t1]) rfl (resq (by have := HQ6.out; omega) F7.out H9.out HGW.out (by have := HQ6.out; omega) _ _)
    · rw [if_neg h4]
      rw [decide_eq_false h4, show aft l j 33 = j from if_neg h4] at HTC
      clear hc hr hjl h4 hpl hps
      rcases hm16 with rfl | rfl
      · go_enter Tryz.func143, Tryz.ntmps143
        go_wp2_with fail
        rw [← hW]
        clear hW c0 c1 c2 f1 p0 p1 p2 p3 p4 n0 n1 n2 n3 n4
        refine (_root_.Go.Proofs.YtagonpjkohidkaaGreatDoor.ps.impl_fits 13 0 p.l ⟨#[]⟩ ⟨#[]⟩ none 0 0 p.d p.i p.g p.s _).mono ?_
        rw [HFT.out]
        rintro e w2 ⟨rfl, b2⟩
        have F2 := Lib.hid (F1.out.quiet b2)
        have N2 := Lib.hid (N1.out.ext (Ext.of (Gr.quiet b2)))
        have P2 := Lib.hid (P1.out.ext (Ext.of (Gr.quiet b2)))
        clear b2
        go_wp2_with fail
        refine (HEL.out _ F2.out.st N2.out).mono ?_
        rintro e w6 ⟨rfl, v6, z6, r6, u6, q6, s6, e6, n6, m6⟩
        obtain ⟨m6, x6, y6⟩ := m6 _ _ rfl
        simp only [atP] at s6
        have F6 := Lib.hid (F2.out.go s6 e6)
        have P6 := Lib.hid (P2.out.ext e6)
        have N6 := Lib.hid n6
        have X6 := Lib.hid x6
        have M6 := Lib.hid m6
        have HZ6 := Lib.hid (eres_len2 HZB.out m6 HOP.out (by have := HZ.out; omega))
        have HQ6 := Lib.hid (show w.heap.size + 1 < q6 from Nat.lt_of_lt_of_le F2.out.rb.bk.lt y6)
        clear s6 e6 n6 m6 x6 y6
        simp only [okP]
        go_wp2_with fail
        refine (HTC.out _ _ _ _ F6.out.st).mono ?_
        rintro e w7 ⟨rfl, s7, g7⟩
        have F7 := Lib.hid (F6.out.take HXB.out s7 g7)
        have P7 := Lib.hid (P6.out.ext (Ext.of (g7.wide (Y := Xq w0.heap.size (w.heap.size + 1 + 1)) (fun k _ h => Or.inl h))))
        have N7 := Lib.hid (N6.out.ext (Ext.of g7))
        have X7 := Lib.hid (X6.out.take g7)
        clear s7 g7
        obtain ⟨r0, r1⟩ := F7.out.rb.bk.c2
        have g0 := F7.out.rb.bk.f 0
        have g1 := F7.out.rb.bk.f 1
        go_wp2
        obtain ⟨t0, t1⟩ := (F7.out.rb.bk.put2 (.int .i64 0) (.bool false)).c2
        exact bodyPost_ret (v := .agg #[.int .i64 0, .bool false]) (by simp [results, Tryz.results143, go_sem, t0, t1]) rfl ((F7.out.bad _ _ rfl).narrow HGW.out)
      · go_enter Tryz.func143, Tryz.ntmps143
        go_wp2_with fail
        rw [← hW]
        clear hW c0 c1 c2 f1 p0 p1 p2 p3 p4 n0 n1 n2 n3 n4
        refine (_root_.Go.Proofs.YtagonpjkohidkaaGreatDoor.ps.impl_fits 13 0 p.l ⟨#[]⟩ ⟨#[]⟩ none 0 0 p.d p.i p.g p.s _).mono ?_
        rw [HFT.out]
        rintro e w2 ⟨rfl, b2⟩
        have F2 := Lib.hid (F1.out.quiet b2)
        have N2 := Lib.hid (N1.out.ext (Ext.of (Gr.quiet b2)))
        have P2 := Lib.hid (P1.out.ext (Ext.of (Gr.quiet b2)))
        clear b2
        go_wp2_with fail
        refine (HEL.out _ F2.out.st N2.out).mono ?_
        rintro e w6 ⟨rfl, v6, z6, r6, u6, q6, s6, e6, n6, m6⟩
        obtain ⟨m6, x6, y6⟩ := m6 _ _ rfl
        simp only [atP] at s6
        have F6 := Lib.hid (F2.out.go s6 e6)
        have P6 := Lib.hid (P2.out.ext e6)
        have N6 := Lib.hid n6
        have X6 := Lib.hid x6
        have M6 := Lib.hid m6
        have HZ6 := Lib.hid (eres_len2 HZB.out m6 HOP.out (by have := HZ.out; omega))
        have HQ6 := Lib.hid (show w.heap.size + 1 < q6 from Nat.lt_of_lt_of_le F2.out.rb.bk.lt y6)
        clear s6 e6 n6 m6 x6 y6
        simp only [okP]
        go_wp2_with fail
        refine (HTC.out _ _ _ _ F6.out.st).mono ?_
        rintro e w7 ⟨rfl, s7, g7⟩
        have F7 := Lib.hid (F6.out.take HXB.out s7 g7)
        have P7 := Lib.hid (P6.out.ext (Ext.of (g7.wide (Y := Xq w0.heap.size (w.heap.size + 1 + 1)) (fun k _ h => Or.inl h))))
        have N7 := Lib.hid (N6.out.ext (Ext.of g7))
        have X7 := Lib.hid (X6.out.take g7)
        clear s7 g7
        obtain ⟨r0, r1⟩ := F7.out.rb.bk.c2
        have g0 := F7.out.rb.bk.f 0
        have g1 := F7.out.rb.bk.f 1
        go_wp2
        obtain ⟨t0, t1⟩ := (F7.out.rb.bk.put2 (.int .i64 0) (.bool false)).c2
        exact bodyPost_ret (v := .agg #[.int .i64 0, .bool false]) (by simp [results, Tryz.results143, go_sem, t0, t1]) rfl ((F7.out.bad _ _ rfl).narrow HGW.out)
end
end Go.Proofs.YtagonpjkohidkaaGreatDoor.pr

namespace Go.Proofs.YtagonpjkohidkaaGreatDoor.pr
open Go.ChangeShapes Go.WideShapes Go.ChangeAt Go.RowKit
open tk (Tk)
open nd (Nd PT KidV IBlk OwnI shN makeT)
open ps (Ps B5 posOk kidI top)
open pe
set_option linter.unusedVariables false
set_option linter.unusedSimpArgs false
set_option maxRecDepth 20000

section
variable {w0 : World} {l : List Tk} {a : Option Addr} {cap i : Nat} {v : Value} {z : List (Nd × Value)} {r : Nat → Nat} {E : Ps → Nat → R} {M i0 : Nat}

set_option maxHeartbeats 3200000 in
theorem call_any (hE : CallE w0 a cap l E i0) (hOk : ∀ p i, i ≤ l.length → Ok M l i (E p i)) (k : Int) (s0 : ByteArray) (zb : List Nd) (p : Ps) (w : World) (h0 : i0 ≤ i + 1) (hi : i < l.length) (hl : l.length ≤ 50000) (hc : tk.Lies w0.heap.size w0 a l) (hz : z.length + 2 * (l.length - i) ≤ 200000) (hst : St w0 a l.length cap i v z r w) (hzb : z.map (·.1) = zb) :
    Calls Tryz.prog 228 #[.pointer (some ⟨w0.heap.size, 0, none⟩), .agg #[.int .i64 k, .int .i64 0, .string s0, .string ⟨#[]⟩, .slice none 0 0], .agg #[.int .i64 p.l, .bool p.d, .bool p.i, .bool p.g, .bool p.s]] w (Res w0 a l.length cap zb (X0 w0.heap.size) v z r w (listed E l k 32 33 i)) := by
  have hq : w0.heap.size < w.heap.size := hst.lt
  have hrw : Rw w0.heap.size w0.heap.size (.slice none 0 0) (G2 zb.length []) v z r w := .inl ⟨rfl, rfl⟩
  have hXX : ∀ (e : Ending) (w' : World), Res w0 a l.length cap zb (Xq w0.heap.size w0.heap.size) v z r w (listed E l k 32 33 i) e w' → Res w0 a l.length cap zb (X0 w0.heap.size) v z r w (listed E l k 32 33 i) e w' := fun e w' h => h.wide fun k _ h => by rcases h with h | h <;> exact h
  have HXX := Lib.hid hXX
  obtain ⟨W, hW⟩ : ∃ W, W = ((w.alloc (.cells #[.int .i64 k, .int .i64 0, .string s0, .string ⟨#[]⟩, .slice none 0 0] 44)).alloc (.cells #[.int .i64 p.l, .bool p.d, .bool p.i, .bool p.g, .bool p.s] 34)).alloc (.cells #[.int .i64 0, .bool false] 72) := ⟨_, rfl⟩
  have hB : Below w.heap.size w W := by rw [hW]; exact (((Below.refl _ _).alloc (Nat.le_refl _) _).alloc (by simp) _).alloc (by simp; omega) _
  have hN : Bk w.heap.size #[.int .i64 k, .int .i64 0, .string s0, .string ⟨#[]⟩, .slice none 0 0] 44 W := by rw [hW]; exact ((Bk.new _ _ _).alloc _).alloc _
  have hP : Bk (w.heap.size + 1) #[.int .i64 p.l, .bool p.d, .bool p.i, .bool p.g, .bool p.s] 34 W := by
    rw [hW]
    have := (Bk.new (w.alloc (.cells #[.int .i64 k, .int .i64 0, .string s0, .string ⟨#[]⟩, .slice none 0 0] 44)) #[.int .i64 p.l, .bool p.d, .bool p.i, .bool p.g, .bool p.s] 34).alloc (.cells #[.int .i64 0, .bool false] 72)
    simpa using this
  have hR : Bk (w.heap.size + 1 + 1) #[.int .i64 0, .bool false] 72 W := by
    rw [hW]
    have := Bk.new ((w.alloc (.cells #[.int .i64 k, .int .i64 0, .string s0, .string ⟨#[]⟩, .slice none 0 0] 44)).alloc (.cells #[.int .i64 p.l, .bool p.d, .bool p.i, .bool p.g, .bool p.s] 34)) #[.int .i64 0, .bool false] 72
    simpa using this
  have F0 := Lib.hid (Fx.start hst (xq_lt hst.lt hq) hN hP hR hB)
  have X0' := Lib.hid (hrw.quiet hB)
  have HQ := Lib.hid hq
  have HLT := Lib.hid hst.lt
  have HB0 := Lib.hid hB
  have HZB := Lib.hid hzb
  have HC := Lib.hid hc
  have HL := Lib.hid hl
  have HI := Lib.hid hi
  have HZ := Lib.hid hz
  have hXb : Xq w0.heap.size w0.heap.size w0.heap.size := Or.inl rfl
  have HXB := Lib.hid hXb
  have hib : i ≤ 50000 := by omega
  obtain ⟨c0, c1, c2⟩ := F0.out.st.c
  have f1 := F0.out.st.f 1
  obtain ⟨n0, n1, n2, n3, n4⟩ := F0.out.nb.bk.c5
  obtain ⟨p0, p1, p2, p3, p4⟩ := F0.out.pb.bk.c5
  obtain ⟨r0, r1⟩ := F0.out.rb.bk.c2
  have g0 := F0.out.rb.bk.f 0
  have g1 := F0.out.rb.bk.f 1
  have HLI := Lib.hid (fun W2 s2 => listed_any (v := v) (z := z) (r := r) (cap := cap) (i := i) hE hOk k 32 33 s0 zb W2 h0 (by decide) (by decide) hi hl hc hz s2 hzb)
  clear hst hB hrw hzb hz hi hl hc hq hN hP hR hXb hE hOk h0 hXX
  rw [hW] at c0 c1 c2 f1 n0 n1 n2 n3 n4 p0 p1 p2 p3 p4 r0 r1 g0 g1
  go_enter Tryz.func228, Tryz.ntmps228
  go_wp2_with fail
  rw [← hW]
  clear c0 c1 c2 f1 n0 n1 n2 n3 n4 p0 p1 p2 p3 p4 r0 r1 g0 g1 hW
  refine ((HLI.out _ F0.out.st).mono fun e w' h => h.wide (Y := Xq w0.heap.size w0.heap.size) (fun k _ h => Or.inl h)).mono ?_
  rintro e w9 h9
  obtain ⟨rfl, hv9⟩ := id h9
  have H9 := Lib.hid h9
  have R9 := Lib.hid (F0.out.rbk h9)
  obtain ⟨r0, r1⟩ := R9.out.c2
  have g0 := R9.out.f 0
  have g1 := R9.out.f 1
  clear h9 hv9
  go_wp2
  obtain ⟨t0, t1⟩ := (R9.out.put2 (.int .i64 (lvR (listed E l k 32 33 i))) (.bool (tgR (listed E l k 32 33 i)))).c2
  exact bodyPost_ret (v := .agg #[.int .i64 (lvR (listed E l k 32 33 i)), .bool (tgR (listed E l k 32 33 i))]) (by simp [results, Tryz.results228, go_sem, t0, t1]) rfl (HXX.out _ _ (F0.out.res H9.out _ _))

set_option maxHeartbeats 3200000 in
theorem name_any (hE : CallE w0 a cap l E i0) (hOk : ∀ p i, i ≤ l.length → Ok M l i (E p i)) (s0 : ByteArray) (zb : List Nd) (p : Ps) (w : World) (h0 : i0 ≤ i + 1) (hi : i < l.length) (hl : l.length ≤ 50000) (hc : tk.Lies w0.heap.size w0 a l) (hz : z.length + 2 * (l.length - i) ≤ 200000) (hst : St w0 a l.length cap i v z r w) (hzb : z.map (·.1) = zb) :
    Calls Tryz.prog 227 #[.pointer (some ⟨w0.heap.size, 0, none⟩), .agg #[.int .i64 1, .int .i64 0, .string s0, .string ⟨#[]⟩, .slice none 0 0], .agg #[.int .i64 p.l, .bool p.d, .bool p.i, .bool p.g, .bool p.s]] w (Res w0 a l.length cap zb (X0 w0.heap.size) v z r w (if kd l (i + 1) = 34 then listed E l 5 34 35 i else pe.word l 1 i)) := by
  have hq : w0.heap.size < w.heap.size := hst.lt
  have hrw : Rw w0.heap.size w0.heap.size (.slice none 0 0) (G2 zb.length []) v z r w := .inl ⟨rfl, rfl⟩
  have hXX : ∀ (e : Ending) (w' : World), Res w0 a l.length cap zb (Xq w0.heap.size w0.heap.size) v z r w (if kd l (i + 1) = 34 then listed E l 5 34 35 i else pe.word l 1 i) e w' → Res w0 a l.length cap zb (X0 w0.heap.size) v z r w (if kd l (i + 1) = 34 then listed E l 5 34 35 i else pe.word l 1 i) e w' := fun e w' h => h.wide fun k _ h => by rcases h with h | h <;> exact h
  have HXX := Lib.hid hXX
  obtain ⟨W, hW⟩ : ∃ W, W = ((w.alloc (.cells #[.int .i64 1, .int .i64 0, .string s0, .string ⟨#[]⟩, .slice none 0 0] 44)).alloc (.cells #[.int .i64 p.l, .bool p.d, .bool p.i, .bool p.g, .bool p.s] 34)).alloc (.cells #[.int .i64 0, .bool false] 72) := ⟨_, rfl⟩
  have hB : Below w.heap.size w W := by rw [hW]; exact (((Below.refl _ _).alloc (Nat.le_refl _) _).alloc (by simp) _).alloc (by simp; omega) _
  have hN : Bk w.heap.size #[.int .i64 1, .int .i64 0, .string s0, .string ⟨#[]⟩, .slice none 0 0] 44 W := by rw [hW]; exact ((Bk.new _ _ _).alloc _).alloc _
  have hP : Bk (w.heap.size + 1) #[.int .i64 p.l, .bool p.d, .bool p.i, .bool p.g, .bool p.s] 34 W := by
    rw [hW]
    have := (Bk.new (w.alloc (.cells #[.int .i64 1, .int .i64 0, .string s0, .string ⟨#[]⟩, .slice none 0 0] 44)) #[.int .i64 p.l, .bool p.d, .bool p.i, .bool p.g, .bool p.s] 34).alloc (.cells #[.int .i64 0, .bool false] 72)
    simpa using this
  have hR : Bk (w.heap.size + 1 + 1) #[.int .i64 0, .bool false] 72 W := by
    rw [hW]
    have := Bk.new ((w.alloc (.cells #[.int .i64 1, .int .i64 0, .string s0, .string ⟨#[]⟩, .slice none 0 0] 44)).alloc (.cells #[.int .i64 p.l, .bool p.d, .bool p.i, .bool p.g, .bool p.s] 34)) #[.int .i64 0, .bool false] 72
    simpa using this
  have F0 := Lib.hid (Fx.start hst (xq_lt hst.lt hq) hN hP hR hB)
  have X0' := Lib.hid (hrw.quiet hB)
  have HQ := Lib.hid hq
  have HLT := Lib.hid hst.lt
  have HB0 := Lib.hid hB
  have HZB := Lib.hid hzb
  have HC := Lib.hid hc
  have HL := Lib.hid hl
  have HI := Lib.hid hi
  have HZ := Lib.hid hz
  have hXb : Xq w0.heap.size w0.heap.size w0.heap.size := Or.inl rfl
  have HXB := Lib.hid hXb
  have hib : i ≤ 50000 := by omega
  obtain ⟨c0, c1, c2⟩ := F0.out.st.c
  have f1 := F0.out.st.f 1
  obtain ⟨n0, n1, n2, n3, n4⟩ := F0.out.nb.bk.c5
  obtain ⟨p0, p1, p2, p3, p4⟩ := F0.out.pb.bk.c5
  obtain ⟨r0, r1⟩ := F0.out.rb.bk.c2
  have g0 := F0.out.rb.bk.f 0
  have g1 := F0.out.rb.bk.f 1
  have HFO := Lib.hid (follower_any W F0.out.st hc (by omega) (Nat.le_of_lt hi))
  by_cases h1 : kd l (i + 1) = 34
  · rw [if_pos h1] at HXX ⊢
    rw [h1] at HFO
    have HLI := Lib.hid (fun W2 s2 => listed_any (v := v) (z := z) (r := r) (cap := cap) (i := i) hE hOk 5 34 35 ⟨#[]⟩ zb W2 h0 (by decide) (by decide) hi hl hc hz s2 hzb)
    clear h1
    clear hst hB hrw hzb hz hi hl hc hq hN hP hR hXb hE hOk h0 hXX
    rw [hW] at c0 c1 c2 f1 n0 n1 n2 n3 n4 p0 p1 p2 p3 p4 r0 r1 g0 g1
    go_enter Tryz.func227, Tryz.ntmps227
    go_wp2_with fail
    rw [← hW]
    clear c0 c1 c2 f1 n0 n1 n2 n3 n4 p0 p1 p2 p3 p4 r0 r1 g0 g1 hW
    refine HFO.out.mono ?_
    rintro e w1 ⟨rfl, b1⟩
    have F1 := Lib.hid (F0.out.quiet b1)
    clear b1
    obtain ⟨c0, c1, c2⟩ := F1.out.st.c
    have f1 := F1.out.st.f 1
    obtain ⟨n0, n1, n2, n3, n4⟩ := F1.out.nb.bk.c5
    obtain ⟨p0, p1, p2, p3, p4⟩ := F1.out.pb.bk.c5
    obtain ⟨r0, r1⟩ := F1.out.rb.bk.c2
    have g0 := F1.out.rb.bk.f 0
    have g1 := F1.out.rb.bk.f 1
    go_wp2_with fail
    clear c0 c1 c2 f1 n0 n1 n2 n3 n4 p0 p1 p2 p3 p4 r0 r1 g0 g1
    refine ((HLI.out _ F1.out.st).mono fun e w' h => h.wide (Y := Xq w0.heap.size w0.heap.size) (fun k _ h => Or.inl h)).mono ?_
    rintro e w9 h9
    obtain ⟨rfl, hv9⟩ := id h9
    have H9 := Lib.hid h9
    have R9 := Lib.hid (F1.out.rbk h9)
    obtain ⟨r0, r1⟩ := R9.out.c2
    have g0 := R9.out.f 0
    have g1 := R9.out.f 1
    clear h9 hv9
    go_wp2
    obtain ⟨t0, t1⟩ := (R9.out.put2 (.int .i64 (lvR (listed E l 5 34 35 i))) (.bool (tgR (listed E l 5 34 35 i)))).c2
    exact bodyPost_ret (v := .agg #[.int .i64 (lvR (listed E l 5 34 35 i)), .bool (tgR (listed E l 5 34 35 i))]) (by simp [results, Tryz.results227, go_sem, t0, t1]) rfl (HXX.out _ _ (F1.out.res H9.out _ _))
  · rw [if_neg h1] at HXX ⊢
    obtain ⟨c, hcc⟩ : ∃ c, kd l (i + 1) = c := ⟨_, rfl⟩
    rw [hcc] at HFO h1
    obtain ⟨q1, q2⟩ := ne_facts h1
    have hzb0 : z.map (·.1) = zb ++ G1 zb.length [] := by rw [hzb, G1_nil, List.append_nil]
    have HW := Lib.hid (fun W2 s2 hq2 => word_any (v := v) (z := z) (r := r) (cap := cap) (i := i) 1 0 s0 zb [] (.slice none 0 0) w0.heap.size p W2 hi hl hc (by omega) s2 hq2 (.inl ⟨rfl, rfl⟩) hzb0)
    clear h1 hcc hzb0
    clear hst hB hrw hzb hz hi hl hc hq hN hP hR hXb hE hOk h0 hXX
    rw [hW] at c0 c1 c2 f1 n0 n1 n2 n3 n4 p0 p1 p2 p3 p4 r0 r1 g0 g1
    go_enter Tryz.func227, Tryz.ntmps227
    go_wp2_with fail
    rw [← hW]
    clear c0 c1 c2 f1 n0 n1 n2 n3 n4 p0 p1 p2 p3 p4 r0 r1 g0 g1 hW
    refine HFO.out.mono ?_
    rintro e w1 ⟨rfl, b1⟩
    have F1 := Lib.hid (F0.out.quiet b1)
    clear b1
    obtain ⟨c0, c1, c2⟩ := F1.out.st.c
    have f1 := F1.out.st.f 1
    obtain ⟨n0, n1, n2, n3, n4⟩ := F1.out.nb.bk.c5
    obtain ⟨p0, p1, p2, p3, p4⟩ := F1.out.pb.bk.c5
    obtain ⟨r0, r1⟩ := F1.out.rb.bk.c2
    have g0 := F1.out.rb.bk.f 0
    have g1 := F1.out.rb.bk.f 1
    go_wp2_with fail
    clear c0 c1 c2 f1 n0 n1 n2 n3 n4 p0 p1 p2 p3 p4 r0 r1 g0 g1
    refine (show Calls _ _ _ _ (Res w0 a l.length cap zb (Xq w0.heap.size w0.heap.size) v z r w1 (pe.word l 1 i)) from HW.out _ F1.out.st F1.out.st.lt).mono ?_
    rintro e w9 h9
    obtain ⟨rfl, hv9⟩ := id h9
    have H9 := Lib.hid h9
    have R9 := Lib.hid (F1.out.rbk h9)
    obtain ⟨r0, r1⟩ := R9.out.c2
    have g0 := R9.out.f 0
    have g1 := R9.out.f 1
    clear h9 hv9
    go_wp2
    obtain ⟨t0, t1⟩ := (R9.out.put2 (.int .i64 (lvR (pe.word l 1 i))) (.bool (tgR (pe.word l 1 i)))).c2
    exact bodyPost_ret (v := .agg #[.int .i64 (lvR (pe.word l 1 i)), .bool (tgR (pe.word l 1 i))]) (by simp [results, Tryz.results227, go_sem, t0, t1]) rfl (HXX.out _ _ (F1.out.res H9.out _ _))

set_option maxHeartbeats 3200000 in
theorem builtin_any (hE : CallE w0 a cap l E i0) (hOk : ∀ p i, i ≤ l.length → Ok M l i (E p i)) (s0 : ByteArray) (zb : List Nd) (p : Ps) (w : World) (h0 : i0 ≤ i + 1) (hi : i < l.length) (hl : l.length ≤ 50000) (hc : tk.Lies w0.heap.size w0 a l) (hz : z.length + 2 * (l.length - i) ≤ 200000) (hst : St w0 a l.length cap i v z r w) (hzb : z.map (·.1) = zb) :
    Calls Tryz.prog 229 #[.pointer (some ⟨w0.heap.size, 0, none⟩), .agg #[.int .i64 8, .int .i64 0, .string s0, .string ⟨#[]⟩, .slice none 0 0], .agg #[.int .i64 p.l, .bool p.d, .bool p.i, .bool p.g, .bool p.s]] w (Res w0 a l.length cap zb (X0 w0.heap.size) v z r w (if isLen (tx l i) = true ∧ ¬ kd l (i + 1) = 32 then pe.word l 8 i else listed E l 8 32 33 i)) := by
  have hq : w0.heap.size < w.heap.size := hst.lt
  have hrw : Rw w0.heap.size w0.heap.size (.slice none 0 0) (G2 zb.length []) v z r w := .inl ⟨rfl, rfl⟩
  have hXX : ∀ (e : Ending) (w' : World), Res w0 a l.length cap zb (Xq w0.heap.size w0.heap.size) v z r w (if isLen (tx l i) = true ∧ ¬ kd l (i + 1) = 32 then pe.word l 8 i else listed E l 8 32 33 i) e w' → Res w0 a l.length cap zb (X0 w0.heap.size) v z r w (if isLen (tx l i) = true ∧ ¬ kd l (i + 1) = 32 then pe.word l 8 i else listed E l 8 32 33 i) e w' := fun e w' h => h.wide fun k _ h => by rcases h with h | h <;> exact h
  have HXX := Lib.hid hXX
  obtain ⟨W, hW⟩ : ∃ W, W = ((w.alloc (.cells #[.int .i64 8, .int .i64 0, .string s0, .string ⟨#[]⟩, .slice none 0 0] 44)).alloc (.cells #[.int .i64 p.l, .bool p.d, .bool p.i, .bool p.g, .bool p.s] 34)).alloc (.cells #[.int .i64 0, .bool false] 72) := ⟨_, rfl⟩
  have hB : Below w.heap.size w W := by rw [hW]; exact (((Below.refl _ _).alloc (Nat.le_refl _) _).alloc (by simp) _).alloc (by simp; omega) _
  have hN : Bk w.heap.size #[.int .i64 8, .int .i64 0, .string s0, .string ⟨#[]⟩, .slice none 0 0] 44 W := by rw [hW]; exact ((Bk.new _ _ _).alloc _).alloc _
  have hP : Bk (w.heap.size + 1) #[.int .i64 p.l, .bool p.d, .bool p.i, .bool p.g, .bool p.s] 34 W := by
    rw [hW]
    have := (Bk.new (w.alloc (.cells #[.int .i64 8, .int .i64 0, .string s0, .string ⟨#[]⟩, .slice none 0 0] 44)) #[.int .i64 p.l, .bool p.d, .bool p.i, .bool p.g, .bool p.s] 34).alloc (.cells #[.int .i64 0, .bool false] 72)
    simpa using this
  have hR : Bk (w.heap.size + 1 + 1) #[.int .i64 0, .bool false] 72 W := by
    rw [hW]
    have := Bk.new ((w.alloc (.cells #[.int .i64 8, .int .i64 0, .string s0, .string ⟨#[]⟩, .slice none 0 0] 44)).alloc (.cells #[.int .i64 p.l, .bool p.d, .bool p.i, .bool p.g, .bool p.s] 34)) #[.int .i64 0, .bool false] 72
    simpa using this
  have F0 := Lib.hid (Fx.start hst (xq_lt hst.lt hq) hN hP hR hB)
  have X0' := Lib.hid (hrw.quiet hB)
  have HQ := Lib.hid hq
  have HLT := Lib.hid hst.lt
  have HB0 := Lib.hid hB
  have HZB := Lib.hid hzb
  have HC := Lib.hid hc
  have HL := Lib.hid hl
  have HI := Lib.hid hi
  have HZ := Lib.hid hz
  have hXb : Xq w0.heap.size w0.heap.size w0.heap.size := Or.inl rfl
  have HXB := Lib.hid hXb
  have hib : i ≤ 50000 := by omega
  obtain ⟨c0, c1, c2⟩ := F0.out.st.c
  have f1 := F0.out.st.f 1
  obtain ⟨n0, n1, n2, n3, n4⟩ := F0.out.nb.bk.c5
  obtain ⟨p0, p1, p2, p3, p4⟩ := F0.out.pb.bk.c5
  obtain ⟨r0, r1⟩ := F0.out.rb.bk.c2
  have g0 := F0.out.rb.bk.f 0
  have g1 := F0.out.rb.bk.f 1
  have HFO := Lib.hid (fun W2 (s2 : St w0 a l.length cap i v z r W2) => follower_any W2 s2 hc (by omega) (Nat.le_of_lt hi))
  have HNX := Lib.hid (next_any W F0.out.st hc (by omega) (Nat.le_of_lt hi))
  have hzb0 : z.map (·.1) = zb ++ G1 zb.length [] := by rw [hzb, G1_nil, List.append_nil]
  have HW := Lib.hid (fun W2 s2 hq2 => word_any (v := v) (z := z) (r := r) (cap := cap) (i := i) 8 0 s0 zb [] (.slice none 0 0) w0.heap.size p W2 hi hl hc (by omega) s2 hq2 (.inl ⟨rfl, rfl⟩) hzb0)
  have HCA := Lib.hid (fun W2 s2 => call_any (v := v) (z := z) (r := r) (cap := cap) (i := i) hE hOk 8 s0 zb p W2 h0 hi hl hc hz s2 hzb)
  have hfs := fld_s
  obtain ⟨x, hx⟩ : ∃ x, tx l i = x := ⟨_, rfl⟩
  rw [hx] at HNX HXX ⊢
  obtain ⟨c, hcc⟩ : ∃ c, kd l (i + 1) = c := ⟨_, rfl⟩
  rw [hcc] at HFO HXX ⊢
  clear hzb0 hx hcc
  cases hlen : isLen x with
  | false =>
    rw [hlen] at HXX
    rw [if_neg (by simp)] at HXX ⊢
    have hl1 : (x.toList == [108, 101, 110, 103, 116, 104]) = false := hlen
    have hl2 : ¬ x.toList = [108, 101, 110, 103, 116, 104] := by simpa using hl1
    clear hlen
    clear hst hB hrw hzb hz hi hl hc hq hN hP hR hXb hE hOk h0 hXX
    rw [hW] at c0 c1 c2 f1 n0 n1 n2 n3 n4 p0 p1 p2 p3 p4 r0 r1 g0 g1
    go_enter Tryz.func229, Tryz.ntmps229
    go_wp2_with fail
    rw [← hW]
    clear c0 c1 c2 f1 n0 n1 n2 n3 n4 p0 p1 p2 p3 p4 r0 r1 g0 g1 hW
    refine HNX.out.mono ?_
    rintro e w1 ⟨rfl, b1⟩
    have F1 := Lib.hid (F0.out.quiet b1)
    clear b1
    obtain ⟨c0, c1, c2⟩ := F1.out.st.c
    have f1 := F1.out.st.f 1
    obtain ⟨n0, n1, n2, n3, n4⟩ := F1.out.nb.bk.c5
    obtain ⟨p0, p1, p2, p3, p4⟩ := F1.out.pb.bk.c5
    obtain ⟨r0, r1⟩ := F1.out.rb.bk.c2
    have g0 := F1.out.rb.bk.f 0
    have g1 := F1.out.rb.bk.f 1
    go_wp2_with fail
    clear c0 c1 c2 f1 n0 n1 n2 n3 n4 p0 p1 p2 p3 p4 r0 r1 g0 g1
    refine ((HCA.out _ F1.out.st).mono fun e w' h => h.wide (Y := Xq w0.heap.size w0.heap.size) (fun k _ h => Or.inl h)).mono ?_
    rintro e w9 h9
    obtain ⟨rfl, hv9⟩ := id h9
    have H9 := Lib.hid h9
    have R9 := Lib.hid (F1.out.rbk h9)
    obtain ⟨r0, r1⟩ := R9.out.c2
    have g0 := R9.out.f 0
    have g1 := R9.out.f 1
    clear h9 hv9
    go_wp2
    obtain ⟨t0, t1⟩ := (R9.out.put2 (.int .i64 (lvR (listed E l 8 32 33 i))) (.bool (tgR (listed E l 8 32 33 i)))).c2
    exact bodyPost_ret (v := .agg #[.int .i64 (lvR (listed E l 8 32 33 i)), .bool (tgR (listed E l 8 32 33 i))]) (by simp [results, Tryz.results229, go_sem, t0, t1]) rfl (HXX.out _ _ (F1.out.res H9.out _ _))
  | true =>
    rw [hlen] at HXX
    have hl1 : (x.toList == [108, 101, 110, 103, 116, 104]) = true := hlen
    have hl2 : x.toList = [108, 101, 110, 103, 116, 104] := by simpa using hl1
    clear hlen
    by_cases h32 : c = 32
    · rw [if_neg (by simp [h32])] at HXX ⊢
      obtain ⟨q1, q2⟩ := eq_facts h32
      clear h32
      clear hst hB hrw hzb hz hi hl hc hq hN hP hR hXb hE hOk h0 hXX
      rw [hW] at c0 c1 c2 f1 n0 n1 n2 n3 n4 p0 p1 p2 p3 p4 r0 r1 g0 g1
      go_enter Tryz.func229, Tryz.ntmps229
      go_wp2_with fail
      rw [← hW]
      clear c0 c1 c2 f1 n0 n1 n2 n3 n4 p0 p1 p2 p3 p4 r0 r1 g0 g1 hW
      refine HNX.out.mono ?_
      rintro e w1 ⟨rfl, b1⟩
      have F1 := Lib.hid (F0.out.quiet b1)
      clear b1
      go_wp2_with fail
      refine (HFO.out _ F1.out.st).mono ?_
      rintro e w2 ⟨rfl, b2⟩
      have F2 := Lib.hid (F1.out.quiet b2)
      clear b2
      obtain ⟨c0, c1, c2⟩ := F2.out.st.c
      have f1 := F2.out.st.f 1
      obtain ⟨n0, n1, n2, n3, n4⟩ := F2.out.nb.bk.c5
      obtain ⟨p0, p1, p2, p3, p4⟩ := F2.out.pb.bk.c5
      obtain ⟨r0, r1⟩ := F2.out.rb.bk.c2
      have g0 := F2.out.rb.bk.f 0
      have g1 := F2.out.rb.bk.f 1
      go_wp2_with fail
      clear c0 c1 c2 f1 n0 n1 n2 n3 n4 p0 p1 p2 p3 p4 r0 r1 g0 g1
      refine ((HCA.out _ F2.out.st).mono fun e w' h => h.wide (Y := Xq w0.heap.size w0.heap.size) (fun k _ h => Or.inl h)).mono ?_
      rintro e w9 h9
      obtain ⟨rfl, hv9⟩ := id h9
      have H9 := Lib.hid h9
      have R9 := Lib.hid (F2.out.rbk h9)
      obtain ⟨r0, r1⟩ := R9.out.c2
      have g0 := R9.out.f 0
      have g1 := R9.out.f 1
      clear h9 hv9
      go_wp2
      obtain ⟨t0, t1⟩ := (R9.out.put2 (.int .i64 (lvR (listed E l 8 32 33 i))) (.bool (tgR (listed E l 8 32 33 i)))).c2
      exact bodyPost_ret (v := .agg #[.int .i64 (lvR (listed E l 8 32 33 i)), .bool (tgR (listed E l 8 32 33 i))]) (by simp [results, Tryz.results229, go_sem, t0, t1]) rfl (HXX.out _ _ (F2.out.res H9.out _ _))
    · rw [if_pos ⟨rfl, h32⟩] at HXX ⊢
      obtain ⟨q1, q2⟩ := ne_facts h32
      clear h32
      clear hst hB hrw hzb hz hi hl hc hq hN hP hR hXb hE hOk h0 hXX
      rw [hW] at c0 c1 c2 f1 n0 n1 n2 n3 n4 p0 p1 p2 p3 p4 r0 r1 g0 g1
      go_enter Tryz.func229, Tryz.ntmps229
      go_wp2_with fail
      rw [← hW]
      clear c0 c1 c2 f1 n0 n1 n2 n3 n4 p0 p1 p2 p3 p4 r0 r1 g0 g1 hW
      refine HNX.out.mono ?_
      rintro e w1 ⟨rfl, b1⟩
      have F1 := Lib.hid (F0.out.quiet b1)
      clear b1
      go_wp2_with fail
      refine (HFO.out _ F1.out.st).mono ?_
      rintro e w2 ⟨rfl, b2⟩
      have F2 := Lib.hid (F1.out.quiet b2)
      clear b2
      obtain ⟨c0, c1, c2⟩ := F2.out.st.c
      have f1 := F2.out.st.f 1
      obtain ⟨n0, n1, n2, n3, n4⟩ := F2.out.nb.bk.c5
      obtain ⟨p0, p1, p2, p3, p4⟩ := F2.out.pb.bk.c5
      obtain ⟨r0, r1⟩ := F2.out.rb.bk.c2
      have g0 := F2.out.rb.bk.f 0
      have g1 := F2.out.rb.bk.f 1
      go_wp2_with fail
      clear c0 c1 c2 f1 n0 n1 n2 n3 n4 p0 p1 p2 p3 p4 r0 r1 g0 g1
      refine (show Calls _ _ _ _ (Res w0 a l.length cap zb (Xq w0.heap.size w0.heap.size) v z r w2 (pe.word l 8 i)) from HW.out _ F2.out.st F2.out.st.lt).mono ?_
      rintro e w9 h9
      obtain ⟨rfl, hv9⟩ := id h9
      have H9 := Lib.hid h9
      have R9 := Lib.hid (F2.out.rbk h9)
      obtain ⟨r0, r1⟩ := R9.out.c2
      have g0 := R9.out.f 0
      have g1 := R9.out.f 1
      clear h9 hv9
      go_wp2
      obtain ⟨t0, t1⟩ := (R9.out.put2 (.int .i64 (lvR (pe.word l 8 i))) (.bool (tgR (pe.word l 8 i)))).c2
      exact bodyPost_ret (v := .agg #[.int .i64 (lvR (pe.word l 8 i)), .bool (tgR (pe.word l 8 i))]) (by simp [results, Tryz.results229, go_sem, t0, t1]) rfl (HXX.out _ _ (F2.out.res H9.out _ _))
end
end Go.Proofs.YtagonpjkohidkaaGreatDoor.pr

namespace Go.Proofs.YtagonpjkohidkaaGreatDoor.pr
open Go.ChangeShapes Go.WideShapes Go.ChangeAt Go.RowKit
open tk (Tk)
open nd (Nd PT KidV IBlk OwnI shN makeT)
open ps (Ps B5 posOk kidI top)
open pe
set_option linter.unusedVariables false
set_option linter.unusedSimpArgs false
set_option maxRecDepth 20000

theorem impl_isAsg (c : Int) (w : World) : Calls Tryz.prog 52 #[.int .i64 c] w fun e w' => e = .returned (.bool (isAsg c)) ∧ w = w' := by
  go_enter Tryz.func52, Tryz.ntmps52
  by_cases h1 : c = 54
  · subst h1
    go_wp2
    go_ret
    exact ⟨rfl, rfl⟩
  · obtain ⟨q1, q2⟩ := ne_facts h1
    have HE := Lib.hid (show isAsg c = (decide (38 ≤ c) && decide (c ≤ 43)) by unfold isAsg; rw [q1]; rfl)
    by_cases h2 : 38 ≤ c
    · by_cases h3 : c ≤ 43
      · have HE2 := Lib.hid (show isAsg c = true by rw [HE.out]; simp [h2, h3])
        go_wp2
        go_ret
        exact ⟨by rw [HE2.out]; simp [h2, h3], rfl⟩
      · have HE2 := Lib.hid (show isAsg c = false by rw [HE.out]; simp [h3])
        go_wp2
        go_ret
        exact ⟨by rw [HE2.out]; simp [h2, h3], rfl⟩
    · have HE2 := Lib.hid (show isAsg c = false by rw [HE.out]; simp [h2])
      go_wp2
      go_ret
      exact ⟨by rw [HE2.out]; rfl, rfl⟩
theorem impl_isInc (c : Int) (w : World) : Calls Tryz.prog 53 #[.int .i64 c] w fun e w' => e = .returned (.bool (isInc c)) ∧ w = w' := by
  go_enter Tryz.func53, Tryz.ntmps53
  by_cases h1 : c = 51
  · subst h1
    go_wp2
    go_ret
    exact ⟨rfl, rfl⟩
  · obtain ⟨q1, q2⟩ := ne_facts h1
    have HE := Lib.hid (show isInc c = (c == 52) by unfold isInc; rw [q1]; rfl)
    go_wp2
    go_ret
    exact ⟨by rw [HE.out]; rfl, rfl⟩

/-- The methods that begun and continued name, the kids' rows that they make. -/
def rdB (x : Value) (c : Int) : Value :=
  if c = 3 ∨ c = 4 ∨ c = 5 then .func (.func 226) #[x] #[]
  else if c = 6 then .func (.func 227) #[x] #[]
  else if c = 7 then .func (.func 228) #[x] #[]
  else if c = 8 then .func (.func 229) #[x] #[]
  else if c = 68 ∨ c = 55 ∨ c = 56 ∨ c = 61 then .func (.func 230) #[x] #[]
  else if c = 51 ∨ c = 52 then .func (.func 231) #[x] #[]
  else .nilFunc
def knB (c : Int) : Nat := if c = 68 ∨ c = 51 ∨ c = 52 ∨ c = 55 ∨ c = 56 ∨ c = 61 then 1 else 0
def rdC (x : Value) (c : Int) : Value :=
  if isAsg c = true then .func (.func 145) #[x] #[]
  else if isInc c = true then .func (.func 146) #[x] #[]
  else if c = 65 then .func (.func 147) #[x] #[]
  else if c = 24 then .func (.func 148) #[x] #[]
  else if operand.begins c = true then .func (.func 150) #[x] #[]
  else if lv.opLevel c ≠ 0 then .func (.func 145) #[x] #[]
  else .nilFunc
def knC (c : Int) : Nat := if ctK c = 0 then 0 else ctN c
/-- A row of so many kids, new in w'. -/
def NewRow (m : Nat) (u : Value) (w w' : World) : Prop := (m = 0 ∧ u = .slice none 0 0) ∨ 0 < m ∧ ∃ q, w.heap.size < q ∧ u = .slice (some ⟨q, 0, none⟩) m m ∧ IBlk w' q m (zs m)
theorem NewRow.keep {m : Nat} {u : Value} {w w' w2 : World} (h : NewRow m u w w') (hb : Below w'.heap.size w' w2) : NewRow m u w w2 := by
  rcases h with h | ⟨hm, q, h0, h1, h2⟩
  · exact .inl h
  · exact .inr ⟨hm, q, h0, h1, h2.of_block (hb.block _ h2.lt)⟩
def Begun (K O : Int) (m : Nat) (F : Value) (w : World) (e : Ending) (w' : World) : Prop :=
  ∃ u, e = .returned (.tuple #[.agg #[.int .i64 K, .int .i64 O, .string ⟨#[]⟩, .string ⟨#[]⟩, u], F]) ∧ Below w.heap.size w w' ∧ NewRow m u w w'
theorem begun_leaf (w : World) (c : Array Value) : Bk w.heap.size c 44 (w.alloc (.cells c 44)) ∧ Below w.heap.size w (w.alloc (.cells c 44)) := ⟨Bk.new w _ _, (Below.refl _ _).alloc (Nat.le_refl _) _⟩
theorem begun_row (m : Nat) (w : World) (c : Array Value) : Bk w.heap.size c 44 ((w.alloc (.cells c 44)).alloc (.cells (madeCells #[.int .i64 0] m) 3)) ∧ Below w.heap.size w ((w.alloc (.cells c 44)).alloc (.cells (madeCells #[.int .i64 0] m) 3)) ∧ IBlk ((w.alloc (.cells c 44)).alloc (.cells (madeCells #[.int .i64 0] m) 3)) (w.heap.size + 1) m (zs m) := by
  refine ⟨(Bk.new w _ _).alloc _, ((Below.refl _ _).alloc (Nat.le_refl _) _).alloc (by simp) _, ?_⟩
  have h := IBlk.zeros (w.alloc (.cells c 44)) m
  rwa [show (w.alloc (.cells c 44)).heap.size = w.heap.size + 1 by simp] at h
section
variable {w0 : World} {l : List Tk} {a : Option Addr} {cap i : Nat} {v : Value} {z : List (Nd × Value)} {r : Nat → Nat} {E : Ps → Nat → R} {M i0 : Nat}

set_option maxHeartbeats 1600000 in
theorem begun_3 (x : Value) (w : World) : Calls Tryz.prog 144 #[x, .int .i64 3] w (Begun 2 0 0 (.func (.func 226) #[x] #[]) w) := by
  have hmf : ∀ (fn : Fn) (first cap : Array Value) (w : World), (Instr.makeFunc fn first cap).run Tryz.prog w = .ok (.func fn first cap) w := fun _ _ _ _ => rfl
  obtain ⟨hb, hbel⟩ := begun_leaf w #[.int .i64 2, .int .i64 0, .string ⟨#[]⟩, .string ⟨#[]⟩, .slice none 0 0]
  go_enter Tryz.func144, Tryz.ntmps144
  go_wp2
  obtain ⟨t0, t1, t2, t3, t4⟩ := hb.c5
  exact bodyPost_ret (v := .tuple #[.agg #[.int .i64 2, .int .i64 0, .string ⟨#[]⟩, .string ⟨#[]⟩, .slice none 0 0], .func (.func 226) #[x] #[]]) (by simp [results, Tryz.results144, go_sem, t0, t1, t2, t3, t4]) rfl ⟨.slice none 0 0, rfl, hbel, .inl ⟨rfl, rfl⟩⟩

set_option maxHeartbeats 1600000 in
theorem begun_4 (x : Value) (w : World) : Calls Tryz.prog 144 #[x, .int .i64 4] w (Begun 3 0 0 (.func (.func 226) #[x] #[]) w) := by
  have hmf : ∀ (fn : Fn) (first cap : Array Value) (w : World), (Instr.makeFunc fn first cap).run Tryz.prog w = .ok (.func fn first cap) w := fun _ _ _ _ => rfl
  obtain ⟨hb, hbel⟩ := begun_leaf w #[.int .i64 3, .int .i64 0, .string ⟨#[]⟩, .string ⟨#[]⟩, .slice none 0 0]
  go_enter Tryz.func144, Tryz.ntmps144
  go_wp2
  obtain ⟨t0, t1, t2, t3, t4⟩ := hb.c5
  exact bodyPost_ret (v := .tuple #[.agg #[.int .i64 3, .int .i64 0, .string ⟨#[]⟩, .string ⟨#[]⟩, .slice none 0 0], .func (.func 226) #[x] #[]]) (by simp [results, Tryz.results144, go_sem, t0, t1, t2, t3, t4]) rfl ⟨.slice none 0 0, rfl, hbel, .inl ⟨rfl, rfl⟩⟩

set_option maxHeartbeats 1600000 in
theorem begun_5 (x : Value) (w : World) : Calls Tryz.prog 144 #[x, .int .i64 5] w (Begun 4 0 0 (.func (.func 226) #[x] #[]) w) := by
  have hmf : ∀ (fn : Fn) (first cap : Array Value) (w : World), (Instr.makeFunc fn first cap).run Tryz.prog w = .ok (.func fn first cap) w := fun _ _ _ _ => rfl
  obtain ⟨hb, hbel⟩ := begun_leaf w #[.int .i64 4, .int .i64 0, .string ⟨#[]⟩, .string ⟨#[]⟩, .slice none 0 0]
  go_enter Tryz.func144, Tryz.ntmps144
  go_wp2
  obtain ⟨t0, t1, t2, t3, t4⟩ := hb.c5
  exact bodyPost_ret (v := .tuple #[.agg #[.int .i64 4, .int .i64 0, .string ⟨#[]⟩, .string ⟨#[]⟩, .slice none 0 0], .func (.func 226) #[x] #[]]) (by simp [results, Tryz.results144, go_sem, t0, t1, t2, t3, t4]) rfl ⟨.slice none 0 0, rfl, hbel, .inl ⟨rfl, rfl⟩⟩

set_option maxHeartbeats 1600000 in
theorem begun_6 (x : Value) (w : World) : Calls Tryz.prog 144 #[x, .int .i64 6] w (Begun 1 0 0 (.func (.func 227) #[x] #[]) w) := by
  have hmf : ∀ (fn : Fn) (first cap : Array Value) (w : World), (Instr.makeFunc fn first cap).run Tryz.prog w = .ok (.func fn first cap) w := fun _ _ _ _ => rfl
  obtain ⟨hb, hbel⟩ := begun_leaf w #[.int .i64 1, .int .i64 0, .string ⟨#[]⟩, .string ⟨#[]⟩, .slice none 0 0]
  go_enter Tryz.func144, Tryz.ntmps144
  go_wp2
  obtain ⟨t0, t1, t2, t3, t4⟩ := hb.c5
  exact bodyPost_ret (v := .tuple #[.agg #[.int .i64 1, .int .i64 0, .string ⟨#[]⟩, .string ⟨#[]⟩, .slice none 0 0], .func (.func 227) #[x] #[]]) (by simp [results, Tryz.results144, go_sem, t0, t1, t2, t3, t4]) rfl ⟨.slice none 0 0, rfl, hbel, .inl ⟨rfl, rfl⟩⟩

set_option maxHeartbeats 1600000 in
theorem begun_7 (x : Value) (w : World) : Calls Tryz.prog 144 #[x, .int .i64 7] w (Begun 7 0 0 (.func (.func 228) #[x] #[]) w) := by
  have hmf : ∀ (fn : Fn) (first cap : Array Value) (w : World), (Instr.makeFunc fn first cap).run Tryz.prog w = .ok (.func fn first cap) w := fun _ _ _ _ => rfl
  obtain ⟨hb, hbel⟩ := begun_leaf w #[.int .i64 7, .int .i64 0, .string ⟨#[]⟩, .string ⟨#[]⟩, .slice none 0 0]
  go_enter Tryz.func144, Tryz.ntmps144
  go_wp2
  obtain ⟨t0, t1, t2, t3, t4⟩ := hb.c5
  exact bodyPost_ret (v := .tuple #[.agg #[.int .i64 7, .int .i64 0, .string ⟨#[]⟩, .string ⟨#[]⟩, .slice none 0 0], .func (.func 228) #[x] #[]]) (by simp [results, Tryz.results144, go_sem, t0, t1, t2, t3, t4]) rfl ⟨.slice none 0 0, rfl, hbel, .inl ⟨rfl, rfl⟩⟩

set_option maxHeartbeats 1600000 in
theorem begun_8 (x : Value) (w : World) : Calls Tryz.prog 144 #[x, .int .i64 8] w (Begun 8 0 0 (.func (.func 229) #[x] #[]) w) := by
  have hmf : ∀ (fn : Fn) (first cap : Array Value) (w : World), (Instr.makeFunc fn first cap).run Tryz.prog w = .ok (.func fn first cap) w := fun _ _ _ _ => rfl
  obtain ⟨hb, hbel⟩ := begun_leaf w #[.int .i64 8, .int .i64 0, .string ⟨#[]⟩, .string ⟨#[]⟩, .slice none 0 0]
  go_enter Tryz.func144, Tryz.ntmps144
  go_wp2
  obtain ⟨t0, t1, t2, t3, t4⟩ := hb.c5
  exact bodyPost_ret (v := .tuple #[.agg #[.int .i64 8, .int .i64 0, .string ⟨#[]⟩, .string ⟨#[]⟩, .slice none 0 0], .func (.func 229) #[x] #[]]) (by simp [results, Tryz.results144, go_sem, t0, t1, t2, t3, t4]) rfl ⟨.slice none 0 0, rfl, hbel, .inl ⟨rfl, rfl⟩⟩

set_option maxHeartbeats 1600000 in
theorem begun_68 (x : Value) (w : World) : Calls Tryz.prog 144 #[x, .int .i64 68] w (Begun 6 0 1 (.func (.func 230) #[x] #[]) w) := by
  have hmf : ∀ (fn : Fn) (first cap : Array Value) (w : World), (Instr.makeFunc fn first cap).run Tryz.prog w = .ok (.func fn first cap) w := fun _ _ _ _ => rfl
  have hmk : ∀ w : World, (Instr.makeSlice 42 (.int .i64 1) (.int .i64 1)).run Tryz.prog w = .ok (.slice (some ⟨w.heap.size, 0, none⟩) 1 1) (w.alloc (.cells (madeCells #[.int .i64 0] 1) 3)) := fun w => nd.make_ints 1 (by omega) w
  obtain ⟨hb, hbel, hrow⟩ := begun_row 1 w #[.int .i64 6, .int .i64 0, .string ⟨#[]⟩, .string ⟨#[]⟩, .slice (some ⟨w.heap.size + 1, 0, none⟩) 1 1]
  go_enter Tryz.func144, Tryz.ntmps144
  go_wp2
  obtain ⟨t0, t1, t2, t3, t4⟩ := hb.c5
  exact bodyPost_ret (v := .tuple #[.agg #[.int .i64 6, .int .i64 0, .string ⟨#[]⟩, .string ⟨#[]⟩, .slice (some ⟨w.heap.size + 1, 0, none⟩) 1 1], .func (.func 230) #[x] #[]]) (by simp [results, Tryz.results144, go_sem, t0, t1, t2, t3, t4]) rfl ⟨.slice (some ⟨w.heap.size + 1, 0, none⟩) 1 1, rfl, hbel, .inr ⟨by decide, w.heap.size + 1, Nat.lt_succ_self _, rfl, hrow⟩⟩

set_option maxHeartbeats 1600000 in
theorem begun_51 (x : Value) (w : World) : Calls Tryz.prog 144 #[x, .int .i64 51] w (Begun 9 51 1 (.func (.func 231) #[x] #[]) w) := by
  have hmf : ∀ (fn : Fn) (first cap : Array Value) (w : World), (Instr.makeFunc fn first cap).run Tryz.prog w = .ok (.func fn first cap) w := fun _ _ _ _ => rfl
  have hmk : ∀ w : World, (Instr.makeSlice 42 (.int .i64 1) (.int .i64 1)).run Tryz.prog w = .ok (.slice (some ⟨w.heap.size, 0, none⟩) 1 1) (w.alloc (.cells (madeCells #[.int .i64 0] 1) 3)) := fun w => nd.make_ints 1 (by omega) w
  obtain ⟨hb, hbel, hrow⟩ := begun_row 1 w #[.int .i64 9, .int .i64 51, .string ⟨#[]⟩, .string ⟨#[]⟩, .slice (some ⟨w.heap.size + 1, 0, none⟩) 1 1]
  go_enter Tryz.func144, Tryz.ntmps144
  go_wp2
  obtain ⟨t0, t1, t2, t3, t4⟩ := hb.c5
  exact bodyPost_ret (v := .tuple #[.agg #[.int .i64 9, .int .i64 51, .string ⟨#[]⟩, .string ⟨#[]⟩, .slice (some ⟨w.heap.size + 1, 0, none⟩) 1 1], .func (.func 231) #[x] #[]]) (by simp [results, Tryz.results144, go_sem, t0, t1, t2, t3, t4]) rfl ⟨.slice (some ⟨w.heap.size + 1, 0, none⟩) 1 1, rfl, hbel, .inr ⟨by decide, w.heap.size + 1, Nat.lt_succ_self _, rfl, hrow⟩⟩

set_option maxHeartbeats 1600000 in
theorem begun_52 (x : Value) (w : World) : Calls Tryz.prog 144 #[x, .int .i64 52] w (Begun 9 52 1 (.func (.func 231) #[x] #[]) w) := by
  have hmf : ∀ (fn : Fn) (first cap : Array Value) (w : World), (Instr.makeFunc fn first cap).run Tryz.prog w = .ok (.func fn first cap) w := fun _ _ _ _ => rfl
  have hmk : ∀ w : World, (Instr.makeSlice 42 (.int .i64 1) (.int .i64 1)).run Tryz.prog w = .ok (.slice (some ⟨w.heap.size, 0, none⟩) 1 1) (w.alloc (.cells (madeCells #[.int .i64 0] 1) 3)) := fun w => nd.make_ints 1 (by omega) w
  obtain ⟨hb, hbel, hrow⟩ := begun_row 1 w #[.int .i64 9, .int .i64 52, .string ⟨#[]⟩, .string ⟨#[]⟩, .slice (some ⟨w.heap.size + 1, 0, none⟩) 1 1]
  go_enter Tryz.func144, Tryz.ntmps144
  go_wp2
  obtain ⟨t0, t1, t2, t3, t4⟩ := hb.c5
  exact bodyPost_ret (v := .tuple #[.agg #[.int .i64 9, .int .i64 52, .string ⟨#[]⟩, .string ⟨#[]⟩, .slice (some ⟨w.heap.size + 1, 0, none⟩) 1 1], .func (.func 231) #[x] #[]]) (by simp [results, Tryz.results144, go_sem, t0, t1, t2, t3, t4]) rfl ⟨.slice (some ⟨w.heap.size + 1, 0, none⟩) 1 1, rfl, hbel, .inr ⟨by decide, w.heap.size + 1, Nat.lt_succ_self _, rfl, hrow⟩⟩

set_option maxHeartbeats 1600000 in
theorem begun_55 (x : Value) (w : World) : Calls Tryz.prog 144 #[x, .int .i64 55] w (Begun 11 55 1 (.func (.func 230) #[x] #[]) w) := by
  have hmf : ∀ (fn : Fn) (first cap : Array Value) (w : World), (Instr.makeFunc fn first cap).run Tryz.prog w = .ok (.func fn first cap) w := fun _ _ _ _ => rfl
  have hmk : ∀ w : World, (Instr.makeSlice 42 (.int .i64 1) (.int .i64 1)).run Tryz.prog w = .ok (.slice (some ⟨w.heap.size, 0, none⟩) 1 1) (w.alloc (.cells (madeCells #[.int .i64 0] 1) 3)) := fun w => nd.make_ints 1 (by omega) w
  obtain ⟨hb, hbel, hrow⟩ := begun_row 1 w #[.int .i64 11, .int .i64 55, .string ⟨#[]⟩, .string ⟨#[]⟩, .slice (some ⟨w.heap.size + 1, 0, none⟩) 1 1]
  go_enter Tryz.func144, Tryz.ntmps144
  go_wp2
  obtain ⟨t0, t1, t2, t3, t4⟩ := hb.c5
  exact bodyPost_ret (v := .tuple #[.agg #[.int .i64 11, .int .i64 55, .string ⟨#[]⟩, .string ⟨#[]⟩, .slice (some ⟨w.heap.size + 1, 0, none⟩) 1 1], .func (.func 230) #[x] #[]]) (by simp [results, Tryz.results144, go_sem, t0, t1, t2, t3, t4]) rfl ⟨.slice (some ⟨w.heap.size + 1, 0, none⟩) 1 1, rfl, hbel, .inr ⟨by decide, w.heap.size + 1, Nat.lt_succ_self _, rfl, hrow⟩⟩

set_option maxHeartbeats 1600000 in
theorem begun_56 (x : Value) (w : World) : Calls Tryz.prog 144 #[x, .int .i64 56] w (Begun 11 56 1 (.func (.func 230) #[x] #[]) w) := by
  have hmf : ∀ (fn : Fn) (first cap : Array Value) (w : World), (Instr.makeFunc fn first cap).run Tryz.prog w = .ok (.func fn first cap) w := fun _ _ _ _ => rfl
  have hmk : ∀ w : World, (Instr.makeSlice 42 (.int .i64 1) (.int .i64 1)).run Tryz.prog w = .ok (.slice (some ⟨w.heap.size, 0, none⟩) 1 1) (w.alloc (.cells (madeCells #[.int .i64 0] 1) 3)) := fun w => nd.make_ints 1 (by omega) w
  obtain ⟨hb, hbel, hrow⟩ := begun_row 1 w #[.int .i64 11, .int .i64 56, .string ⟨#[]⟩, .string ⟨#[]⟩, .slice (some ⟨w.heap.size + 1, 0, none⟩) 1 1]
  go_enter Tryz.func144, Tryz.ntmps144
  go_wp2
  obtain ⟨t0, t1, t2, t3, t4⟩ := hb.c5
  exact bodyPost_ret (v := .tuple #[.agg #[.int .i64 11, .int .i64 56, .string ⟨#[]⟩, .string ⟨#[]⟩, .slice (some ⟨w.heap.size + 1, 0, none⟩) 1 1], .func (.func 230) #[x] #[]]) (by simp [results, Tryz.results144, go_sem, t0, t1, t2, t3, t4]) rfl ⟨.slice (some ⟨w.heap.size + 1, 0, none⟩) 1 1, rfl, hbel, .inr ⟨by decide, w.heap.size + 1, Nat.lt_succ_self _, rfl, hrow⟩⟩

set_option maxHeartbeats 1600000 in
theorem begun_61 (x : Value) (w : World) : Calls Tryz.prog 144 #[x, .int .i64 61] w (Begun 11 61 1 (.func (.func 230) #[x] #[]) w) := by
  have hmf : ∀ (fn : Fn) (first cap : Array Value) (w : World), (Instr.makeFunc fn first cap).run Tryz.prog w = .ok (.func fn first cap) w := fun _ _ _ _ => rfl
  have hmk : ∀ w : World, (Instr.makeSlice 42 (.int .i64 1) (.int .i64 1)).run Tryz.prog w = .ok (.slice (some ⟨w.heap.size, 0, none⟩) 1 1) (w.alloc (.cells (madeCells #[.int .i64 0] 1) 3)) := fun w => nd.make_ints 1 (by omega) w
  obtain ⟨hb, hbel, hrow⟩ := begun_row 1 w #[.int .i64 11, .int .i64 61, .string ⟨#[]⟩, .string ⟨#[]⟩, .slice (some ⟨w.heap.size + 1, 0, none⟩) 1 1]
  go_enter Tryz.func144, Tryz.ntmps144
  go_wp2
  obtain ⟨t0, t1, t2, t3, t4⟩ := hb.c5
  exact bodyPost_ret (v := .tuple #[.agg #[.int .i64 11, .int .i64 61, .string ⟨#[]⟩, .string ⟨#[]⟩, .slice (some ⟨w.heap.size + 1, 0, none⟩) 1 1], .func (.func 230) #[x] #[]]) (by simp [results, Tryz.results144, go_sem, t0, t1, t2, t3, t4]) rfl ⟨.slice (some ⟨w.heap.size + 1, 0, none⟩) 1 1, rfl, hbel, .inr ⟨by decide, w.heap.size + 1, Nat.lt_succ_self _, rfl, hrow⟩⟩

set_option maxHeartbeats 1600000 in
theorem begun_none (x : Value) (c : Int) (h : bgK c = 0) (w : World) : Calls Tryz.prog 144 #[x, .int .i64 c] w (Begun 0 0 0 .nilFunc w) := by
  obtain ⟨hb, hbel⟩ := begun_leaf w #[.int .i64 0, .int .i64 0, .string ⟨#[]⟩, .string ⟨#[]⟩, .slice none 0 0]
  have hn : ∀ y : Int, bgK y ≠ 0 → ¬ c = y := fun y hy e => hy (e ▸ h)
  obtain ⟨a3, b3⟩ := ne_facts (hn 3 (by decide))
  obtain ⟨a4, b4⟩ := ne_facts (hn 4 (by decide))
  obtain ⟨a5, b5⟩ := ne_facts (hn 5 (by decide))
  obtain ⟨a6, b6⟩ := ne_facts (hn 6 (by decide))
  obtain ⟨a7, b7⟩ := ne_facts (hn 7 (by decide))
  obtain ⟨a8, b8⟩ := ne_facts (hn 8 (by decide))
  obtain ⟨a68, b68⟩ := ne_facts (hn 68 (by decide))
  obtain ⟨a51, b51⟩ := ne_facts (hn 51 (by decide))
  obtain ⟨a52, b52⟩ := ne_facts (hn 52 (by decide))
  obtain ⟨a55, b55⟩ := ne_facts (hn 55 (by decide))
  obtain ⟨a56, b56⟩ := ne_facts (hn 56 (by decide))
  obtain ⟨a61, b61⟩ := ne_facts (hn 61 (by decide))
  clear hn h
  go_enter Tryz.func144, Tryz.ntmps144
  go_wp2
  obtain ⟨t0, t1, t2, t3, t4⟩ := hb.c5
  exact bodyPost_ret (v := .tuple #[.agg #[.int .i64 0, .int .i64 0, .string ⟨#[]⟩, .string ⟨#[]⟩, .slice none 0 0], .nilFunc]) (by simp [results, Tryz.results144, go_sem, t0, t1, t2, t3, t4]) rfl ⟨.slice none 0 0, rfl, hbel, .inl ⟨rfl, rfl⟩⟩

set_option maxHeartbeats 1600000 in
theorem cont_asg (x : Value) (c : Int) (h : isAsg c = true) (w : World) : Calls Tryz.prog 89 #[x, .int .i64 c] w (Begun 15 c 2 (.func (.func 145) #[x] #[]) w) := by
  have hmf : ∀ (fn : Fn) (first cap : Array Value) (w : World), (Instr.makeFunc fn first cap).run Tryz.prog w = .ok (.func fn first cap) w := fun _ _ _ _ => rfl
  have hmk : ∀ w : World, (Instr.makeSlice 42 (.int .i64 2) (.int .i64 2)).run Tryz.prog w = .ok (.slice (some ⟨w.heap.size, 0, none⟩) 2 2) (w.alloc (.cells (madeCells #[.int .i64 0] 2) 3)) := fun w => nd.make_ints 2 (by omega) w
  obtain ⟨hb, hbel, hrow⟩ := begun_row 2 w #[.int .i64 15, .int .i64 c, .string ⟨#[]⟩, .string ⟨#[]⟩, .slice (some ⟨w.heap.size + 1, 0, none⟩) 2 2]
  have HA := Lib.hid h
  have HI := Lib.hid h
  have HB := Lib.hid h
  have HO := Lib.hid h
  go_enter Tryz.func89, Tryz.ntmps89
  go_wp2_with (first | (go_at_call 52; refine (impl_isAsg _ _).mono ?_; rw [HA.out]; rintro e w2 ⟨rfl, rfl⟩) | (go_at_call 53; refine (impl_isInc _ _).mono ?_; rw [HI.out]; rintro e w2 ⟨rfl, rfl⟩) | (go_at_call 149; refine (operand.impl_begins _ _).mono ?_; rw [HB.out]; rintro e w2 ⟨rfl, rfl⟩) | (go_at_call 21; refine (lv.impl_op _ _).mono ?_; rw [HO.out]; rintro e w2 ⟨rfl, b2⟩; have HB2 := Lib.hid b2; have hsz2 : w2.heap.size = w2.heap.size := rfl))
  obtain ⟨t0, t1, t2, t3, t4⟩ := hb.c5
  exact bodyPost_ret (v := .tuple #[.agg #[.int .i64 15, .int .i64 c, .string ⟨#[]⟩, .string ⟨#[]⟩, .slice (some ⟨w.heap.size + 1, 0, none⟩) 2 2], .func (.func 145) #[x] #[]]) (by simp [results, Tryz.results89, go_sem, t0, t1, t2, t3, t4]) rfl ⟨.slice (some ⟨w.heap.size + 1, 0, none⟩) 2 2, rfl, hbel, .inr ⟨by decide, w.heap.size + 1, Nat.lt_succ_self _, rfl, hrow⟩⟩

set_option maxHeartbeats 1600000 in
theorem cont_inc (x : Value) (c : Int) (hA : isAsg c = false) (h : isInc c = true) (w : World) : Calls Tryz.prog 89 #[x, .int .i64 c] w (Begun 10 c 1 (.func (.func 146) #[x] #[]) w) := by
  have hmf : ∀ (fn : Fn) (first cap : Array Value) (w : World), (Instr.makeFunc fn first cap).run Tryz.prog w = .ok (.func fn first cap) w := fun _ _ _ _ => rfl
  have hmk : ∀ w : World, (Instr.makeSlice 42 (.int .i64 1) (.int .i64 1)).run Tryz.prog w = .ok (.slice (some ⟨w.heap.size, 0, none⟩) 1 1) (w.alloc (.cells (madeCells #[.int .i64 0] 1) 3)) := fun w => nd.make_ints 1 (by omega) w
  obtain ⟨hb, hbel, hrow⟩ := begun_row 1 w #[.int .i64 10, .int .i64 c, .string ⟨#[]⟩, .string ⟨#[]⟩, .slice (some ⟨w.heap.size + 1, 0, none⟩) 1 1]
  have HA := Lib.hid hA
  have HI := Lib.hid h
  have HB := Lib.hid h
  have HO := Lib.hid h
  go_enter Tryz.func89, Tryz.ntmps89
  go_wp2_with (first | (go_at_call 52; refine (impl_isAsg _ _).mono ?_; rw [HA.out]; rintro e w2 ⟨rfl, rfl⟩) | (go_at_call 53; refine (impl_isInc _ _).mono ?_; rw [HI.out]; rintro e w2 ⟨rfl, rfl⟩) | (go_at_call 149; refine (operand.impl_begins _ _).mono ?_; rw [HB.out]; rintro e w2 ⟨rfl, rfl⟩) | (go_at_call 21; refine (lv.impl_op _ _).mono ?_; rw [HO.out]; rintro e w2 ⟨rfl, b2⟩; have HB2 := Lib.hid b2; have hsz2 : w2.heap.size = w2.heap.size := rfl))
  obtain ⟨t0, t1, t2, t3, t4⟩ := hb.c5
  exact bodyPost_ret (v := .tuple #[.agg #[.int .i64 10, .int .i64 c, .string ⟨#[]⟩, .string ⟨#[]⟩, .slice (some ⟨w.heap.size + 1, 0, none⟩) 1 1], .func (.func 146) #[x] #[]]) (by simp [results, Tryz.results89, go_sem, t0, t1, t2, t3, t4]) rfl ⟨.slice (some ⟨w.heap.size + 1, 0, none⟩) 1 1, rfl, hbel, .inr ⟨by decide, w.heap.size + 1, Nat.lt_succ_self _, rfl, hrow⟩⟩

set_option maxHeartbeats 1600000 in
theorem cont_quest (x : Value) (c : Int) (h : c = 65) (w : World) : Calls Tryz.prog 89 #[x, .int .i64 c] w (Begun 14 0 3 (.func (.func 147) #[x] #[]) w) := by
  have hmf : ∀ (fn : Fn) (first cap : Array Value) (w : World), (Instr.makeFunc fn first cap).run Tryz.prog w = .ok (.func fn first cap) w := fun _ _ _ _ => rfl
  have hmk : ∀ w : World, (Instr.makeSlice 42 (.int .i64 3) (.int .i64 3)).run Tryz.prog w = .ok (.slice (some ⟨w.heap.size, 0, none⟩) 3 3) (w.alloc (.cells (madeCells #[.int .i64 0] 3) 3)) := fun w => nd.make_ints 3 (by omega) w
  obtain ⟨hb, hbel, hrow⟩ := begun_row 3 w #[.int .i64 14, .int .i64 0, .string ⟨#[]⟩, .string ⟨#[]⟩, .slice (some ⟨w.heap.size + 1, 0, none⟩) 3 3]
  subst h
  have HA := Lib.hid (show isAsg 65 = false from rfl)
  have HI := Lib.hid (show isInc 65 = false from rfl)
  have HB := Lib.hid (show isInc 65 = false from rfl)
  have HO := Lib.hid (show isInc 65 = false from rfl)
  go_enter Tryz.func89, Tryz.ntmps89
  go_wp2_with (first | (go_at_call 52; refine (impl_isAsg _ _).mono ?_; rw [HA.out]; rintro e w2 ⟨rfl, rfl⟩) | (go_at_call 53; refine (impl_isInc _ _).mono ?_; rw [HI.out]; rintro e w2 ⟨rfl, rfl⟩) | (go_at_call 149; refine (operand.impl_begins _ _).mono ?_; rw [HB.out]; rintro e w2 ⟨rfl, rfl⟩) | (go_at_call 21; refine (lv.impl_op _ _).mono ?_; rw [HO.out]; rintro e w2 ⟨rfl, b2⟩; have HB2 := Lib.hid b2; have hsz2 : w2.heap.size = w2.heap.size := rfl))
  obtain ⟨t0, t1, t2, t3, t4⟩ := hb.c5
  exact bodyPost_ret (v := .tuple #[.agg #[.int .i64 14, .int .i64 0, .string ⟨#[]⟩, .string ⟨#[]⟩, .slice (some ⟨w.heap.size + 1, 0, none⟩) 3 3], .func (.func 147) #[x] #[]]) (by simp [results, Tryz.results89, go_sem, t0, t1, t2, t3, t4]) rfl ⟨.slice (some ⟨w.heap.size + 1, 0, none⟩) 3 3, rfl, hbel, .inr ⟨by decide, w.heap.size + 1, Nat.lt_succ_self _, rfl, hrow⟩⟩

set_option maxHeartbeats 1600000 in
theorem cont_in (x : Value) (c : Int) (h : c = 24) (w : World) : Calls Tryz.prog 89 #[x, .int .i64 c] w (Begun 13 0 1 (.func (.func 148) #[x] #[]) w) := by
  have hmf : ∀ (fn : Fn) (first cap : Array Value) (w : World), (Instr.makeFunc fn first cap).run Tryz.prog w = .ok (.func fn first cap) w := fun _ _ _ _ => rfl
  have hmk : ∀ w : World, (Instr.makeSlice 42 (.int .i64 1) (.int .i64 1)).run Tryz.prog w = .ok (.slice (some ⟨w.heap.size, 0, none⟩) 1 1) (w.alloc (.cells (madeCells #[.int .i64 0] 1) 3)) := fun w => nd.make_ints 1 (by omega) w
  obtain ⟨hb, hbel, hrow⟩ := begun_row 1 w #[.int .i64 13, .int .i64 0, .string ⟨#[]⟩, .string ⟨#[]⟩, .slice (some ⟨w.heap.size + 1, 0, none⟩) 1 1]
  subst h
  have HA := Lib.hid (show isAsg 24 = false from rfl)
  have HI := Lib.hid (show isInc 24 = false from rfl)
  have HB := Lib.hid (show isInc 65 = false from rfl)
  have HO := Lib.hid (show isInc 65 = false from rfl)
  go_enter Tryz.func89, Tryz.ntmps89
  go_wp2_with (first | (go_at_call 52; refine (impl_isAsg _ _).mono ?_; rw [HA.out]; rintro e w2 ⟨rfl, rfl⟩) | (go_at_call 53; refine (impl_isInc _ _).mono ?_; rw [HI.out]; rintro e w2 ⟨rfl, rfl⟩) | (go_at_call 149; refine (operand.impl_begins _ _).mono ?_; rw [HB.out]; rintro e w2 ⟨rfl, rfl⟩) | (go_at_call 21; refine (lv.impl_op _ _).mono ?_; rw [HO.out]; rintro e w2 ⟨rfl, b2⟩; have HB2 := Lib.hid b2; have hsz2 : w2.heap.size = w2.heap.size := rfl))
  obtain ⟨t0, t1, t2, t3, t4⟩ := hb.c5
  exact bodyPost_ret (v := .tuple #[.agg #[.int .i64 13, .int .i64 0, .string ⟨#[]⟩, .string ⟨#[]⟩, .slice (some ⟨w.heap.size + 1, 0, none⟩) 1 1], .func (.func 148) #[x] #[]]) (by simp [results, Tryz.results89, go_sem, t0, t1, t2, t3, t4]) rfl ⟨.slice (some ⟨w.heap.size + 1, 0, none⟩) 1 1, rfl, hbel, .inr ⟨by decide, w.heap.size + 1, Nat.lt_succ_self _, rfl, hrow⟩⟩

set_option maxHeartbeats 1600000 in
theorem cont_cat (x : Value) (c : Int) (hA : isAsg c = false) (hI : isInc c = false) (h65 : ¬ c = 65) (h24 : ¬ c = 24) (h : operand.begins c = true) (w : World) : Calls Tryz.prog 89 #[x, .int .i64 c] w (Begun 12 99 2 (.func (.func 150) #[x] #[]) w) := by
  have hmf : ∀ (fn : Fn) (first cap : Array Value) (w : World), (Instr.makeFunc fn first cap).run Tryz.prog w = .ok (.func fn first cap) w := fun _ _ _ _ => rfl
  have hmk : ∀ w : World, (Instr.makeSlice 42 (.int .i64 2) (.int .i64 2)).run Tryz.prog w = .ok (.slice (some ⟨w.heap.size, 0, none⟩) 2 2) (w.alloc (.cells (madeCells #[.int .i64 0] 2) 3)) := fun w => nd.make_ints 2 (by omega) w
  obtain ⟨hb, hbel, hrow⟩ := begun_row 2 w #[.int .i64 12, .int .i64 99, .string ⟨#[]⟩, .string ⟨#[]⟩, .slice (some ⟨w.heap.size + 1, 0, none⟩) 2 2]
  have HA := Lib.hid hA
  have HI := Lib.hid hI
  have HB := Lib.hid h
  have HO := Lib.hid h
  obtain ⟨a65, b65⟩ := ne_facts (show ¬ c = 65 from h65)
  obtain ⟨a24, b24⟩ := ne_facts (show ¬ c = 24 from h24)
  go_enter Tryz.func89, Tryz.ntmps89
  go_wp2_with (first | (go_at_call 52; refine (impl_isAsg _ _).mono ?_; rw [HA.out]; rintro e w2 ⟨rfl, rfl⟩) | (go_at_call 53; refine (impl_isInc _ _).mono ?_; rw [HI.out]; rintro e w2 ⟨rfl, rfl⟩) | (go_at_call 149; refine (operand.impl_begins _ _).mono ?_; rw [HB.out]; rintro e w2 ⟨rfl, rfl⟩) | (go_at_call 21; refine (lv.impl_op _ _).mono ?_; rw [HO.out]; rintro e w2 ⟨rfl, b2⟩; have HB2 := Lib.hid b2; have hsz2 : w2.heap.size = w2.heap.size := rfl))
  obtain ⟨t0, t1, t2, t3, t4⟩ := hb.c5
  exact bodyPost_ret (v := .tuple #[.agg #[.int .i64 12, .int .i64 99, .string ⟨#[]⟩, .string ⟨#[]⟩, .slice (some ⟨w.heap.size + 1, 0, none⟩) 2 2], .func (.func 150) #[x] #[]]) (by simp [results, Tryz.results89, go_sem, t0, t1, t2, t3, t4]) rfl ⟨.slice (some ⟨w.heap.size + 1, 0, none⟩) 2 2, rfl, hbel, .inr ⟨by decide, w.heap.size + 1, Nat.lt_succ_self _, rfl, hrow⟩⟩

set_option maxHeartbeats 1600000 in
theorem cont_op (x : Value) (c : Int) (hA : isAsg c = false) (hI : isInc c = false) (h65 : ¬ c = 65) (h24 : ¬ c = 24) (hBB : operand.begins c = false) (h : lv.opLevel c ≠ 0) (w : World) : Calls Tryz.prog 89 #[x, .int .i64 c] w (Begun 12 c 2 (.func (.func 145) #[x] #[]) w) := by
  have hmf : ∀ (fn : Fn) (first cap : Array Value) (w : World), (Instr.makeFunc fn first cap).run Tryz.prog w = .ok (.func fn first cap) w := fun _ _ _ _ => rfl
  have hmk : ∀ w : World, (Instr.makeSlice 42 (.int .i64 2) (.int .i64 2)).run Tryz.prog w = .ok (.slice (some ⟨w.heap.size, 0, none⟩) 2 2) (w.alloc (.cells (madeCells #[.int .i64 0] 2) 3)) := fun w => nd.make_ints 2 (by omega) w
  obtain ⟨V, hV⟩ : ∃ V, lv.opLevel c = V := ⟨_, rfl⟩
  have HV := hV
  rw [hV] at h
  obtain ⟨v1, v2⟩ := ne_facts h
  obtain ⟨hb, hbel⟩ := begun_leaf w #[.int .i64 0, .int .i64 0, .string ⟨#[]⟩, .string ⟨#[]⟩, .slice none 0 0]
  have HN := Lib.hid hb
  have HBEL := Lib.hid hbel
  have HA := Lib.hid hA
  have HI := Lib.hid hI
  have HB := Lib.hid hBB
  obtain ⟨a65, b65⟩ := ne_facts (show ¬ c = 65 from h65)
  obtain ⟨a24, b24⟩ := ne_facts (show ¬ c = 24 from h24)
  have hcp : ∀ (w2 : World), w.heap.size < w2.heap.size → ∀ z, ¬ w.heap.size = w2.heap.size := fun w2 h z => by omega
  clear hb hbel hA hI hBB h h65 h24 hV hcp
  go_enter Tryz.func89, Tryz.ntmps89
  go_wp2_with (first | (go_at_call 52; refine (impl_isAsg _ _).mono ?_; rw [HA.out]; rintro e w1 ⟨rfl, rfl⟩) | (go_at_call 53; refine (impl_isInc _ _).mono ?_; rw [HI.out]; rintro e w1 ⟨rfl, rfl⟩) | (go_at_call 149; refine (operand.impl_begins _ _).mono ?_; rw [HB.out]; rintro e w1 ⟨rfl, rfl⟩) | (go_at_call 21; refine (lv.impl_op _ _).mono ?_; rw [HV]; rintro e w2 ⟨rfl, b2⟩; have N2 := Lib.hid (HN.out.keep b2); have B2 := Lib.hid (HBEL.out.trans (b2.mono HBEL.out.size)); have f0 := N2.out.f 0; have f1 := N2.out.f 1; have f2 := N2.out.f 2; have f3 := N2.out.f 3; have f4 := N2.out.f 4; obtain ⟨d0, d1, d2, d3, d4⟩ := N2.out.c5; have A0 : ∀ z, (w2.alloc z).cell? ⟨w.heap.size, 0, none⟩ = some (.int .i64 0) := fun z => nd.cell_past z d0; have A1 : ∀ z, (w2.alloc z).cell? ⟨w.heap.size, 1, none⟩ = some (.int .i64 0) := fun z => nd.cell_past z d1; have A2 : ∀ z, (w2.alloc z).cell? ⟨w.heap.size, 2, none⟩ = some (.string ⟨#[]⟩) := fun z => nd.cell_past z d2; have A3 : ∀ z, (w2.alloc z).cell? ⟨w.heap.size, 3, none⟩ = some (.string ⟨#[]⟩) := fun z => nd.cell_past z d3; have A4 : ∀ z, (w2.alloc z).cell? ⟨w.heap.size, 4, none⟩ = some (.slice none 0 0) := fun z => nd.cell_past z d4; have G0 := ((N2.out.alloc (.cells (madeCells #[.int .i64 0] 2) 3)).f 0); have G1 := ((N2.out.alloc (.cells (madeCells #[.int .i64 0] 2) 3)).f 1); have G2' := ((N2.out.alloc (.cells (madeCells #[.int .i64 0] 2) 3)).f 2); have G3 := ((N2.out.alloc (.cells (madeCells #[.int .i64 0] 2) 3)).f 3); have G4 := ((N2.out.alloc (.cells (madeCells #[.int .i64 0] 2) 3)).f 4)))
  have hne : w2.heap.size ≠ w.heap.size := by have := N2.out.lt; omega
  have hF : Bk w.heap.size #[.int .i64 12, .int .i64 c, .string ⟨#[]⟩, .string ⟨#[]⟩, .slice (some ⟨w2.heap.size, 0, none⟩) 2 2] 44 _ := ((N2.out.alloc (.cells (madeCells #[.int .i64 0] 2) 3)).put5 (.int .i64 12) (.int .i64 c) (.string ⟨#[]⟩) (.string ⟨#[]⟩) (.slice (some ⟨w2.heap.size, 0, none⟩) 2 2))
  obtain ⟨t0, t1, t2, t3, t4⟩ := hF.c5
  exact bodyPost_ret (v := .tuple #[.agg #[.int .i64 12, .int .i64 c, .string ⟨#[]⟩, .string ⟨#[]⟩, .slice (some ⟨w2.heap.size, 0, none⟩) 2 2], .func (.func 145) #[x] #[]]) (by simp [results, Tryz.results89, go_sem, t0, t1, t2, t3, t4]) rfl ⟨.slice (some ⟨w2.heap.size, 0, none⟩) 2 2, rfl, below_put5 (B2.out.alloc B2.out.size _) (Nat.le_refl _) _ _ _ _ _, .inr ⟨by decide, w2.heap.size, N2.out.lt, rfl, by
    have h := IBlk.zeros w2 2
    exact h.of_block (by rw [heap_setCell_other _ _ _ _ hne, heap_setCell_other _ _ _ _ hne, heap_setCell_other _ _ _ _ hne, heap_setCell_other _ _ _ _ hne, heap_setCell_other _ _ _ _ hne])⟩⟩

set_option maxHeartbeats 1600000 in
theorem cont_none (x : Value) (c : Int) (hA : isAsg c = false) (hI : isInc c = false) (h65 : ¬ c = 65) (h24 : ¬ c = 24) (hBB : operand.begins c = false) (HV : lv.opLevel c = 0) (w : World) : Calls Tryz.prog 89 #[x, .int .i64 c] w (Begun 0 0 0 .nilFunc w) := by
  obtain ⟨hb, hbel⟩ := begun_leaf w #[.int .i64 0, .int .i64 0, .string ⟨#[]⟩, .string ⟨#[]⟩, .slice none 0 0]
  have HN := Lib.hid hb
  have HBEL := Lib.hid hbel
  have HA := Lib.hid hA
  have HI := Lib.hid hI
  have HB := Lib.hid hBB
  obtain ⟨a65, b65⟩ := ne_facts (show ¬ c = 65 from h65)
  obtain ⟨a24, b24⟩ := ne_facts (show ¬ c = 24 from h24)
  clear hb hbel hA hI hBB h65 h24
  go_enter Tryz.func89, Tryz.ntmps89
  go_wp2_with (first | (go_at_call 52; refine (impl_isAsg _ _).mono ?_; rw [HA.out]; rintro e w1 ⟨rfl, rfl⟩) | (go_at_call 53; refine (impl_isInc _ _).mono ?_; rw [HI.out]; rintro e w1 ⟨rfl, rfl⟩) | (go_at_call 149; refine (operand.impl_begins _ _).mono ?_; rw [HB.out]; rintro e w1 ⟨rfl, rfl⟩) | (go_at_call 21; refine (lv.impl_op _ _).mono ?_; rw [HV]; rintro e w2 ⟨rfl, b2⟩; have N2 := Lib.hid (HN.out.keep b2); have B2 := Lib.hid (HBEL.out.trans (b2.mono HBEL.out.size)); have f0 := N2.out.f 0; have f1 := N2.out.f 1; have f2 := N2.out.f 2; have f3 := N2.out.f 3; have f4 := N2.out.f 4; obtain ⟨d0, d1, d2, d3, d4⟩ := N2.out.c5))
  have hF : Bk w.heap.size #[.int .i64 0, .int .i64 0, .string ⟨#[]⟩, .string ⟨#[]⟩, .slice none 0 0] 44 _ := (N2.out.put5 (.int .i64 0) (.int .i64 0) (.string ⟨#[]⟩) (.string ⟨#[]⟩) (.slice none 0 0))
  obtain ⟨t0, t1, t2, t3, t4⟩ := hF.c5
  exact bodyPost_ret (v := .tuple #[.agg #[.int .i64 0, .int .i64 0, .string ⟨#[]⟩, .string ⟨#[]⟩, .slice none 0 0], .nilFunc]) (by simp [results, Tryz.results89, go_sem, t0, t1, t2, t3, t4]) rfl ⟨.slice none 0 0, rfl, below_put5 B2.out (Nat.le_refl _) _ _ _ _ _, .inl ⟨rfl, rfl⟩⟩
/-- continued, whatever the kind. -/
theorem continued_any (x : Value) (c : Int) (w : World) : Calls Tryz.prog 89 #[x, .int .i64 c] w (Begun (ctK c) (ctO c) (knC c) (rdC x c) w) := by
  unfold rdC knC
  cases hA : isAsg c with
  | true =>
    obtain ⟨e1, e2, e3⟩ := asg_c hA
    rw [e1, e2, e3, if_pos rfl, if_neg (by decide)]
    exact cont_asg x c hA w
  | false =>
    rw [if_neg (show ¬ (false = true) by decide)]
    cases hI : isInc c with
    | true =>
      obtain ⟨e1, e2, e3⟩ := inc_c hI
      rw [e1, e2, e3, if_pos rfl, if_neg (by decide)]
      exact cont_inc x c hA hI w
    | false =>
      rw [if_neg (show ¬ (false = true) by decide)]
      by_cases h65 : c = 65
      · subst h65
        exact cont_quest x 65 rfl w
      rw [if_neg h65]
      by_cases h24 : c = 24
      · subst h24
        exact cont_in x 24 rfl w
      rw [if_neg h24]
      cases hB : operand.begins c with
      | true =>
        obtain ⟨e1, e2, e3, -⟩ := beg_c hB
        rw [e1, e2, e3, if_pos rfl, if_neg (by decide)]
        exact cont_cat x c hA hI h65 h24 hB w
      | false =>
        rw [if_neg (show ¬ (false = true) by decide)]
        by_cases hV : lv.opLevel c ≠ 0
        · obtain ⟨e1, e2, e3⟩ := op_c hV
          rw [e1, e2, e3, if_pos hV, if_neg (by decide)]
          exact cont_op x c hA hI h65 h24 hB hV w
        · have e1 : ctK c = 0 := by simp [ctK, hA, hI, h65, h24, hB, hV]
          have e2 : ctO c = 0 := by simp [ctO, hA, hI, h65, h24, hB, hV]
          rw [e1, e2, if_neg hV, if_pos rfl]
          exact cont_none x c hA hI h65 h24 hB (by simpa using hV) w
theorem begun_any (x : Value) (c : Int) (w : World) : Calls Tryz.prog 144 #[x, .int .i64 c] w (Begun (bgK c) (bgO c) (knB c) (rdB x c) w) := by
  by_cases h : c = 3 ∨ c = 4 ∨ c = 5 ∨ c = 6 ∨ c = 7 ∨ c = 8 ∨ c = 68 ∨ c = 51 ∨ c = 52 ∨ c = 55 ∨ c = 56 ∨ c = 61
  · rcases h with rfl | rfl | rfl | rfl | rfl | rfl | rfl | rfl | rfl | rfl | rfl | rfl
    · exact begun_3 x w
    · exact begun_4 x w
    · exact begun_5 x w
    · exact begun_6 x w
    · exact begun_7 x w
    · exact begun_8 x w
    · exact begun_68 x w
    · exact begun_51 x w
    · exact begun_52 x w
    · exact begun_55 x w
    · exact begun_56 x w
    · exact begun_61 x w
  · have e1 : bgK c = 0 := by unfold bgK; rw [if_neg (by omega), if_neg (by omega), if_neg (by omega), if_neg (by omega), if_neg (by omega), if_neg (by omega), if_neg (by omega), if_neg (by omega), if_neg (by omega)]
    have e2 : bgO c = 0 := by unfold bgO; rw [if_neg (by omega)]
    have e3 : knB c = 0 := by unfold knB; rw [if_neg (by omega)]
    have e4 : rdB x c = .nilFunc := by unfold rdB; rw [if_neg (by omega), if_neg (by omega), if_neg (by omega), if_neg (by omega), if_neg (by omega), if_neg (by omega)]
    rw [e1, e2, e3, e4]
    exact begun_none x c e1 w

set_option maxHeartbeats 1600000 in
theorem mbf_any (lv0 : Int) (tg : Bool) (c : Int) (ak : Option Addr) (nk ck : Nat) (p : Ps) (hn : nk = ctN c) (w : World) :
    Calls Tryz.prog 92 #[.agg #[.int .i64 lv0, .bool tg], .agg #[.int .i64 (ctK c), .int .i64 (ctO c), .string ⟨#[]⟩, .string ⟨#[]⟩, .slice ak nk ck], .agg #[.int .i64 p.l, .bool p.d, .bool p.i, .bool p.g, .bool p.s]] w fun e w' => e = .returned (.bool (may c lv0 tg p)) ∧ Below w.heap.size w w' := by
  obtain ⟨k, hk⟩ : ∃ k, ctK c = k := ⟨_, rfl⟩
  obtain ⟨op, hop⟩ : ∃ op, ctO c = op := ⟨_, rfl⟩
  have HMAY := Lib.hid (show may c lv0 tg p = if k = 15 ∨ k = 10 then tg else decide ((kidI k op nk 0 p.l p.d p.i p.g p.s).l ≤ lv0) by unfold may kq; rw [hk, hop, hn])
  rw [hk, hop]
  have hnb : nk ≤ 1048576 := by rw [hn]; unfold ctN; (repeat' split) <;> decide
  obtain ⟨W, hW⟩ : ∃ W, W = ((w.alloc (.cells #[.int .i64 lv0, .bool tg] 72)).alloc (.cells #[.int .i64 k, .int .i64 op, .string ⟨#[]⟩, .string ⟨#[]⟩, .slice ak nk ck] 44)).alloc (.cells #[.int .i64 p.l, .bool p.d, .bool p.i, .bool p.g, .bool p.s] 34) := ⟨_, rfl⟩
  have hB : Below w.heap.size w W := by rw [hW]; exact (((Below.refl _ _).alloc (Nat.le_refl _) _).alloc (by simp) _).alloc (by simp; omega) _
  have hO : Bk w.heap.size #[.int .i64 lv0, .bool tg] 72 W := by rw [hW]; exact ((Bk.new _ _ _).alloc _).alloc _
  have hN : Bk (w.heap.size + 1) #[.int .i64 k, .int .i64 op, .string ⟨#[]⟩, .string ⟨#[]⟩, .slice ak nk ck] 44 W := by
    rw [hW]
    have := (Bk.new (w.alloc (.cells #[.int .i64 lv0, .bool tg] 72)) #[.int .i64 k, .int .i64 op, .string ⟨#[]⟩, .string ⟨#[]⟩, .slice ak nk ck] 44).alloc (.cells #[.int .i64 p.l, .bool p.d, .bool p.i, .bool p.g, .bool p.s] 34)
    simpa using this
  have hP : Bk (w.heap.size + 1 + 1) #[.int .i64 p.l, .bool p.d, .bool p.i, .bool p.g, .bool p.s] 34 W := by
    rw [hW]
    have := Bk.new ((w.alloc (.cells #[.int .i64 lv0, .bool tg] 72)).alloc (.cells #[.int .i64 k, .int .i64 op, .string ⟨#[]⟩, .string ⟨#[]⟩, .slice ak nk ck] 44)) #[.int .i64 p.l, .bool p.d, .bool p.i, .bool p.g, .bool p.s] 34
    simpa using this
  obtain ⟨o0, o1⟩ := hO.c2
  obtain ⟨n0, n1, n2, n3, n4⟩ := hN.c5
  obtain ⟨p0, p1, p2, p3, p4⟩ := hP.c5
  have HB := Lib.hid hB
  have HO := Lib.hid hO
  have hfp := fld_p
  clear hB hO hN hP hn
  rw [hW] at o0 o1 n0 n1 n2 n3 n4 p0 p1 p2 p3 p4
  by_cases hkk : k = 15 ∨ k = 10
  · have HE := Lib.hid (show may c lv0 tg p = tg by rw [HMAY.out, if_pos hkk])
    clear hk hop
    rcases hkk with rfl | rfl
    all_goals
      go_enter Tryz.func92, Tryz.ntmps92
      go_wp2
      go_ret
      rw [← hW]
      exact ⟨by rw [HE.out]; rfl, HB.out⟩
  · obtain ⟨K, hK⟩ : ∃ K, (kidI k op nk 0 p.l p.d p.i p.g p.s).l = K := ⟨_, rfl⟩
    have HE := Lib.hid (show may c lv0 tg p = decide (K ≤ lv0) by rw [HMAY.out, if_neg hkk, hK])
    have HKP := Lib.hid (fun w2 => _root_.Go.Proofs.YtagonpjkohidkaaGreatDoor.ps.impl_kidPos k op ⟨#[]⟩ ⟨#[]⟩ ak nk ck 0 p.l p.d p.i p.g p.s w2 hnb)
    rw [hK] at HKP
    obtain ⟨a1, a2⟩ := ne_facts (show ¬ k = 15 from fun h => hkk (.inl h))
    obtain ⟨b1, b2⟩ := ne_facts (show ¬ k = 10 from fun h => hkk (.inr h))
    clear hk hop hkk hK
    go_enter Tryz.func92, Tryz.ntmps92
    go_wp2
    rw [← hW] at o0 o1 n0 n1 n2 n3 n4 p0 p1 p2 p3 p4 ⊢
    clear hW
    go_region_law (first | (go_simp; go_at_call 152; refine (HKP.out _).mono ?_; rintro e w5 ⟨rfl, b5⟩; obtain ⟨o0', o1'⟩ := (HO.out.keep (undrew b5)).c2; have B5 := HB.out.trans ((undrew b5).mono HB.out.size)))
    all_goals
      go_wp2
      go_ret
      exact ⟨by rw [HE.out]; first | rfl | (congr 2; simp), B5⟩
end
end Go.Proofs.YtagonpjkohidkaaGreatDoor.pr

namespace Go.Proofs.YtagonpjkohidkaaGreatDoor.pr
open Go.ChangeShapes Go.WideShapes Go.ChangeAt Go.RowKit
open tk (Tk)
open nd (Nd PT KidV IBlk OwnI shN makeT)
open ps (fits Ps B5 posOk kidI top)
open pe
set_option linter.unusedVariables false
set_option linter.unusedSimpArgs false
set_option maxRecDepth 20000

theorem resq0 {w0 : World} {a : Option Addr} {n cap : Nat} {zb : List Nd} {v0 v : Value} {z0 z : List (Nd × Value)} {r0 r : Nat → Nat} {ws w : World} {R : R} {e : Ending} {w' : World} {gR q i : Nat} (hq : ws.heap.size ≤ q ∨ q = w0.heap.size) (F : Fy w0 a n cap (X0 w0.heap.size) gR v0 z0 r0 ws i v z r w) (h : Res w0 a n cap zb (Xq w0.heap.size q) v z r w R e w') (hgq : gR ≠ q) (y0 y1 : Value) : Res w0 a n cap zb (X0 w0.heap.size) v0 z0 r0 ws R e ((w'.setCell ⟨gR, 0, none⟩ y0).setCell ⟨gR, 1, none⟩ y1) := by
  have m : Mb (Xq w0.heap.size q) w0.heap.size gR #[.int .i64 0, .bool false] 72 v z r w := ⟨F.rb.bk, fun hk => by rcases hk with h | h; exact F.rb.x h; exact hgq h, F.rb.b, F.rb.o, F.rb.r⟩
  exact (h.fin (F.tot.wide (fun k _ h => Or.inl h)) m F.ge y0 y1).wide fun k hk hx => by
    rcases hx with h1 | h1
    · exact h1
    · rcases hq with h2 | h2
      · omega
      · exact h1.trans h2
theorem resq0_bk {w0 : World} {a : Option Addr} {n cap : Nat} {zb : List Nd} {v0 v : Value} {z0 z : List (Nd × Value)} {r0 r : Nat → Nat} {ws w : World} {R : R} {e : Ending} {w' : World} {gR q i : Nat} (F : Fy w0 a n cap (X0 w0.heap.size) gR v0 z0 r0 ws i v z r w) (h : Res w0 a n cap zb (Xq w0.heap.size q) v z r w R e w') (hgq : gR ≠ q) : Bk gR #[.int .i64 0, .bool false] 72 w' :=
  h.bk F.rb.bk (fun hk => by rcases hk with h | h; exact F.rb.x h; exact hgq h) F.rb.o
/-- A new row, as the row of a node that is read. -/
theorem NewRow.rw {w0 : World} {a : Option Addr} {n cap i : Nat} {v : Value} {z : List (Nd × Value)} {r : Nat → Nat} {m : Nat} {u : Value} {w w' : World} (h : NewRow m u w w') (hm : 0 < m) (hm2 : m ≤ 10) (hst : St w0 a n cap i v z r w) : ∃ q, w.heap.size < q ∧ q < w'.heap.size ∧ u = .slice (some ⟨q, 0, none⟩) m m ∧ Rw w0.heap.size q u (zs m) v z r w' := by
  rcases h with ⟨h, -⟩ | ⟨-, q, h1, h2, h3⟩
  · omega
  · refine ⟨q, h1, h3.lt, h2, .inr ⟨.inr ⟨m, by rw [h2]; simp [zs], h3, by have := hst.lt; omega, by unfold maxLen; omega⟩, h3.lt, fun j hj => by have := hst.own.lt j hj; omega, fun e => hst.new (Nat.le_of_lt h1) e.symm, by have := hst.lt; omega⟩⟩
section
variable {w0 : World} {l : List Tk} {a : Option Addr} {cap i : Nat} {v : Value} {z : List (Nd × Value)} {r : Nat → Nat} {E : Ps → Nat → R} {M i0 : Nat}

set_option maxHeartbeats 6400000 in
theorem first_any (hE : CallE w0 a cap l E i0) (hOk : ∀ p i, i ≤ l.length → Ok M l i (E p i)) (p : Ps) (w : World) (h0 : i0 ≤ i + 1) (hi : i ≤ l.length) (hl : l.length ≤ 50000) (hc : tk.Lies w0.heap.size w0 a l) (hz : z.length + 2 * (l.length - i) ≤ 200000) (hst : St w0 a l.length cap i v z r w) :
    Calls Tryz.prog 88 #[.pointer (some ⟨w0.heap.size, 0, none⟩), .agg #[.int .i64 p.l, .bool p.d, .bool p.i, .bool p.g, .bool p.s]] w (Res w0 a l.length cap (z.map (·.1)) (X0 w0.heap.size) v z r w (first E l p i)) := by
  obtain ⟨W, hW⟩ : ∃ W, W = (w.alloc (.cells #[.int .i64 p.l, .bool p.d, .bool p.i, .bool p.g, .bool p.s] 34)).alloc (.cells #[.int .i64 0, .bool false] 72) := ⟨_, rfl⟩
  have hB : Below w.heap.size w W := by rw [hW]; exact ((Below.refl _ _).alloc (Nat.le_refl _) _).alloc (by simp) _
  have hPb : Bk w.heap.size #[.int .i64 p.l, .bool p.d, .bool p.i, .bool p.g, .bool p.s] 34 W := by rw [hW]; exact (Bk.new _ _ _).alloc _
  have hRb : Bk (w.heap.size + 1) #[.int .i64 0, .bool false] 72 W := by
    rw [hW]
    have := Bk.new (w.alloc (.cells #[.int .i64 p.l, .bool p.d, .bool p.i, .bool p.g, .bool p.s] 34)) #[.int .i64 0, .bool false] 72
    simpa using this
  have hlt := hst.lt
  have P0 := Lib.hid (Mb.new (X := X0 w0.heap.size) hst hPb (Nat.le_refl _) (by unfold X0; omega))
  have F0 := Lib.hid (show Fy w0 a l.length cap (X0 w0.heap.size) (w.heap.size + 1) v z r w i v z r W from ⟨hst.keep hB, Ext.of (Gr.quiet hB), Mb.new hst hRb (by omega) (by unfold X0; omega), by omega⟩)
  have HXB := Lib.hid (show X0 w0.heap.size w0.heap.size from rfl)
  have HC := Lib.hid hc
  have HL := Lib.hid hl
  have HI := Lib.hid hi
  have HZ := Lib.hid hz
  have HLT := Lib.hid hlt
  have HBW := Lib.hid hB.size
  have HNX := Lib.hid (next_any W F0.out.st hc (by omega) hi)
  have hfk := fld_k
  obtain ⟨c, hcc⟩ : ∃ c, kd l i = c := ⟨_, rfl⟩
  rw [hcc] at HNX
  have hzb0 : z.map (·.1) = z.map (·.1) ++ G1 (z.map (·.1)).length [] := by rw [G1_nil, List.append_nil]
  by_cases h32 : c = 32
  · subst h32
    rw [show first E l p i = group E l p i from by unfold first; rw [if_pos hcc]]
    have hi1 := kd_lt (l := l) (i := i) (by omega)
    have HGR := Lib.hid (fun W2 (s2 : St w0 a l.length cap i v z r W2) => group_any hE hOk p (z.map (·.1)) W2 h0 hi1 hl hc hz s2 rfl)
    clear hzb0 hcc hi1 hE hOk h0
    clear hst hB hPb hRb hz hi hl hc hlt
    go_enter Tryz.func88, Tryz.ntmps88
    go_wp2_with fail
    rw [← hW]
    clear hW
    refine HNX.out.mono ?_
    rintro e w1 ⟨rfl, b1⟩
    have F1 := Lib.hid (F0.out.quiet b1)
    have P1 := Lib.hid (P0.out.ext (Ext.of (Gr.quiet b1)))
    clear b1
    obtain ⟨p0, p1, p2, p3, p4⟩ := P1.out.bk.c5
    go_wp2_with fail
    clear p0 p1 p2 p3 p4
    refine (HGR.out _ F1.out.st).mono ?_
    rintro e w9 h9
    obtain ⟨rfl, hv9⟩ := id h9
    have H9 := Lib.hid h9
    have R9 := Lib.hid (F1.out.rbk h9)
    obtain ⟨r0, r1⟩ := R9.out.c2
    have g0 := R9.out.f 0
    have g1 := R9.out.f 1
    clear h9 hv9
    go_wp2
    obtain ⟨t0, t1⟩ := (R9.out.put2 (.int .i64 (lvR (group E l p i))) (.bool (tgR (group E l p i)))).c2
    exact bodyPost_ret (v := .agg #[.int .i64 (lvR (group E l p i)), .bool (tgR (group E l p i))]) (by simp [results, Tryz.results88, go_sem, t0, t1]) rfl ((F1.out.res H9.out _ _))
  have hfst : first E l p i = if ft (bgK c) (bgO c) p = true then bgR E l c p i else .bad i := by unfold first; rw [hcc, if_neg h32]
  rw [hfst]
  clear hfst
  obtain ⟨a32, b32⟩ := ne_facts h32
  by_cases hc3 : c = 3
  · subst hc3
    have hi1 := kd_lt (l := l) (i := i) (by omega)
    have HM := (fun W2 (s2 : St w0 a l.length cap i v z r W2) hq2 => word_any 2 0 ⟨#[]⟩ (z.map (·.1)) [] (.slice none 0 0) w0.heap.size p W2 hi1 hl hc (by omega) s2 hq2 (.inl ⟨rfl, rfl⟩) hzb0)
    rw [show bgR E l 3 p i = (pe.word l 2 i) from by simp [bgR]]
    have HM := Lib.hid HM
    rw [show bgK 3 = 2 from rfl, show bgO 3 = 0 from rfl]
    cases hft : ft 2 0 p with
    | false =>
      have HFT := Lib.hid (show fits 2 0 p.l p.d p.i p.g p.s = false from hft)
      rw [if_neg (by decide)]
      clear hzb0 hcc hi1 hE hOk h0 hft h32
      clear hst hB hPb hRb hz hi hl hc hlt
      go_enter Tryz.func88, Tryz.ntmps88
      go_wp2_with fail
      rw [← hW]
      clear hW
      refine HNX.out.mono ?_
      rintro e w1 ⟨rfl, b1⟩
      have F1 := Lib.hid (F0.out.quiet b1)
      have P1 := Lib.hid (P0.out.ext (Ext.of (Gr.quiet b1)))
      clear b1
      go_wp2_with fail
      refine (begun_3 _ _).mono ?_
      rintro e w2 ⟨u, rfl, b2, nr⟩
      have F2 := Lib.hid (F1.out.quiet b2)
      have P2 := Lib.hid (P1.out.ext (Ext.of (Gr.quiet b2)))
      rcases nr with ⟨-, rfl⟩ | ⟨hm, -⟩
      case inr => exact absurd hm (by decide)
      case inl =>
        clear b2
        have NB3 := Lib.hid (Bk.new w2 #[.int .i64 2, .int .i64 0, .string ⟨#[]⟩, .string ⟨#[]⟩, .slice none 0 0] 44)
        have B3 := Lib.hid (show Below w2.heap.size w2 (w2.alloc (.cells #[.int .i64 2, .int .i64 0, .string ⟨#[]⟩, .string ⟨#[]⟩, .slice none 0 0] 44)) from (Below.refl _ _).alloc (Nat.le_refl _) _)
        have F3 := Lib.hid (F2.out.quiet B3.out)
        have P3 := Lib.hid (P2.out.ext (Ext.of (Gr.quiet B3.out)))
        have N3 := Lib.hid (show Mb (X0 w0.heap.size) w0.heap.size w2.heap.size _ _ v z r _ from Mb.new F2.out.st NB3.out (Nat.le_refl _) (by have := F2.out.st.lt; unfold X0; omega))
        obtain ⟨p0, p1, p2, p3, p4⟩ := P3.out.bk.c5
        obtain ⟨n0, n1, n2, n3, n4⟩ := NB3.out.c5
        go_wp2_with fail
        clear p0 p1 p2 p3 p4 n0 n1 n2 n3 n4
        refine (_root_.Go.Proofs.YtagonpjkohidkaaGreatDoor.ps.impl_fits 2 0 p.l ⟨#[]⟩ ⟨#[]⟩ none 0 0 p.d p.i p.g p.s _).mono ?_
        rw [HFT.out]
        rintro e w4 ⟨rfl, b4⟩
        have F4 := Lib.hid (F3.out.quiet b4)
        have P4 := Lib.hid (P3.out.ext (Ext.of (Gr.quiet b4)))
        have N4 := Lib.hid (N3.out.ext (Ext.of (Gr.quiet b4)))
        clear b4
        obtain ⟨r0, r1⟩ := F4.out.rb.bk.c2
        have g0 := F4.out.rb.bk.f 0
        have g1 := F4.out.rb.bk.f 1
        go_wp2
        obtain ⟨t0, t1⟩ := (F4.out.rb.bk.put2 (.int .i64 0) (.bool false)).c2
        exact bodyPost_ret (v := .agg #[.int .i64 0, .bool false]) (by simp [results, Tryz.results88, go_sem, t0, t1]) rfl ((F4.out.bad _ _ rfl))
    | true =>
      have HFT := Lib.hid (show fits 2 0 p.l p.d p.i p.g p.s = true from hft)
      rw [if_pos rfl]
      clear hzb0 hcc hi1 hE hOk h0 hft h32
      clear hst hB hPb hRb hz hi hl hc hlt
      go_enter Tryz.func88, Tryz.ntmps88
      go_wp2_with fail
      rw [← hW]
      clear hW
      refine HNX.out.mono ?_
      rintro e w1 ⟨rfl, b1⟩
      have F1 := Lib.hid (F0.out.quiet b1)
      have P1 := Lib.hid (P0.out.ext (Ext.of (Gr.quiet b1)))
      clear b1
      go_wp2_with fail
      refine (begun_3 _ _).mono ?_
      rintro e w2 ⟨u, rfl, b2, nr⟩
      have F2 := Lib.hid (F1.out.quiet b2)
      have P2 := Lib.hid (P1.out.ext (Ext.of (Gr.quiet b2)))
      rcases nr with ⟨-, rfl⟩ | ⟨hm, -⟩
      case inr => exact absurd hm (by decide)
      case inl =>
        clear b2
        have NB3 := Lib.hid (Bk.new w2 #[.int .i64 2, .int .i64 0, .string ⟨#[]⟩, .string ⟨#[]⟩, .slice none 0 0] 44)
        have B3 := Lib.hid (show Below w2.heap.size w2 (w2.alloc (.cells #[.int .i64 2, .int .i64 0, .string ⟨#[]⟩, .string ⟨#[]⟩, .slice none 0 0] 44)) from (Below.refl _ _).alloc (Nat.le_refl _) _)
        have F3 := Lib.hid (F2.out.quiet B3.out)
        have P3 := Lib.hid (P2.out.ext (Ext.of (Gr.quiet B3.out)))
        have N3 := Lib.hid (show Mb (X0 w0.heap.size) w0.heap.size w2.heap.size _ _ v z r _ from Mb.new F2.out.st NB3.out (Nat.le_refl _) (by have := F2.out.st.lt; unfold X0; omega))
        obtain ⟨p0, p1, p2, p3, p4⟩ := P3.out.bk.c5
        obtain ⟨n0, n1, n2, n3, n4⟩ := NB3.out.c5
        go_wp2_with fail
        clear p0 p1 p2 p3 p4 n0 n1 n2 n3 n4
        refine (_root_.Go.Proofs.YtagonpjkohidkaaGreatDoor.ps.impl_fits 2 0 p.l ⟨#[]⟩ ⟨#[]⟩ none 0 0 p.d p.i p.g p.s _).mono ?_
        rw [HFT.out]
        rintro e w4 ⟨rfl, b4⟩
        have F4 := Lib.hid (F3.out.quiet b4)
        have P4 := Lib.hid (P3.out.ext (Ext.of (Gr.quiet b4)))
        have N4 := Lib.hid (N3.out.ext (Ext.of (Gr.quiet b4)))
        clear b4
        obtain ⟨p0, p1, p2, p3, p4⟩ := P4.out.bk.c5
        obtain ⟨n0, n1, n2, n3, n4⟩ := N4.out.bk.c5
        go_wp2_with fail
        clear p0 p1 p2 p3 p4 n0 n1 n2 n3 n4
        refine (show Calls _ _ _ _ (Res w0 a l.length cap (z.map (·.1)) (Xq w0.heap.size w0.heap.size) v z r w4 (pe.word l 2 i)) from HM.out _ F4.out.st F4.out.st.lt).mono ?_
        rintro e w9 h9
        obtain ⟨rfl, hv9⟩ := id h9
        have H9 := Lib.hid h9
        have R9 := Lib.hid (resq0_bk F4.out h9 (by have := HLT.out; omega))
        obtain ⟨r0, r1⟩ := R9.out.c2
        have g0 := R9.out.f 0
        have g1 := R9.out.f 1
        clear h9 hv9
        go_wp2
        obtain ⟨t0, t1⟩ := (R9.out.put2 (.int .i64 (lvR (pe.word l 2 i))) (.bool (tgR (pe.word l 2 i)))).c2
        exact bodyPost_ret (v := .agg #[.int .i64 (lvR (pe.word l 2 i)), .bool (tgR (pe.word l 2 i))]) (by simp [results, Tryz.results88, go_sem, t0, t1]) rfl (resq0 (.inr rfl) F4.out H9.out (by have := HLT.out; omega) _ _)
  by_cases hc4 : c = 4
  · subst hc4
    have hi1 := kd_lt (l := l) (i := i) (by omega)
    have HM := (fun W2 (s2 : St w0 a l.length cap i v z r W2) hq2 => word_any 3 0 ⟨#[]⟩ (z.map (·.1)) [] (.slice none 0 0) w0.heap.size p W2 hi1 hl hc (by omega) s2 hq2 (.inl ⟨rfl, rfl⟩) hzb0)
    rw [show bgR E l 4 p i = (pe.word l 3 i) from by simp [bgR]]
    have HM := Lib.hid HM
    rw [show bgK 4 = 3 from rfl, show bgO 4 = 0 from rfl]
    cases hft : ft 3 0 p with
    | false =>
      have HFT := Lib.hid (show fits 3 0 p.l p.d p.i p.g p.s = false from hft)
      rw [if_neg (by decide)]
      clear hzb0 hcc hi1 hE hOk h0 hft h32
      clear hst hB hPb hRb hz hi hl hc hlt
      go_enter Tryz.func88, Tryz.ntmps88
      go_wp2_with fail
      rw [← hW]
      clear hW
      refine HNX.out.mono ?_
      rintro e w1 ⟨rfl, b1⟩
      have F1 := Lib.hid (F0.out.quiet b1)
      have P1 := Lib.hid (P0.out.ext (Ext.of (Gr.quiet b1)))
      clear b1
      go_wp2_with fail
      refine (begun_4 _ _).mono ?_
      rintro e w2 ⟨u, rfl, b2, nr⟩
      have F2 := Lib.hid (F1.out.quiet b2)
      have P2 := Lib.hid (P1.out.ext (Ext.of (Gr.quiet b2)))
      rcases nr with ⟨-, rfl⟩ | ⟨hm, -⟩
      case inr => exact absurd hm (by decide)
      case inl =>
        clear b2
        have NB3 := Lib.hid (Bk.new w2 #[.int .i64 3, .int .i64 0, .string ⟨#[]⟩, .string ⟨#[]⟩, .slice none 0 0] 44)
        have B3 := Lib.hid (show Below w2.heap.size w2 (w2.alloc (.cells #[.int .i64 3, .int .i64 0, .string ⟨#[]⟩, .string ⟨#[]⟩, .slice none 0 0] 44)) from (Below.refl _ _).alloc (Nat.le_refl _) _)
        have F3 := Lib.hid (F2.out.quiet B3.out)
        have P3 := Lib.hid (P2.out.ext (Ext.of (Gr.quiet B3.out)))
        have N3 := Lib.hid (show Mb (X0 w0.heap.size) w0.heap.size w2.heap.size _ _ v z r _ from Mb.new F2.out.st NB3.out (Nat.le_refl _) (by have := F2.out.st.lt; unfold X0; omega))
        obtain ⟨p0, p1, p2, p3, p4⟩ := P3.out.bk.c5
        obtain ⟨n0, n1, n2, n3, n4⟩ := NB3.out.c5
        go_wp2_with fail
        clear p0 p1 p2 p3 p4 n0 n1 n2 n3 n4
        refine (_root_.Go.Proofs.YtagonpjkohidkaaGreatDoor.ps.impl_fits 3 0 p.l ⟨#[]⟩ ⟨#[]⟩ none 0 0 p.d p.i p.g p.s _).mono ?_
        rw [HFT.out]
        rintro e w4 ⟨rfl, b4⟩
        have F4 := Lib.hid (F3.out.quiet b4)
        have P4 := Lib.hid (P3.out.ext (Ext.of (Gr.quiet b4)))
        have N4 := Lib.hid (N3.out.ext (Ext.of (Gr.quiet b4)))
        clear b4
        obtain ⟨r0, r1⟩ := F4.out.rb.bk.c2
        have g0 := F4.out.rb.bk.f 0
        have g1 := F4.out.rb.bk.f 1
        go_wp2
        obtain ⟨t0, t1⟩ := (F4.out.rb.bk.put2 (.int .i64 0) (.bool false)).c2
        exact bodyPost_ret (v := .agg #[.int .i64 0, .bool false]) (by simp [results, Tryz.results88, go_sem, t0, t1]) rfl ((F4.out.bad _ _ rfl))
    | true =>
      have HFT := Lib.hid (show fits 3 0 p.l p.d p.i p.g p.s = true from hft)
      rw [if_pos rfl]
      clear hzb0 hcc hi1 hE hOk h0 hft h32
      clear hst hB hPb hRb hz hi hl hc hlt
      go_enter Tryz.func88, Tryz.ntmps88
      go_wp2_with fail
      rw [← hW]
      clear hW
      refine HNX.out.mono ?_
      rintro e w1 ⟨rfl, b1⟩
      have F1 := Lib.hid (F0.out.quiet b1)
      have P1 := Lib.hid (P0.out.ext (Ext.of (Gr.quiet b1)))
      clear b1
      go_wp2_with fail
      refine (begun_4 _ _).mono ?_
      rintro e w2 ⟨u, rfl, b2, nr⟩
      have F2 := Lib.hid (F1.out.quiet b2)
      have P2 := Lib.hid (P1.out.ext (Ext.of (Gr.quiet b2)))
      rcases nr with ⟨-, rfl⟩ | ⟨hm, -⟩
      case inr => exact absurd hm (by decide)
      case inl =>
        clear b2
        have NB3 := Lib.hid (Bk.new w2 #[.int .i64 3, .int .i64 0, .string ⟨#[]⟩, .string ⟨#[]⟩, .slice none 0 0] 44)
        have B3 := Lib.hid (show Below w2.heap.size w2 (w2.alloc (.cells #[.int .i64 3, .int .i64 0, .string ⟨#[]⟩, .string ⟨#[]⟩, .slice none 0 0] 44)) from (Below.refl _ _).alloc (Nat.le_refl _) _)
        have F3 := Lib.hid (F2.out.quiet B3.out)
        have P3 := Lib.hid (P2.out.ext (Ext.of (Gr.quiet B3.out)))
        have N3 := Lib.hid (show Mb (X0 w0.heap.size) w0.heap.size w2.heap.size _ _ v z r _ from Mb.new F2.out.st NB3.out (Nat.le_refl _) (by have := F2.out.st.lt; unfold X0; omega))
        obtain ⟨p0, p1, p2, p3, p4⟩ := P3.out.bk.c5
        obtain ⟨n0, n1, n2, n3, n4⟩ := NB3.out.c5
        go_wp2_with fail
        clear p0 p1 p2 p3 p4 n0 n1 n2 n3 n4
        refine (_root_.Go.Proofs.YtagonpjkohidkaaGreatDoor.ps.impl_fits 3 0 p.l ⟨#[]⟩ ⟨#[]⟩ none 0 0 p.d p.i p.g p.s _).mono ?_
        rw [HFT.out]
        rintro e w4 ⟨rfl, b4⟩
        have F4 := Lib.hid (F3.out.quiet b4)
        have P4 := Lib.hid (P3.out.ext (Ext.of (Gr.quiet b4)))
        have N4 := Lib.hid (N3.out.ext (Ext.of (Gr.quiet b4)))
        clear b4
        obtain ⟨p0, p1, p2, p3, p4⟩ := P4.out.bk.c5
        obtain ⟨n0, n1, n2, n3, n4⟩ := N4.out.bk.c5
        go_wp2_with fail
        clear p0 p1 p2 p3 p4 n0 n1 n2 n3 n4
        refine (show Calls _ _ _ _ (Res w0 a l.length cap (z.map (·.1)) (Xq w0.heap.size w0.heap.size) v z r w4 (pe.word l 3 i)) from HM.out _ F4.out.st F4.out.st.lt).mono ?_
        rintro e w9 h9
        obtain ⟨rfl, hv9⟩ := id h9
        have H9 := Lib.hid h9
        have R9 := Lib.hid (resq0_bk F4.out h9 (by have := HLT.out; omega))
        obtain ⟨r0, r1⟩ := R9.out.c2
        have g0 := R9.out.f 0
        have g1 := R9.out.f 1
        clear h9 hv9
        go_wp2
        obtain ⟨t0, t1⟩ := (R9.out.put2 (.int .i64 (lvR (pe.word l 3 i))) (.bool (tgR (pe.word l 3 i)))).c2
        exact bodyPost_ret (v := .agg #[.int .i64 (lvR (pe.word l 3 i)), .bool (tgR (pe.word l 3 i))]) (by simp [results, Tryz.results88, go_sem, t0, t1]) rfl (resq0 (.inr rfl) F4.out H9.out (by have := HLT.out; omega) _ _)
  by_cases hc5 : c = 5
  · subst hc5
    have hi1 := kd_lt (l := l) (i := i) (by omega)
    have HM := (fun W2 (s2 : St w0 a l.length cap i v z r W2) hq2 => word_any 4 0 ⟨#[]⟩ (z.map (·.1)) [] (.slice none 0 0) w0.heap.size p W2 hi1 hl hc (by omega) s2 hq2 (.inl ⟨rfl, rfl⟩) hzb0)
    rw [show bgR E l 5 p i = (pe.word l 4 i) from by simp [bgR]]
    have HM := Lib.hid HM
    rw [show bgK 5 = 4 from rfl, show bgO 5 = 0 from rfl]
    cases hft : ft 4 0 p with
    | false =>
      have HFT := Lib.hid (show fits 4 0 p.l p.d p.i p.g p.s = false from hft)
      rw [if_neg (by decide)]
      clear hzb0 hcc hi1 hE hOk h0 hft h32
      clear hst hB hPb hRb hz hi hl hc hlt
      go_enter Tryz.func88, Tryz.ntmps88
      go_wp2_with fail
      rw [← hW]
      clear hW
      refine HNX.out.mono ?_
      rintro e w1 ⟨rfl, b1⟩
      have F1 := Lib.hid (F0.out.quiet b1)
      have P1 := Lib.hid (P0.out.ext (Ext.of (Gr.quiet b1)))
      clear b1
      go_wp2_with fail
      refine (begun_5 _ _).mono ?_
      rintro e w2 ⟨u, rfl, b2, nr⟩
      have F2 := Lib.hid (F1.out.quiet b2)
      have P2 := Lib.hid (P1.out.ext (Ext.of (Gr.quiet b2)))
      rcases nr with ⟨-, rfl⟩ | ⟨hm, -⟩
      case inr => exact absurd hm (by decide)
      case inl =>
        clear b2
        have NB3 := Lib.hid (Bk.new w2 #[.int .i64 4, .int .i64 0, .string ⟨#[]⟩, .string ⟨#[]⟩, .slice none 0 0] 44)
        have B3 := Lib.hid (show Below w2.heap.size w2 (w2.alloc (.cells #[.int .i64 4, .int .i64 0, .string ⟨#[]⟩, .string ⟨#[]⟩, .slice none 0 0] 44)) from (Below.refl _ _).alloc (Nat.le_refl _) _)
        have F3 := Lib.hid (F2.out.quiet B3.out)
        have P3 := Lib.hid (P2.out.ext (Ext.of (Gr.quiet B3.out)))
        have N3 := Lib.hid (show Mb (X0 w0.heap.size) w0.heap.size w2.heap.size _ _ v z r _ from Mb.new F2.out.st NB3.out (Nat.le_refl _) (by have := F2.out.st.lt; unfold X0; omega))
        obtain ⟨p0, p1, p2, p3, p4⟩ := P3.out.bk.c5
        obtain ⟨n0, n1, n2, n3, n4⟩ := NB3.out.c5
        go_wp2_with fail
        clear p0 p1 p2 p3 p4 n0 n1 n2 n3 n4
        refine (_root_.Go.Proofs.YtagonpjkohidkaaGreatDoor.ps.impl_fits 4 0 p.l ⟨#[]⟩ ⟨#[]⟩ none 0 0 p.d p.i p.g p.s _).mono ?_
        rw [HFT.out]
        rintro e w4 ⟨rfl, b4⟩
        have F4 := Lib.hid (F3.out.quiet b4)
        have P4 := Lib.hid (P3.out.ext (Ext.of (Gr.quiet b4)))
        have N4 := Lib.hid (N3.out.ext (Ext.of (Gr.quiet b4)))
        clear b4
        obtain ⟨r0, r1⟩ := F4.out.rb.bk.c2
        have g0 := F4.out.rb.bk.f 0
        have g1 := F4.out.rb.bk.f 1
        go_wp2
        obtain ⟨t0, t1⟩ := (F4.out.rb.bk.put2 (.int .i64 0) (.bool false)).c2
        exact bodyPost_ret (v := .agg #[.int .i64 0, .bool false]) (by simp [results, Tryz.results88, go_sem, t0, t1]) rfl ((F4.out.bad _ _ rfl))
    | true =>
      have HFT := Lib.hid (show fits 4 0 p.l p.d p.i p.g p.s = true from hft)
      rw [if_pos rfl]
      clear hzb0 hcc hi1 hE hOk h0 hft h32
      clear hst hB hPb hRb hz hi hl hc hlt
      go_enter Tryz.func88, Tryz.ntmps88
      go_wp2_with fail
      rw [← hW]
      clear hW
      refine HNX.out.mono ?_
      rintro e w1 ⟨rfl, b1⟩
      have F1 := Lib.hid (F0.out.quiet b1)
      have P1 := Lib.hid (P0.out.ext (Ext.of (Gr.quiet b1)))
      clear b1
      go_wp2_with fail
      refine (begun_5 _ _).mono ?_
      rintro e w2 ⟨u, rfl, b2, nr⟩
      have F2 := Lib.hid (F1.out.quiet b2)
      have P2 := Lib.hid (P1.out.ext (Ext.of (Gr.quiet b2)))
      rcases nr with ⟨-, rfl⟩ | ⟨hm, -⟩
      case inr => exact absurd hm (by decide)
      case inl =>
        clear b2
        have NB3 := Lib.hid (Bk.new w2 #[.int .i64 4, .int .i64 0, .string ⟨#[]⟩, .string ⟨#[]⟩, .slice none 0 0] 44)
        have B3 := Lib.hid (show Below w2.heap.size w2 (w2.alloc (.cells #[.int .i64 4, .int .i64 0, .string ⟨#[]⟩, .string ⟨#[]⟩, .slice none 0 0] 44)) from (Below.refl _ _).alloc (Nat.le_refl _) _)
        have F3 := Lib.hid (F2.out.quiet B3.out)
        have P3 := Lib.hid (P2.out.ext (Ext.of (Gr.quiet B3.out)))
        have N3 := Lib.hid (show Mb (X0 w0.heap.size) w0.heap.size w2.heap.size _ _ v z r _ from Mb.new F2.out.st NB3.out (Nat.le_refl _) (by have := F2.out.st.lt; unfold X0; omega))
        obtain ⟨p0, p1, p2, p3, p4⟩ := P3.out.bk.c5
        obtain ⟨n0, n1, n2, n3, n4⟩ := NB3.out.c5
        go_wp2_with fail
        clear p0 p1 p2 p3 p4 n0 n1 n2 n3 n4
        refine (_root_.Go.Proofs.YtagonpjkohidkaaGreatDoor.ps.impl_fits 4 0 p.l ⟨#[]⟩ ⟨#[]⟩ none 0 0 p.d p.i p.g p.s _).mono ?_
        rw [HFT.out]
        rintro e w4 ⟨rfl, b4⟩
        have F4 := Lib.hid (F3.out.quiet b4)
        have P4 := Lib.hid (P3.out.ext (Ext.of (Gr.quiet b4)))
        have N4 := Lib.hid (N3.out.ext (Ext.of (Gr.quiet b4)))
        clear b4
        obtain ⟨p0, p1, p2, p3, p4⟩ := P4.out.bk.c5
        obtain ⟨n0, n1, n2, n3, n4⟩ := N4.out.bk.c5
        go_wp2_with fail
        clear p0 p1 p2 p3 p4 n0 n1 n2 n3 n4
        refine (show Calls _ _ _ _ (Res w0 a l.length cap (z.map (·.1)) (Xq w0.heap.size w0.heap.size) v z r w4 (pe.word l 4 i)) from HM.out _ F4.out.st F4.out.st.lt).mono ?_
        rintro e w9 h9
        obtain ⟨rfl, hv9⟩ := id h9
        have H9 := Lib.hid h9
        have R9 := Lib.hid (resq0_bk F4.out h9 (by have := HLT.out; omega))
        obtain ⟨r0, r1⟩ := R9.out.c2
        have g0 := R9.out.f 0
        have g1 := R9.out.f 1
        clear h9 hv9
        go_wp2
        obtain ⟨t0, t1⟩ := (R9.out.put2 (.int .i64 (lvR (pe.word l 4 i))) (.bool (tgR (pe.word l 4 i)))).c2
        exact bodyPost_ret (v := .agg #[.int .i64 (lvR (pe.word l 4 i)), .bool (tgR (pe.word l 4 i))]) (by simp [results, Tryz.results88, go_sem, t0, t1]) rfl (resq0 (.inr rfl) F4.out H9.out (by have := HLT.out; omega) _ _)
  by_cases hc6 : c = 6
  · subst hc6
    have hi1 := kd_lt (l := l) (i := i) (by omega)
    have HM := (fun W2 (s2 : St w0 a l.length cap i v z r W2) => name_any hE hOk ⟨#[]⟩ (z.map (·.1)) p W2 h0 hi1 hl hc hz s2 rfl)
    rw [show bgR E l 6 p i = (if kd l (i + 1) = 34 then listed E l 5 34 35 i else pe.word l 1 i) from by simp [bgR]]
    obtain ⟨RR, hRR⟩ : ∃ RR, (if kd l (i + 1) = 34 then listed E l 5 34 35 i else pe.word l 1 i) = RR := ⟨_, rfl⟩
    simp only [hRR] at HM
    rw [hRR]
    have HM := Lib.hid HM
    clear hRR
    rw [show bgK 6 = 1 from rfl, show bgO 6 = 0 from rfl]
    cases hft : ft 1 0 p with
    | false =>
      have HFT := Lib.hid (show fits 1 0 p.l p.d p.i p.g p.s = false from hft)
      rw [if_neg (by decide)]
      clear hzb0 hcc hi1 hE hOk h0 hft h32
      clear hst hB hPb hRb hz hi hl hc hlt
      go_enter Tryz.func88, Tryz.ntmps88
      go_wp2_with fail
      rw [← hW]
      clear hW
      refine HNX.out.mono ?_
      rintro e w1 ⟨rfl, b1⟩
      have F1 := Lib.hid (F0.out.quiet b1)
      have P1 := Lib.hid (P0.out.ext (Ext.of (Gr.quiet b1)))
      clear b1
      go_wp2_with fail
      refine (begun_6 _ _).mono ?_
      rintro e w2 ⟨u, rfl, b2, nr⟩
      have F2 := Lib.hid (F1.out.quiet b2)
      have P2 := Lib.hid (P1.out.ext (Ext.of (Gr.quiet b2)))
      rcases nr with ⟨-, rfl⟩ | ⟨hm, -⟩
      case inr => exact absurd hm (by decide)
      case inl =>
        clear b2
        have NB3 := Lib.hid (Bk.new w2 #[.int .i64 1, .int .i64 0, .string ⟨#[]⟩, .string ⟨#[]⟩, .slice none 0 0] 44)
        have B3 := Lib.hid (show Below w2.heap.size w2 (w2.alloc (.cells #[.int .i64 1, .int .i64 0, .string ⟨#[]⟩, .string ⟨#[]⟩, .slice none 0 0] 44)) from (Below.refl _ _).alloc (Nat.le_refl _) _)
        have F3 := Lib.hid (F2.out.quiet B3.out)
        have P3 := Lib.hid (P2.out.ext (Ext.of (Gr.quiet B3.out)))
        have N3 := Lib.hid (show Mb (X0 w0.heap.size) w0.heap.size w2.heap.size _ _ v z r _ from Mb.new F2.out.st NB3.out (Nat.le_refl _) (by have := F2.out.st.lt; unfold X0; omega))
        obtain ⟨p0, p1, p2, p3, p4⟩ := P3.out.bk.c5
        obtain ⟨n0, n1, n2, n3, n4⟩ := NB3.out.c5
        go_wp2_with fail
        clear p0 p1 p2 p3 p4 n0 n1 n2 n3 n4
        refine (_root_.Go.Proofs.YtagonpjkohidkaaGreatDoor.ps.impl_fits 1 0 p.l ⟨#[]⟩ ⟨#[]⟩ none 0 0 p.d p.i p.g p.s _).mono ?_
        rw [HFT.out]
        rintro e w4 ⟨rfl, b4⟩
        have F4 := Lib.hid (F3.out.quiet b4)
        have P4 := Lib.hid (P3.out.ext (Ext.of (Gr.quiet b4)))
        have N4 := Lib.hid (N3.out.ext (Ext.of (Gr.quiet b4)))
        clear b4
        obtain ⟨r0, r1⟩ := F4.out.rb.bk.c2
        have g0 := F4.out.rb.bk.f 0
        have g1 := F4.out.rb.bk.f 1
        go_wp2
        obtain ⟨t0, t1⟩ := (F4.out.rb.bk.put2 (.int .i64 0) (.bool false)).c2
        exact bodyPost_ret (v := .agg #[.int .i64 0, .bool false]) (by simp [results, Tryz.results88, go_sem, t0, t1]) rfl ((F4.out.bad _ _ rfl))
    | true =>
      have HFT := Lib.hid (show fits 1 0 p.l p.d p.i p.g p.s = true from hft)
      rw [if_pos rfl]
      clear hzb0 hcc hi1 hE hOk h0 hft h32
      clear hst hB hPb hRb hz hi hl hc hlt
      go_enter Tryz.func88, Tryz.ntmps88
      go_wp2_with fail
      rw [← hW]
      clear hW
      refine HNX.out.mono ?_
      rintro e w1 ⟨rfl, b1⟩
      have F1 := Lib.hid (F0.out.quiet b1)
      have P1 := Lib.hid (P0.out.ext (Ext.of (Gr.quiet b1)))
      clear b1
      go_wp2_with fail
      refine (begun_6 _ _).mono ?_
      rintro e w2 ⟨u, rfl, b2, nr⟩
      have F2 := Lib.hid (F1.out.quiet b2)
      have P2 := Lib.hid (P1.out.ext (Ext.of (Gr.quiet b2)))
      rcases nr with ⟨-, rfl⟩ | ⟨hm, -⟩
      case inr => exact absurd hm (by decide)
      case inl =>
        clear b2
        have NB3 := Lib.hid (Bk.new w2 #[.int .i64 1, .int .i64 0, .string ⟨#[]⟩, .string ⟨#[]⟩, .slice none 0 0] 44)
        have B3 := Lib.hid (show Below w2.heap.size w2 (w2.alloc (.cells #[.int .i64 1, .int .i64 0, .string ⟨#[]⟩, .string ⟨#[]⟩, .slice none 0 0] 44)) from (Below.refl _ _).alloc (Nat.le_refl _) _)
        have F3 := Lib.hid (F2.out.quiet B3.out)
        have P3 := Lib.hid (P2.out.ext (Ext.of (Gr.quiet B3.out)))
        have N3 := Lib.hid (show Mb (X0 w0.heap.size) w0.heap.size w2.heap.size _ _ v z r _ from Mb.new F2.out.st NB3.out (Nat.le_refl _) (by have := F2.out.st.lt; unfold X0; omega))
        obtain ⟨p0, p1, p2, p3, p4⟩ := P3.out.bk.c5
        obtain ⟨n0, n1, n2, n3, n4⟩ := NB3.out.c5
        go_wp2_with fail
        clear p0 p1 p2 p3 p4 n0 n1 n2 n3 n4
        refine (_root_.Go.Proofs.YtagonpjkohidkaaGreatDoor.ps.impl_fits 1 0 p.l ⟨#[]⟩ ⟨#[]⟩ none 0 0 p.d p.i p.g p.s _).mono ?_
        rw [HFT.out]
        rintro e w4 ⟨rfl, b4⟩
        have F4 := Lib.hid (F3.out.quiet b4)
        have P4 := Lib.hid (P3.out.ext (Ext.of (Gr.quiet b4)))
        have N4 := Lib.hid (N3.out.ext (Ext.of (Gr.quiet b4)))
        clear b4
        obtain ⟨p0, p1, p2, p3, p4⟩ := P4.out.bk.c5
        obtain ⟨n0, n1, n2, n3, n4⟩ := N4.out.bk.c5
        go_wp2_with fail
        clear p0 p1 p2 p3 p4 n0 n1 n2 n3 n4
        refine (HM.out _ F4.out.st).mono ?_
        rintro e w9 h9
        obtain ⟨rfl, hv9⟩ := id h9
        have H9 := Lib.hid h9
        have R9 := Lib.hid (F4.out.rbk h9)
        obtain ⟨r0, r1⟩ := R9.out.c2
        have g0 := R9.out.f 0
        have g1 := R9.out.f 1
        clear h9 hv9
        go_wp2
        obtain ⟨t0, t1⟩ := (R9.out.put2 (.int .i64 (lvR RR)) (.bool (tgR RR))).c2
        exact bodyPost_ret (v := .agg #[.int .i64 (lvR RR), .bool (tgR RR)]) (by simp [results, Tryz.results88, go_sem, t0, t1]) rfl ((F4.out.res H9.out _ _))
  by_cases hc7 : c = 7
  · subst hc7
    have hi1 := kd_lt (l := l) (i := i) (by omega)
    have HM := (fun W2 (s2 : St w0 a l.length cap i v z r W2) => call_any hE hOk 7 ⟨#[]⟩ (z.map (·.1)) p W2 h0 hi1 hl hc hz s2 rfl)
    rw [show bgR E l 7 p i = (listed E l 7 32 33 i) from by simp [bgR]]
    have HM := Lib.hid HM
    rw [show bgK 7 = 7 from rfl, show bgO 7 = 0 from rfl]
    cases hft : ft 7 0 p with
    | false =>
      have HFT := Lib.hid (show fits 7 0 p.l p.d p.i p.g p.s = false from hft)
      rw [if_neg (by decide)]
      clear hzb0 hcc hi1 hE hOk h0 hft h32
      clear hst hB hPb hRb hz hi hl hc hlt
      go_enter Tryz.func88, Tryz.ntmps88
      go_wp2_with fail
      rw [← hW]
      clear hW
      refine HNX.out.mono ?_
      rintro e w1 ⟨rfl, b1⟩
      have F1 := Lib.hid (F0.out.quiet b1)
      have P1 := Lib.hid (P0.out.ext (Ext.of (Gr.quiet b1)))
      clear b1
      go_wp2_with fail
      refine (begun_7 _ _).mono ?_
      rintro e w2 ⟨u, rfl, b2, nr⟩
      have F2 := Lib.hid (F1.out.quiet b2)
      have P2 := Lib.hid (P1.out.ext (Ext.of (Gr.quiet b2)))
      rcases nr with ⟨-, rfl⟩ | ⟨hm, -⟩
      case inr => exact absurd hm (by decide)
      case inl =>
        clear b2
        have NB3 := Lib.hid (Bk.new w2 #[.int .i64 7, .int .i64 0, .string ⟨#[]⟩, .string ⟨#[]⟩, .slice none 0 0] 44)
        have B3 := Lib.hid (show Below w2.heap.size w2 (w2.alloc (.cells #[.int .i64 7, .int .i64 0, .string ⟨#[]⟩, .string ⟨#[]⟩, .slice none 0 0] 44)) from (Below.refl _ _).alloc (Nat.le_refl _) _)
        have F3 := Lib.hid (F2.out.quiet B3.out)
        have P3 := Lib.hid (P2.out.ext (Ext.of (Gr.quiet B3.out)))
        have N3 := Lib.hid (show Mb (X0 w0.heap.size) w0.heap.size w2.heap.size _ _ v z r _ from Mb.new F2.out.st NB3.out (Nat.le_refl _) (by have := F2.out.st.lt; unfold X0; omega))
        obtain ⟨p0, p1, p2, p3, p4⟩ := P3.out.bk.c5
        obtain ⟨n0, n1, n2, n3, n4⟩ := NB3.out.c5
        go_wp2_with fail
        clear p0 p1 p2 p3 p4 n0 n1 n2 n3 n4
        refine (_root_.Go.Proofs.YtagonpjkohidkaaGreatDoor.ps.impl_fits 7 0 p.l ⟨#[]⟩ ⟨#[]⟩ none 0 0 p.d p.i p.g p.s _).mono ?_
        rw [HFT.out]
        rintro e w4 ⟨rfl, b4⟩
        have F4 := Lib.hid (F3.out.quiet b4)
        have P4 := Lib.hid (P3.out.ext (Ext.of (Gr.quiet b4)))
        have N4 := Lib.hid (N3.out.ext (Ext.of (Gr.quiet b4)))
        clear b4
        obtain ⟨r0, r1⟩ := F4.out.rb.bk.c2
        have g0 := F4.out.rb.bk.f 0
        have g1 := F4.out.rb.bk.f 1
        go_wp2
        obtain ⟨t0, t1⟩ := (F4.out.rb.bk.put2 (.int .i64 0) (.bool false)).c2
        exact bodyPost_ret (v := .agg #[.int .i64 0, .bool false]) (by simp [results, Tryz.results88, go_sem, t0, t1]) rfl ((F4.out.bad _ _ rfl))
    | true =>
      have HFT := Lib.hid (show fits 7 0 p.l p.d p.i p.g p.s = true from hft)
      rw [if_pos rfl]
      clear hzb0 hcc hi1 hE hOk h0 hft h32
      clear hst hB hPb hRb hz hi hl hc hlt
      go_enter Tryz.func88, Tryz.ntmps88
      go_wp2_with fail
      rw [← hW]
      clear hW
      refine HNX.out.mono ?_
      rintro e w1 ⟨rfl, b1⟩
      have F1 := Lib.hid (F0.out.quiet b1)
      have P1 := Lib.hid (P0.out.ext (Ext.of (Gr.quiet b1)))
      clear b1
      go_wp2_with fail
      refine (begun_7 _ _).mono ?_
      rintro e w2 ⟨u, rfl, b2, nr⟩
      have F2 := Lib.hid (F1.out.quiet b2)
      have P2 := Lib.hid (P1.out.ext (Ext.of (Gr.quiet b2)))
      rcases nr with ⟨-, rfl⟩ | ⟨hm, -⟩
      case inr => exact absurd hm (by decide)
      case inl =>
        clear b2
        have NB3 := Lib.hid (Bk.new w2 #[.int .i64 7, .int .i64 0, .string ⟨#[]⟩, .string ⟨#[]⟩, .slice none 0 0] 44)
        have B3 := Lib.hid (show Below w2.heap.size w2 (w2.alloc (.cells #[.int .i64 7, .int .i64 0, .string ⟨#[]⟩, .string ⟨#[]⟩, .slice none 0 0] 44)) from (Below.refl _ _).alloc (Nat.le_refl _) _)
        have F3 := Lib.hid (F2.out.quiet B3.out)
        have P3 := Lib.hid (P2.out.ext (Ext.of (Gr.quiet B3.out)))
        have N3 := Lib.hid (show Mb (X0 w0.heap.size) w0.heap.size w2.heap.size _ _ v z r _ from Mb.new F2.out.st NB3.out (Nat.le_refl _) (by have := F2.out.st.lt; unfold X0; omega))
        obtain ⟨p0, p1, p2, p3, p4⟩ := P3.out.bk.c5
        obtain ⟨n0, n1, n2, n3, n4⟩ := NB3.out.c5
        go_wp2_with fail
        clear p0 p1 p2 p3 p4 n0 n1 n2 n3 n4
        refine (_root_.Go.Proofs.YtagonpjkohidkaaGreatDoor.ps.impl_fits 7 0 p.l ⟨#[]⟩ ⟨#[]⟩ none 0 0 p.d p.i p.g p.s _).mono ?_
        rw [HFT.out]
        rintro e w4 ⟨rfl, b4⟩
        have F4 := Lib.hid (F3.out.quiet b4)
        have P4 := Lib.hid (P3.out.ext (Ext.of (Gr.quiet b4)))
        have N4 := Lib.hid (N3.out.ext (Ext.of (Gr.quiet b4)))
        clear b4
        obtain ⟨p0, p1, p2, p3, p4⟩ := P4.out.bk.c5
        obtain ⟨n0, n1, n2, n3, n4⟩ := N4.out.bk.c5
        go_wp2_with fail
        clear p0 p1 p2 p3 p4 n0 n1 n2 n3 n4
        refine (HM.out _ F4.out.st).mono ?_
        rintro e w9 h9
        obtain ⟨rfl, hv9⟩ := id h9
        have H9 := Lib.hid h9
        have R9 := Lib.hid (F4.out.rbk h9)
        obtain ⟨r0, r1⟩ := R9.out.c2
        have g0 := R9.out.f 0
        have g1 := R9.out.f 1
        clear h9 hv9
        go_wp2
        obtain ⟨t0, t1⟩ := (R9.out.put2 (.int .i64 (lvR (listed E l 7 32 33 i))) (.bool (tgR (listed E l 7 32 33 i)))).c2
        exact bodyPost_ret (v := .agg #[.int .i64 (lvR (listed E l 7 32 33 i)), .bool (tgR (listed E l 7 32 33 i))]) (by simp [results, Tryz.results88, go_sem, t0, t1]) rfl ((F4.out.res H9.out _ _))
  by_cases hc8 : c = 8
  · subst hc8
    have hi1 := kd_lt (l := l) (i := i) (by omega)
    have HM := (fun W2 (s2 : St w0 a l.length cap i v z r W2) => builtin_any hE hOk ⟨#[]⟩ (z.map (·.1)) p W2 h0 hi1 hl hc hz s2 rfl)
    rw [show bgR E l 8 p i = (if isLen (tx l i) = true ∧ ¬ kd l (i + 1) = 32 then pe.word l 8 i else listed E l 8 32 33 i) from by simp [bgR]]
    obtain ⟨RR, hRR⟩ : ∃ RR, (if isLen (tx l i) = true ∧ ¬ kd l (i + 1) = 32 then pe.word l 8 i else listed E l 8 32 33 i) = RR := ⟨_, rfl⟩
    simp only [hRR] at HM
    rw [hRR]
    have HM := Lib.hid HM
    clear hRR
    rw [show bgK 8 = 8 from rfl, show bgO 8 = 0 from rfl]
    cases hft : ft 8 0 p with
    | false =>
      have HFT := Lib.hid (show fits 8 0 p.l p.d p.i p.g p.s = false from hft)
      rw [if_neg (by decide)]
      clear hzb0 hcc hi1 hE hOk h0 hft h32
      clear hst hB hPb hRb hz hi hl hc hlt
      go_enter Tryz.func88, Tryz.ntmps88
      go_wp2_with fail
      rw [← hW]
      clear hW
      refine HNX.out.mono ?_
      rintro e w1 ⟨rfl, b1⟩
      have F1 := Lib.hid (F0.out.quiet b1)
      have P1 := Lib.hid (P0.out.ext (Ext.of (Gr.quiet b1)))
      clear b1
      go_wp2_with fail
      refine (begun_8 _ _).mono ?_
      rintro e w2 ⟨u, rfl, b2, nr⟩
      have F2 := Lib.hid (F1.out.quiet b2)
      have P2 := Lib.hid (P1.out.ext (Ext.of (Gr.quiet b2)))
      rcases nr with ⟨-, rfl⟩ | ⟨hm, -⟩
      case inr => exact absurd hm (by decide)
      case inl =>
        clear b2
        have NB3 := Lib.hid (Bk.new w2 #[.int .i64 8, .int .i64 0, .string ⟨#[]⟩, .string ⟨#[]⟩, .slice none 0 0] 44)
        have B3 := Lib.hid (show Below w2.heap.size w2 (w2.alloc (.cells #[.int .i64 8, .int .i64 0, .string ⟨#[]⟩, .string ⟨#[]⟩, .slice none 0 0] 44)) from (Below.refl _ _).alloc (Nat.le_refl _) _)
        have F3 := Lib.hid (F2.out.quiet B3.out)
        have P3 := Lib.hid (P2.out.ext (Ext.of (Gr.quiet B3.out)))
        have N3 := Lib.hid (show Mb (X0 w0.heap.size) w0.heap.size w2.heap.size _ _ v z r _ from Mb.new F2.out.st NB3.out (Nat.le_refl _) (by have := F2.out.st.lt; unfold X0; omega))
        obtain ⟨p0, p1, p2, p3, p4⟩ := P3.out.bk.c5
        obtain ⟨n0, n1, n2, n3, n4⟩ := NB3.out.c5
        go_wp2_with fail
        clear p0 p1 p2 p3 p4 n0 n1 n2 n3 n4
        refine (_root_.Go.Proofs.YtagonpjkohidkaaGreatDoor.ps.impl_fits 8 0 p.l ⟨#[]⟩ ⟨#[]⟩ none 0 0 p.d p.i p.g p.s _).mono ?_
        rw [HFT.out]
        rintro e w4 ⟨rfl, b4⟩
        have F4 := Lib.hid (F3.out.quiet b4)
        have P4 := Lib.hid (P3.out.ext (Ext.of (Gr.quiet b4)))
        have N4 := Lib.hid (N3.out.ext (Ext.of (Gr.quiet b4)))
        clear b4
        obtain ⟨r0, r1⟩ := F4.out.rb.bk.c2
        have g0 := F4.out.rb.bk.f 0
        have g1 := F4.out.rb.bk.f 1
        go_wp2
        obtain ⟨t0, t1⟩ := (F4.out.rb.bk.put2 (.int .i64 0) (.bool false)).c2
        exact bodyPost_ret (v := .agg #[.int .i64 0, .bool false]) (by simp [results, Tryz.results88, go_sem, t0, t1]) rfl ((F4.out.bad _ _ rfl))
    | true =>
      have HFT := Lib.hid (show fits 8 0 p.l p.d p.i p.g p.s = true from hft)
      rw [if_pos rfl]
      clear hzb0 hcc hi1 hE hOk h0 hft h32
      clear hst hB hPb hRb hz hi hl hc hlt
      go_enter Tryz.func88, Tryz.ntmps88
      go_wp2_with fail
      rw [← hW]
      clear hW
      refine HNX.out.mono ?_
      rintro e w1 ⟨rfl, b1⟩
      have F1 := Lib.hid (F0.out.quiet b1)
      have P1 := Lib.hid (P0.out.ext (Ext.of (Gr.quiet b1)))
      clear b1
      go_wp2_with fail
      refine (begun_8 _ _).mono ?_
      rintro e w2 ⟨u, rfl, b2, nr⟩
      have F2 := Lib.hid (F1.out.quiet b2)
      have P2 := Lib.hid (P1.out.ext (Ext.of (Gr.quiet b2)))
      rcases nr with ⟨-, rfl⟩ | ⟨hm, -⟩
      case inr => exact absurd hm (by decide)
      case inl =>
        clear b2
        have NB3 := Lib.hid (Bk.new w2 #[.int .i64 8, .int .i64 0, .string ⟨#[]⟩, .string ⟨#[]⟩, .slice none 0 0] 44)
        have B3 := Lib.hid (show Below w2.heap.size w2 (w2.alloc (.cells #[.int .i64 8, .int .i64 0, .string ⟨#[]⟩, .string ⟨#[]⟩, .slice none 0 0] 44)) from (Below.refl _ _).alloc (Nat.le_refl _) _)
        have F3 := Lib.hid (F2.out.quiet B3.out)
        have P3 := Lib.hid (P2.out.ext (Ext.of (Gr.quiet B3.out)))
        have N3 := Lib.hid (show Mb (X0 w0.heap.size) w0.heap.size w2.heap.size _ _ v z r _ from Mb.new F2.out.st NB3.out (Nat.le_refl _) (by have := F2.out.st.lt; unfold X0; omega))
        obtain ⟨p0, p1, p2, p3, p4⟩ := P3.out.bk.c5
        obtain ⟨n0, n1, n2, n3, n4⟩ := NB3.out.c5
        go_wp2_with fail
        clear p0 p1 p2 p3 p4 n0 n1 n2 n3 n4
        refine (_root_.Go.Proofs.YtagonpjkohidkaaGreatDoor.ps.impl_fits 8 0 p.l ⟨#[]⟩ ⟨#[]⟩ none 0 0 p.d p.i p.g p.s _).mono ?_
        rw [HFT.out]
        rintro e w4 ⟨rfl, b4⟩
        have F4 := Lib.hid (F3.out.quiet b4)
        have P4 := Lib.hid (P3.out.ext (Ext.of (Gr.quiet b4)))
        have N4 := Lib.hid (N3.out.ext (Ext.of (Gr.quiet b4)))
        clear b4
        obtain ⟨p0, p1, p2, p3, p4⟩ := P4.out.bk.c5
        obtain ⟨n0, n1, n2, n3, n4⟩ := N4.out.bk.c5
        go_wp2_with fail
        clear p0 p1 p2 p3 p4 n0 n1 n2 n3 n4
        refine (HM.out _ F4.out.st).mono ?_
        rintro e w9 h9
        obtain ⟨rfl, hv9⟩ := id h9
        have H9 := Lib.hid h9
        have R9 := Lib.hid (F4.out.rbk h9)
        obtain ⟨r0, r1⟩ := R9.out.c2
        have g0 := R9.out.f 0
        have g1 := R9.out.f 1
        clear h9 hv9
        go_wp2
        obtain ⟨t0, t1⟩ := (R9.out.put2 (.int .i64 (lvR RR)) (.bool (tgR RR))).c2
        exact bodyPost_ret (v := .agg #[.int .i64 (lvR RR), .bool (tgR RR)]) (by simp [results, Tryz.results88, go_sem, t0, t1]) rfl ((F4.out.res H9.out _ _))
  by_cases hc68 : c = 68
  · subst hc68
    have hi1 := kd_lt (l := l) (i := i) (by omega)
    have HM := (fun u q W2 (s2 : St w0 a l.length cap i v z r W2) hq2 hr2 => prefixed_any hE hOk 6 0 ⟨#[]⟩ rfl h0 (z.map (·.1)) u q p W2 hi1 hl hc hz s2 hq2 hr2 hzb0)
    rw [show bgR E l 68 p i = (pfx E 6 0 p i) from by simp [bgR]]
    have HM := Lib.hid HM
    rw [show bgK 68 = 6 from rfl, show bgO 68 = 0 from rfl]
    cases hft : ft 6 0 p with
    | false =>
      have HFT := Lib.hid (show fits 6 0 p.l p.d p.i p.g p.s = false from hft)
      rw [if_neg (by decide)]
      clear hzb0 hcc hi1 hE hOk h0 hft h32
      clear hst hB hPb hRb hz hi hl hc hlt
      go_enter Tryz.func88, Tryz.ntmps88
      go_wp2_with fail
      rw [← hW]
      clear hW
      refine HNX.out.mono ?_
      rintro e w1 ⟨rfl, b1⟩
      have F1 := Lib.hid (F0.out.quiet b1)
      have P1 := Lib.hid (P0.out.ext (Ext.of (Gr.quiet b1)))
      clear b1
      go_wp2_with fail
      refine (begun_68 _ _).mono ?_
      rintro e w2 ⟨u, rfl, b2, nr⟩
      have F2 := Lib.hid (F1.out.quiet b2)
      have P2 := Lib.hid (P1.out.ext (Ext.of (Gr.quiet b2)))
      obtain ⟨q, hq1, hq2, rfl, rw2⟩ := nr.rw (by decide) (by decide) F1.out.st
      have HQ1 := Lib.hid (show w.heap.size + 1 < q from Nat.lt_trans F1.out.rb.bk.lt hq1)
      have X2 := Lib.hid rw2
      have HQ2 := Lib.hid hq2
      clear hq1 hq2 rw2
      clear b2
      have NB3 := Lib.hid (Bk.new w2 #[.int .i64 6, .int .i64 0, .string ⟨#[]⟩, .string ⟨#[]⟩, .slice (some ⟨q, 0, none⟩) 1 1] 44)
      have B3 := Lib.hid (show Below w2.heap.size w2 (w2.alloc (.cells #[.int .i64 6, .int .i64 0, .string ⟨#[]⟩, .string ⟨#[]⟩, .slice (some ⟨q, 0, none⟩) 1 1] 44)) from (Below.refl _ _).alloc (Nat.le_refl _) _)
      have F3 := Lib.hid (F2.out.quiet B3.out)
      have P3 := Lib.hid (P2.out.ext (Ext.of (Gr.quiet B3.out)))
      have N3 := Lib.hid (show Mb (X0 w0.heap.size) w0.heap.size w2.heap.size _ _ v z r _ from Mb.new F2.out.st NB3.out (Nat.le_refl _) (by have := F2.out.st.lt; unfold X0; omega))
      obtain ⟨p0, p1, p2, p3, p4⟩ := P3.out.bk.c5
      obtain ⟨n0, n1, n2, n3, n4⟩ := NB3.out.c5
      go_wp2_with fail
      clear p0 p1 p2 p3 p4 n0 n1 n2 n3 n4
      refine (_root_.Go.Proofs.YtagonpjkohidkaaGreatDoor.ps.impl_fits 6 0 p.l ⟨#[]⟩ ⟨#[]⟩ (some ⟨q, 0, none⟩) 1 1 p.d p.i p.g p.s _).mono ?_
      rw [HFT.out]
      rintro e w4 ⟨rfl, b4⟩
      have F4 := Lib.hid (F3.out.quiet b4)
      have P4 := Lib.hid (P3.out.ext (Ext.of (Gr.quiet b4)))
      have N4 := Lib.hid (N3.out.ext (Ext.of (Gr.quiet b4)))
      have X4 := Lib.hid ((X2.out.quiet B3.out).quiet b4)
      have HQ4 := Lib.hid (show q < w4.heap.size from Nat.lt_of_lt_of_le HQ2.out (Nat.le_trans B3.out.size b4.size))
      clear b4
      obtain ⟨r0, r1⟩ := F4.out.rb.bk.c2
      have g0 := F4.out.rb.bk.f 0
      have g1 := F4.out.rb.bk.f 1
      go_wp2
      obtain ⟨t0, t1⟩ := (F4.out.rb.bk.put2 (.int .i64 0) (.bool false)).c2
      exact bodyPost_ret (v := .agg #[.int .i64 0, .bool false]) (by simp [results, Tryz.results88, go_sem, t0, t1]) rfl ((F4.out.bad _ _ rfl))
    | true =>
      have HFT := Lib.hid (show fits 6 0 p.l p.d p.i p.g p.s = true from hft)
      rw [if_pos rfl]
      clear hzb0 hcc hi1 hE hOk h0 hft h32
      clear hst hB hPb hRb hz hi hl hc hlt
      go_enter Tryz.func88, Tryz.ntmps88
      go_wp2_with fail
      rw [← hW]
      clear hW
      refine HNX.out.mono ?_
      rintro e w1 ⟨rfl, b1⟩
      have F1 := Lib.hid (F0.out.quiet b1)
      have P1 := Lib.hid (P0.out.ext (Ext.of (Gr.quiet b1)))
      clear b1
      go_wp2_with fail
      refine (begun_68 _ _).mono ?_
      rintro e w2 ⟨u, rfl, b2, nr⟩
      have F2 := Lib.hid (F1.out.quiet b2)
      have P2 := Lib.hid (P1.out.ext (Ext.of (Gr.quiet b2)))
      obtain ⟨q, hq1, hq2, rfl, rw2⟩ := nr.rw (by decide) (by decide) F1.out.st
      have HQ1 := Lib.hid (show w.heap.size + 1 < q from Nat.lt_trans F1.out.rb.bk.lt hq1)
      have X2 := Lib.hid rw2
      have HQ2 := Lib.hid hq2
      clear hq1 hq2 rw2
      clear b2
      have NB3 := Lib.hid (Bk.new w2 #[.int .i64 6, .int .i64 0, .string ⟨#[]⟩, .string ⟨#[]⟩, .slice (some ⟨q, 0, none⟩) 1 1] 44)
      have B3 := Lib.hid (show Below w2.heap.size w2 (w2.alloc (.cells #[.int .i64 6, .int .i64 0, .string ⟨#[]⟩, .string ⟨#[]⟩, .slice (some ⟨q, 0, none⟩) 1 1] 44)) from (Below.refl _ _).alloc (Nat.le_refl _) _)
      have F3 := Lib.hid (F2.out.quiet B3.out)
      have P3 := Lib.hid (P2.out.ext (Ext.of (Gr.quiet B3.out)))
      have N3 := Lib.hid (show Mb (X0 w0.heap.size) w0.heap.size w2.heap.size _ _ v z r _ from Mb.new F2.out.st NB3.out (Nat.le_refl _) (by have := F2.out.st.lt; unfold X0; omega))
      obtain ⟨p0, p1, p2, p3, p4⟩ := P3.out.bk.c5
      obtain ⟨n0, n1, n2, n3, n4⟩ := NB3.out.c5
      go_wp2_with fail
      clear p0 p1 p2 p3 p4 n0 n1 n2 n3 n4
      refine (_root_.Go.Proofs.YtagonpjkohidkaaGreatDoor.ps.impl_fits 6 0 p.l ⟨#[]⟩ ⟨#[]⟩ (some ⟨q, 0, none⟩) 1 1 p.d p.i p.g p.s _).mono ?_
      rw [HFT.out]
      rintro e w4 ⟨rfl, b4⟩
      have F4 := Lib.hid (F3.out.quiet b4)
      have P4 := Lib.hid (P3.out.ext (Ext.of (Gr.quiet b4)))
      have N4 := Lib.hid (N3.out.ext (Ext.of (Gr.quiet b4)))
      have X4 := Lib.hid ((X2.out.quiet B3.out).quiet b4)
      have HQ4 := Lib.hid (show q < w4.heap.size from Nat.lt_of_lt_of_le HQ2.out (Nat.le_trans B3.out.size b4.size))
      clear b4
      obtain ⟨p0, p1, p2, p3, p4⟩ := P4.out.bk.c5
      obtain ⟨n0, n1, n2, n3, n4⟩ := N4.out.bk.c5
      go_wp2_with fail
      clear p0 p1 p2 p3 p4 n0 n1 n2 n3 n4
      refine (HM.out _ q _ F4.out.st HQ4.out X4.out).mono ?_
      rintro e w9 h9
      obtain ⟨rfl, hv9⟩ := id h9
      have H9 := Lib.hid h9
      have R9 := Lib.hid (resq0_bk F4.out h9 (by have := HQ1.out; omega))
      obtain ⟨r0, r1⟩ := R9.out.c2
      have g0 := R9.out.f 0
      have g1 := R9.out.f 1
      clear h9 hv9
      go_wp2
      obtain ⟨t0, t1⟩ := (R9.out.put2 (.int .i64 (lvR (pfx E 6 0 p i))) (.bool (tgR (pfx E 6 0 p i)))).c2
      exact bodyPost_ret (v := .agg #[.int .i64 (lvR (pfx E 6 0 p i)), .bool (tgR (pfx E 6 0 p i))]) (by simp [results, Tryz.results88, go_sem, t0, t1]) rfl (resq0 (.inl (by have := HQ1.out; omega)) F4.out H9.out (by have := HQ1.out; omega) _ _)
  by_cases hc51 : c = 51
  · subst hc51
    have hi1 := kd_lt (l := l) (i := i) (by omega)
    have HM := (fun u q W2 (s2 : St w0 a l.length cap i v z r W2) hq2 hr2 => pre_any hE hOk 51 ⟨#[]⟩ rfl h0 (z.map (·.1)) u q p W2 hi1 hl hc hz s2 hq2 hr2 hzb0)
    rw [show bgR E l 51 p i = (if kd l (i + 1) = 6 ∨ kd l (i + 1) = 68 then pfx E 9 51 p i else .bad (i + 1)) from by simp [bgR]]
    obtain ⟨RR, hRR⟩ : ∃ RR, (if kd l (i + 1) = 6 ∨ kd l (i + 1) = 68 then pfx E 9 51 p i else .bad (i + 1)) = RR := ⟨_, rfl⟩
    simp only [hRR] at HM
    rw [hRR]
    have HM := Lib.hid HM
    clear hRR
    rw [show bgK 51 = 9 from rfl, show bgO 51 = 51 from rfl]
    cases hft : ft 9 51 p with
    | false =>
      have HFT := Lib.hid (show fits 9 51 p.l p.d p.i p.g p.s = false from hft)
      rw [if_neg (by decide)]
      clear hzb0 hcc hi1 hE hOk h0 hft h32
      clear hst hB hPb hRb hz hi hl hc hlt
      go_enter Tryz.func88, Tryz.ntmps88
      go_wp2_with fail
      rw [← hW]
      clear hW
      refine HNX.out.mono ?_
      rintro e w1 ⟨rfl, b1⟩
      have F1 := Lib.hid (F0.out.quiet b1)
      have P1 := Lib.hid (P0.out.ext (Ext.of (Gr.quiet b1)))
      clear b1
      go_wp2_with fail
      refine (begun_51 _ _).mono ?_
      rintro e w2 ⟨u, rfl, b2, nr⟩
      have F2 := Lib.hid (F1.out.quiet b2)
      have P2 := Lib.hid (P1.out.ext (Ext.of (Gr.quiet b2)))
      obtain ⟨q, hq1, hq2, rfl, rw2⟩ := nr.rw (by decide) (by decide) F1.out.st
      have HQ1 := Lib.hid (show w.heap.size + 1 < q from Nat.lt_trans F1.out.rb.bk.lt hq1)
      have X2 := Lib.hid rw2
      have HQ2 := Lib.hid hq2
      clear hq1 hq2 rw2
      clear b2
      have NB3 := Lib.hid (Bk.new w2 #[.int .i64 9, .int .i64 51, .string ⟨#[]⟩, .string ⟨#[]⟩, .slice (some ⟨q, 0, none⟩) 1 1] 44)
      have B3 := Lib.hid (show Below w2.heap.size w2 (w2.alloc (.cells #[.int .i64 9, .int .i64 51, .string ⟨#[]⟩, .string ⟨#[]⟩, .slice (some ⟨q, 0, none⟩) 1 1] 44)) from (Below.refl _ _).alloc (Nat.le_refl _) _)
      have F3 := Lib.hid (F2.out.quiet B3.out)
      have P3 := Lib.hid (P2.out.ext (Ext.of (Gr.quiet B3.out)))
      have N3 := Lib.hid (show Mb (X0 w0.heap.size) w0.heap.size w2.heap.size _ _ v z r _ from Mb.new F2.out.st NB3.out (Nat.le_refl _) (by have := F2.out.st.lt; unfold X0; omega))
      obtain ⟨p0, p1, p2, p3, p4⟩ := P3.out.bk.c5
      obtain ⟨n0, n1, n2, n3, n4⟩ := NB3.out.c5
      go_wp2_with fail
      clear p0 p1 p2 p3 p4 n0 n1 n2 n3 n4
      refine (_root_.Go.Proofs.YtagonpjkohidkaaGreatDoor.ps.impl_fits 9 51 p.l ⟨#[]⟩ ⟨#[]⟩ (some ⟨q, 0, none⟩) 1 1 p.d p.i p.g p.s _).mono ?_
      rw [HFT.out]
      rintro e w4 ⟨rfl, b4⟩
      have F4 := Lib.hid (F3.out.quiet b4)
      have P4 := Lib.hid (P3.out.ext (Ext.of (Gr.quiet b4)))
      have N4 := Lib.hid (N3.out.ext (Ext.of (Gr.quiet b4)))
      have X4 := Lib.hid ((X2.out.quiet B3.out).quiet b4)
      have HQ4 := Lib.hid (show q < w4.heap.size from Nat.lt_of_lt_of_le HQ2.out (Nat.le_trans B3.out.size b4.size))
      clear b4
      obtain ⟨r0, r1⟩ := F4.out.rb.bk.c2
      have g0 := F4.out.rb.bk.f 0
      have g1 := F4.out.rb.bk.f 1
      go_wp2
      obtain ⟨t0, t1⟩ := (F4.out.rb.bk.put2 (.int .i64 0) (.bool false)).c2
      exact bodyPost_ret (v := .agg #[.int .i64 0, .bool false]) (by simp [results, Tryz.results88, go_sem, t0, t1]) rfl ((F4.out.bad _ _ rfl))
    | true =>
      have HFT := Lib.hid (show fits 9 51 p.l p.d p.i p.g p.s = true from hft)
      rw [if_pos rfl]
      clear hzb0 hcc hi1 hE hOk h0 hft h32
      clear hst hB hPb hRb hz hi hl hc hlt
      go_enter Tryz.func88, Tryz.ntmps88
      go_wp2_with fail
      rw [← hW]
      clear hW
      refine HNX.out.mono ?_
      rintro e w1 ⟨rfl, b1⟩
      have F1 := Lib.hid (F0.out.quiet b1)
      have P1 := Lib.hid (P0.out.ext (Ext.of (Gr.quiet b1)))
      clear b1
      go_wp2_with fail
      refine (begun_51 _ _).mono ?_
      rintro e w2 ⟨u, rfl, b2, nr⟩
      have F2 := Lib.hid (F1.out.quiet b2)
      have P2 := Lib.hid (P1.out.ext (Ext.of (Gr.quiet b2)))
      obtain ⟨q, hq1, hq2, rfl, rw2⟩ := nr.rw (by decide) (by decide) F1.out.st
      have HQ1 := Lib.hid (show w.heap.size + 1 < q from Nat.lt_trans F1.out.rb.bk.lt hq1)
      have X2 := Lib.hid rw2
      have HQ2 := Lib.hid hq2
      clear hq1 hq2 rw2
      clear b2
      have NB3 := Lib.hid (Bk.new w2 #[.int .i64 9, .int .i64 51, .string ⟨#[]⟩, .string ⟨#[]⟩, .slice (some ⟨q, 0, none⟩) 1 1] 44)
      have B3 := Lib.hid (show Below w2.heap.size w2 (w2.alloc (.cells #[.int .i64 9, .int .i64 51, .string ⟨#[]⟩, .string ⟨#[]⟩, .slice (some ⟨q, 0, none⟩) 1 1] 44)) from (Below.refl _ _).alloc (Nat.le_refl _) _)
      have F3 := Lib.hid (F2.out.quiet B3.out)
      have P3 := Lib.hid (P2.out.ext (Ext.of (Gr.quiet B3.out)))
      have N3 := Lib.hid (show Mb (X0 w0.heap.size) w0.heap.size w2.heap.size _ _ v z r _ from Mb.new F2.out.st NB3.out (Nat.le_refl _) (by have := F2.out.st.lt; unfold X0; omega))
      obtain ⟨p0, p1, p2, p3, p4⟩ := P3.out.bk.c5
      obtain ⟨n0, n1, n2, n3, n4⟩ := NB3.out.c5
      go_wp2_with fail
      clear p0 p1 p2 p3 p4 n0 n1 n2 n3 n4
      refine (_root_.Go.Proofs.YtagonpjkohidkaaGreatDoor.ps.impl_fits 9 51 p.l ⟨#[]⟩ ⟨#[]⟩ (some ⟨q, 0, none⟩) 1 1 p.d p.i p.g p.s _).mono ?_
      rw [HFT.out]
      rintro e w4 ⟨rfl, b4⟩
      have F4 := Lib.hid (F3.out.quiet b4)
      have P4 := Lib.hid (P3.out.ext (Ext.of (Gr.quiet b4)))
      have N4 := Lib.hid (N3.out.ext (Ext.of (Gr.quiet b4)))
      have X4 := Lib.hid ((X2.out.quiet B3.out).quiet b4)
      have HQ4 := Lib.hid (show q < w4.heap.size from Nat.lt_of_lt_of_le HQ2.out (Nat.le_trans B3.out.size b4.size))
      clear b4
      obtain ⟨p0, p1, p2, p3, p4⟩ := P4.out.bk.c5
      obtain ⟨n0, n1, n2, n3, n4⟩ := N4.out.bk.c5
      go_wp2_with fail
      clear p0 p1 p2 p3 p4 n0 n1 n2 n3 n4
      refine (HM.out _ q _ F4.out.st HQ4.out X4.out).mono ?_
      rintro e w9 h9
      obtain ⟨rfl, hv9⟩ := id h9
      have H9 := Lib.hid h9
      have R9 := Lib.hid (resq0_bk F4.out h9 (by have := HQ1.out; omega))
      obtain ⟨r0, r1⟩ := R9.out.c2
      have g0 := R9.out.f 0
      have g1 := R9.out.f 1
      clear h9 hv9
      go_wp2
      obtain ⟨t0, t1⟩ := (R9.out.put2 (.int .i64 (lvR RR)) (.bool (tgR RR))).c2
      exact bodyPost_ret (v := .agg #[.int .i64 (lvR RR), .bool (tgR RR)]) (by simp [results, Tryz.results88, go_sem, t0, t1]) rfl (resq0 (.inl (by have := HQ1.out; omega)) F4.out H9.out (by have := HQ1.out; omega) _ _)
  by_cases hc52 : c = 52
  · subst hc52
    have hi1 := kd_lt (l := l) (i := i) (by omega)
    have HM := (fun u q W2 (s2 : St w0 a l.length cap i v z r W2) hq2 hr2 => pre_any hE hOk 52 ⟨#[]⟩ rfl h0 (z.map (·.1)) u q p W2 hi1 hl hc hz s2 hq2 hr2 hzb0)
    rw [show bgR E l 52 p i = (if kd l (i + 1) = 6 ∨ kd l (i + 1) = 68 then pfx E 9 52 p i else .bad (i + 1)) from by simp [bgR]]
    obtain ⟨RR, hRR⟩ : ∃ RR, (if kd l (i + 1) = 6 ∨ kd l (i + 1) = 68 then pfx E 9 52 p i else .bad (i + 1)) = RR := ⟨_, rfl⟩
    simp only [hRR] at HM
    rw [hRR]
    have HM := Lib.hid HM
    clear hRR
    rw [show bgK 52 = 9 from rfl, show bgO 52 = 52 from rfl]
    cases hft : ft 9 52 p with
    | false =>
      have HFT := Lib.hid (show fits 9 52 p.l p.d p.i p.g p.s = false from hft)
      rw [if_neg (by decide)]
      clear hzb0 hcc hi1 hE hOk h0 hft h32
      clear hst hB hPb hRb hz hi hl hc hlt
      go_enter Tryz.func88, Tryz.ntmps88
      go_wp2_with fail
      rw [← hW]
      clear hW
      refine HNX.out.mono ?_
      rintro e w1 ⟨rfl, b1⟩
      have F1 := Lib.hid (F0.out.quiet b1)
      have P1 := Lib.hid (P0.out.ext (Ext.of (Gr.quiet b1)))
      clear b1
      go_wp2_with fail
      refine (begun_52 _ _).mono ?_
      rintro e w2 ⟨u, rfl, b2, nr⟩
      have F2 := Lib.hid (F1.out.quiet b2)
      have P2 := Lib.hid (P1.out.ext (Ext.of (Gr.quiet b2)))
      obtain ⟨q, hq1, hq2, rfl, rw2⟩ := nr.rw (by decide) (by decide) F1.out.st
      have HQ1 := Lib.hid (show w.heap.size + 1 < q from Nat.lt_trans F1.out.rb.bk.lt hq1)
      have X2 := Lib.hid rw2
      have HQ2 := Lib.hid hq2
      clear hq1 hq2 rw2
      clear b2
      have NB3 := Lib.hid (Bk.new w2 #[.int .i64 9, .int .i64 52, .string ⟨#[]⟩, .string ⟨#[]⟩, .slice (some ⟨q, 0, none⟩) 1 1] 44)
      have B3 := Lib.hid (show Below w2.heap.size w2 (w2.alloc (.cells #[.int .i64 9, .int .i64 52, .string ⟨#[]⟩, .string ⟨#[]⟩, .slice (some ⟨q, 0, none⟩) 1 1] 44)) from (Below.refl _ _).alloc (Nat.le_refl _) _)
      have F3 := Lib.hid (F2.out.quiet B3.out)
      have P3 := Lib.hid (P2.out.ext (Ext.of (Gr.quiet B3.out)))
      have N3 := Lib.hid (show Mb (X0 w0.heap.size) w0.heap.size w2.heap.size _ _ v z r _ from Mb.new F2.out.st NB3.out (Nat.le_refl _) (by have := F2.out.st.lt; unfold X0; omega))
      obtain ⟨p0, p1, p2, p3, p4⟩ := P3.out.bk.c5
      obtain ⟨n0, n1, n2, n3, n4⟩ := NB3.out.c5
      go_wp2_with fail
      clear p0 p1 p2 p3 p4 n0 n1 n2 n3 n4
      refine (_root_.Go.Proofs.YtagonpjkohidkaaGreatDoor.ps.impl_fits 9 52 p.l ⟨#[]⟩ ⟨#[]⟩ (some ⟨q, 0, none⟩) 1 1 p.d p.i p.g p.s _).mono ?_
      rw [HFT.out]
      rintro e w4 ⟨rfl, b4⟩
      have F4 := Lib.hid (F3.out.quiet b4)
      have P4 := Lib.hid (P3.out.ext (Ext.of (Gr.quiet b4)))
      have N4 := Lib.hid (N3.out.ext (Ext.of (Gr.quiet b4)))
      have X4 := Lib.hid ((X2.out.quiet B3.out).quiet b4)
      have HQ4 := Lib.hid (show q < w4.heap.size from Nat.lt_of_lt_of_le HQ2.out (Nat.le_trans B3.out.size b4.size))
      clear b4
      obtain ⟨r0, r1⟩ := F4.out.rb.bk.c2
      have g0 := F4.out.rb.bk.f 0
      have g1 := F4.out.rb.bk.f 1
      go_wp2
      obtain ⟨t0, t1⟩ := (F4.out.rb.bk.put2 (.int .i64 0) (.bool false)).c2
      exact bodyPost_ret (v := .agg #[.int .i64 0, .bool false]) (by simp [results, Tryz.results88, go_sem, t0, t1]) rfl ((F4.out.bad _ _ rfl))
    | true =>
      have HFT := Lib.hid (show fits 9 52 p.l p.d p.i p.g p.s = true from hft)
      rw [if_pos rfl]
      clear hzb0 hcc hi1 hE hOk h0 hft h32
      clear hst hB hPb hRb hz hi hl hc hlt
      go_enter Tryz.func88, Tryz.ntmps88
      go_wp2_with fail
      rw [← hW]
      clear hW
      refine HNX.out.mono ?_
      rintro e w1 ⟨rfl, b1⟩
      have F1 := Lib.hid (F0.out.quiet b1)
      have P1 := Lib.hid (P0.out.ext (Ext.of (Gr.quiet b1)))
      clear b1
      go_wp2_with fail
      refine (begun_52 _ _).mono ?_
      rintro e w2 ⟨u, rfl, b2, nr⟩
      have F2 := Lib.hid (F1.out.quiet b2)
      have P2 := Lib.hid (P1.out.ext (Ext.of (Gr.quiet b2)))
      obtain ⟨q, hq1, hq2, rfl, rw2⟩ := nr.rw (by decide) (by decide) F1.out.st
      have HQ1 := Lib.hid (show w.heap.size + 1 < q from Nat.lt_trans F1.out.rb.bk.lt hq1)
      have X2 := Lib.hid rw2
      have HQ2 := Lib.hid hq2
      clear hq1 hq2 rw2
      clear b2
      have NB3 := Lib.hid (Bk.new w2 #[.int .i64 9, .int .i64 52, .string ⟨#[]⟩, .string ⟨#[]⟩, .slice (some ⟨q, 0, none⟩) 1 1] 44)
      have B3 := Lib.hid (show Below w2.heap.size w2 (w2.alloc (.cells #[.int .i64 9, .int .i64 52, .string ⟨#[]⟩, .string ⟨#[]⟩, .slice (some ⟨q, 0, none⟩) 1 1] 44)) from (Below.refl _ _).alloc (Nat.le_refl _) _)
      have F3 := Lib.hid (F2.out.quiet B3.out)
      have P3 := Lib.hid (P2.out.ext (Ext.of (Gr.quiet B3.out)))
      have N3 := Lib.hid (show Mb (X0 w0.heap.size) w0.heap.size w2.heap.size _ _ v z r _ from Mb.new F2.out.st NB3.out (Nat.le_refl _) (by have := F2.out.st.lt; unfold X0; omega))
      obtain ⟨p0, p1, p2, p3, p4⟩ := P3.out.bk.c5
      obtain ⟨n0, n1, n2, n3, n4⟩ := NB3.out.c5
      go_wp2_with fail
      clear p0 p1 p2 p3 p4 n0 n1 n2 n3 n4
      refine (_root_.Go.Proofs.YtagonpjkohidkaaGreatDoor.ps.impl_fits 9 52 p.l ⟨#[]⟩ ⟨#[]⟩ (some ⟨q, 0, none⟩) 1 1 p.d p.i p.g p.s _).mono ?_
      rw [HFT.out]
      rintro e w4 ⟨rfl, b4⟩
      have F4 := Lib.hid (F3.out.quiet b4)
      have P4 := Lib.hid (P3.out.ext (Ext.of (Gr.quiet b4)))
      have N4 := Lib.hid (N3.out.ext (Ext.of (Gr.quiet b4)))
      have X4 := Lib.hid ((X2.out.quiet B3.out).quiet b4)
      have HQ4 := Lib.hid (show q < w4.heap.size from Nat.lt_of_lt_of_le HQ2.out (Nat.le_trans B3.out.size b4.size))
      clear b4
      obtain ⟨p0, p1, p2, p3, p4⟩ := P4.out.bk.c5
      obtain ⟨n0, n1, n2, n3, n4⟩ := N4.out.bk.c5
      go_wp2_with fail
      clear p0 p1 p2 p3 p4 n0 n1 n2 n3 n4
      refine (HM.out _ q _ F4.out.st HQ4.out X4.out).mono ?_
      rintro e w9 h9
      obtain ⟨rfl, hv9⟩ := id h9
      have H9 := Lib.hid h9
      have R9 := Lib.hid (resq0_bk F4.out h9 (by have := HQ1.out; omega))
      obtain ⟨r0, r1⟩ := R9.out.c2
      have g0 := R9.out.f 0
      have g1 := R9.out.f 1
      clear h9 hv9
      go_wp2
      obtain ⟨t0, t1⟩ := (R9.out.put2 (.int .i64 (lvR RR)) (.bool (tgR RR))).c2
      exact bodyPost_ret (v := .agg #[.int .i64 (lvR RR), .bool (tgR RR)]) (by simp [results, Tryz.results88, go_sem, t0, t1]) rfl (resq0 (.inl (by have := HQ1.out; omega)) F4.out H9.out (by have := HQ1.out; omega) _ _)
  by_cases hc55 : c = 55
  · subst hc55
    have hi1 := kd_lt (l := l) (i := i) (by omega)
    have HM := (fun u q W2 (s2 : St w0 a l.length cap i v z r W2) hq2 hr2 => prefixed_any hE hOk 11 55 ⟨#[]⟩ rfl h0 (z.map (·.1)) u q p W2 hi1 hl hc hz s2 hq2 hr2 hzb0)
    rw [show bgR E l 55 p i = (pfx E 11 55 p i) from by simp [bgR]]
    have HM := Lib.hid HM
    rw [show bgK 55 = 11 from rfl, show bgO 55 = 55 from rfl]
    cases hft : ft 11 55 p with
    | false =>
      have HFT := Lib.hid (show fits 11 55 p.l p.d p.i p.g p.s = false from hft)
      rw [if_neg (by decide)]
      clear hzb0 hcc hi1 hE hOk h0 hft h32
      clear hst hB hPb hRb hz hi hl hc hlt
      go_enter Tryz.func88, Tryz.ntmps88
      go_wp2_with fail
      rw [← hW]
      clear hW
      refine HNX.out.mono ?_
      rintro e w1 ⟨rfl, b1⟩
      have F1 := Lib.hid (F0.out.quiet b1)
      have P1 := Lib.hid (P0.out.ext (Ext.of (Gr.quiet b1)))
      clear b1
      go_wp2_with fail
      refine (begun_55 _ _).mono ?_
      rintro e w2 ⟨u, rfl, b2, nr⟩
      have F2 := Lib.hid (F1.out.quiet b2)
      have P2 := Lib.hid (P1.out.ext (Ext.of (Gr.quiet b2)))
      obtain ⟨q, hq1, hq2, rfl, rw2⟩ := nr.rw (by decide) (by decide) F1.out.st
      have HQ1 := Lib.hid (show w.heap.size + 1 < q from Nat.lt_trans F1.out.rb.bk.lt hq1)
      have X2 := Lib.hid rw2
      have HQ2 := Lib.hid hq2
      clear hq1 hq2 rw2
      clear b2
      have NB3 := Lib.hid (Bk.new w2 #[.int .i64 11, .int .i64 55, .string ⟨#[]⟩, .string ⟨#[]⟩, .slice (some ⟨q, 0, none⟩) 1 1] 44)
      have B3 := Lib.hid (show Below w2.heap.size w2 (w2.alloc (.cells #[.int .i64 11, .int .i64 55, .string ⟨#[]⟩, .string ⟨#[]⟩, .slice (some ⟨q, 0, none⟩) 1 1] 44)) from (Below.refl _ _).alloc (Nat.le_refl _) _)
      have F3 := Lib.hid (F2.out.quiet B3.out)
      have P3 := Lib.hid (P2.out.ext (Ext.of (Gr.quiet B3.out)))
      have N3 := Lib.hid (show Mb (X0 w0.heap.size) w0.heap.size w2.heap.size _ _ v z r _ from Mb.new F2.out.st NB3.out (Nat.le_refl _) (by have := F2.out.st.lt; unfold X0; omega))
      obtain ⟨p0, p1, p2, p3, p4⟩ := P3.out.bk.c5
      obtain ⟨n0, n1, n2, n3, n4⟩ := NB3.out.c5
      go_wp2_with fail
      clear p0 p1 p2 p3 p4 n0 n1 n2 n3 n4
      refine (_root_.Go.Proofs.YtagonpjkohidkaaGreatDoor.ps.impl_fits 11 55 p.l ⟨#[]⟩ ⟨#[]⟩ (some ⟨q, 0, none⟩) 1 1 p.d p.i p.g p.s _).mono ?_
      rw [HFT.out]
      rintro e w4 ⟨rfl, b4⟩
      have F4 := Lib.hid (F3.out.quiet b4)
      have P4 := Lib.hid (P3.out.ext (Ext.of (Gr.quiet b4)))
      have N4 := Lib.hid (N3.out.ext (Ext.of (Gr.quiet b4)))
      have X4 := Lib.hid ((X2.out.quiet B3.out).quiet b4)
      have HQ4 := Lib.hid (show q < w4.heap.size from Nat.lt_of_lt_of_le HQ2.out (Nat.le_trans B3.out.size b4.size))
      clear b4
      obtain ⟨r0, r1⟩ := F4.out.rb.bk.c2
      have g0 := F4.out.rb.bk.f 0
      have g1 := F4.out.rb.bk.f 1
      go_wp2
      obtain ⟨t0, t1⟩ := (F4.out.rb.bk.put2 (.int .i64 0) (.bool false)).c2
      exact bodyPost_ret (v := .agg #[.int .i64 0, .bool false]) (by simp [results, Tryz.results88, go_sem, t0, t1]) rfl ((F4.out.bad _ _ rfl))
    | true =>
      have HFT := Lib.hid (show fits 11 55 p.l p.d p.i p.g p.s = true from hft)
      rw [if_pos rfl]
      clear hzb0 hcc hi1 hE hOk h0 hft h32
      clear hst hB hPb hRb hz hi hl hc hlt
      go_enter Tryz.func88, Tryz.ntmps88
      go_wp2_with fail
      rw [← hW]
      clear hW
      refine HNX.out.mono ?_
      rintro e w1 ⟨rfl, b1⟩
      have F1 := Lib.hid (F0.out.quiet b1)
      have P1 := Lib.hid (P0.out.ext (Ext.of (Gr.quiet b1)))
      clear b1
      go_wp2_with fail
      refine (begun_55 _ _).mono ?_
      rintro e w2 ⟨u, rfl, b2, nr⟩
      have F2 := Lib.hid (F1.out.quiet b2)
      have P2 := Lib.hid (P1.out.ext (Ext.of (Gr.quiet b2)))
      obtain ⟨q, hq1, hq2, rfl, rw2⟩ := nr.rw (by decide) (by decide) F1.out.st
      have HQ1 := Lib.hid (show w.heap.size + 1 < q from Nat.lt_trans F1.out.rb.bk.lt hq1)
      have X2 := Lib.hid rw2
      have HQ2 := Lib.hid hq2
      clear hq1 hq2 rw2
      clear b2
      have NB3 := Lib.hid (Bk.new w2 #[.int .i64 11, .int .i64 55, .string ⟨#[]⟩, .string ⟨#[]⟩, .slice (some ⟨q, 0, none⟩) 1 1] 44)
      have B3 := Lib.hid (show Below w2.heap.size w2 (w2.alloc (.cells #[.int .i64 11, .int .i64 55, .string ⟨#[]⟩, .string ⟨#[]⟩, .slice (some ⟨q, 0, none⟩) 1 1] 44)) from (Below.refl _ _).alloc (Nat.le_refl _) _)
      have F3 := Lib.hid (F2.out.quiet B3.out)
      have P3 := Lib.hid (P2.out.ext (Ext.of (Gr.quiet B3.out)))
      have N3 := Lib.hid (show Mb (X0 w0.heap.size) w0.heap.size w2.heap.size _ _ v z r _ from Mb.new F2.out.st NB3.out (Nat.le_refl _) (by have := F2.out.st.lt; unfold X0; omega))
      obtain ⟨p0, p1, p2, p3, p4⟩ := P3.out.bk.c5
      obtain ⟨n0, n1, n2, n3, n4⟩ := NB3.out.c5
      go_wp2_with fail
      clear p0 p1 p2 p3 p4 n0 n1 n2 n3 n4
      refine (_root_.Go.Proofs.YtagonpjkohidkaaGreatDoor.ps.impl_fits 11 55 p.l ⟨#[]⟩ ⟨#[]⟩ (some ⟨q, 0, none⟩) 1 1 p.d p.i p.g p.s _).mono ?_
      rw [HFT.out]
      rintro e w4 ⟨rfl, b4⟩
      have F4 := Lib.hid (F3.out.quiet b4)
      have P4 := Lib.hid (P3.out.ext (Ext.of (Gr.quiet b4)))
      have N4 := Lib.hid (N3.out.ext (Ext.of (Gr.quiet b4)))
      have X4 := Lib.hid ((X2.out.quiet B3.out).quiet b4)
      have HQ4 := Lib.hid (show q < w4.heap.size from Nat.lt_of_lt_of_le HQ2.out (Nat.le_trans B3.out.size b4.size))
      clear b4
      obtain ⟨p0, p1, p2, p3, p4⟩ := P4.out.bk.c5
      obtain ⟨n0, n1, n2, n3, n4⟩ := N4.out.bk.c5
      go_wp2_with fail
      clear p0 p1 p2 p3 p4 n0 n1 n2 n3 n4
      refine (HM.out _ q _ F4.out.st HQ4.out X4.out).mono ?_
      rintro e w9 h9
      obtain ⟨rfl, hv9⟩ := id h9
      have H9 := Lib.hid h9
      have R9 := Lib.hid (resq0_bk F4.out h9 (by have := HQ1.out; omega))
      obtain ⟨r0, r1⟩ := R9.out.c2
      have g0 := R9.out.f 0
      have g1 := R9.out.f 1
      clear h9 hv9
      go_wp2
      obtain ⟨t0, t1⟩ := (R9.out.put2 (.int .i64 (lvR (pfx E 11 55 p i))) (.bool (tgR (pfx E 11 55 p i)))).c2
      exact bodyPost_ret (v := .agg #[.int .i64 (lvR (pfx E 11 55 p i)), .bool (tgR (pfx E 11 55 p i))]) (by simp [results, Tryz.results88, go_sem, t0, t1]) rfl (resq0 (.inl (by have := HQ1.out; omega)) F4.out H9.out (by have := HQ1.out; omega) _ _)
  by_cases hc56 : c = 56
  · subst hc56
    have hi1 := kd_lt (l := l) (i := i) (by omega)
    have HM := (fun u q W2 (s2 : St w0 a l.length cap i v z r W2) hq2 hr2 => prefixed_any hE hOk 11 56 ⟨#[]⟩ rfl h0 (z.map (·.1)) u q p W2 hi1 hl hc hz s2 hq2 hr2 hzb0)
    rw [show bgR E l 56 p i = (pfx E 11 56 p i) from by simp [bgR]]
    have HM := Lib.hid HM
    rw [show bgK 56 = 11 from rfl, show bgO 56 = 56 from rfl]
    cases hft : ft 11 56 p with
    | false =>
      have HFT := Lib.hid (show fits 11 56 p.l p.d p.i p.g p.s = false from hft)
      rw [if_neg (by decide)]
      clear hzb0 hcc hi1 hE hOk h0 hft h32
      clear hst hB hPb hRb hz hi hl hc hlt
      go_enter Tryz.func88, Tryz.ntmps88
      go_wp2_with fail
      rw [← hW]
      clear hW
      refine HNX.out.mono ?_
      rintro e w1 ⟨rfl, b1⟩
      have F1 := Lib.hid (F0.out.quiet b1)
      have P1 := Lib.hid (P0.out.ext (Ext.of (Gr.quiet b1)))
      clear b1
      go_wp2_with fail
      refine (begun_56 _ _).mono ?_
      rintro e w2 ⟨u, rfl, b2, nr⟩
      have F2 := Lib.hid (F1.out.quiet b2)
      have P2 := Lib.hid (P1.out.ext (Ext.of (Gr.quiet b2)))
      obtain ⟨q, hq1, hq2, rfl, rw2⟩ := nr.rw (by decide) (by decide) F1.out.st
      have HQ1 := Lib.hid (show w.heap.size + 1 < q from Nat.lt_trans F1.out.rb.bk.lt hq1)
      have X2 := Lib.hid rw2
      have HQ2 := Lib.hid hq2
      clear hq1 hq2 rw2
      clear b2
      have NB3 := Lib.hid (Bk.new w2 #[.int .i64 11, .int .i64 56, .string ⟨#[]⟩, .string ⟨#[]⟩, .slice (some ⟨q, 0, none⟩) 1 1] 44)
      have B3 := Lib.hid (show Below w2.heap.size w2 (w2.alloc (.cells #[.int .i64 11, .int .i64 56, .string ⟨#[]⟩, .string ⟨#[]⟩, .slice (some ⟨q, 0, none⟩) 1 1] 44)) from (Below.refl _ _).alloc (Nat.le_refl _) _)
      have F3 := Lib.hid (F2.out.quiet B3.out)
      have P3 := Lib.hid (P2.out.ext (Ext.of (Gr.quiet B3.out)))
      have N3 := Lib.hid (show Mb (X0 w0.heap.size) w0.heap.size w2.heap.size _ _ v z r _ from Mb.new F2.out.st NB3.out (Nat.le_refl _) (by have := F2.out.st.lt; unfold X0; omega))
      obtain ⟨p0, p1, p2, p3, p4⟩ := P3.out.bk.c5
      obtain ⟨n0, n1, n2, n3, n4⟩ := NB3.out.c5
      go_wp2_with fail
      clear p0 p1 p2 p3 p4 n0 n1 n2 n3 n4
      refine (_root_.Go.Proofs.YtagonpjkohidkaaGreatDoor.ps.impl_fits 11 56 p.l ⟨#[]⟩ ⟨#[]⟩ (some ⟨q, 0, none⟩) 1 1 p.d p.i p.g p.s _).mono ?_
      rw [HFT.out]
      rintro e w4 ⟨rfl, b4⟩
      have F4 := Lib.hid (F3.out.quiet b4)
      have P4 := Lib.hid (P3.out.ext (Ext.of (Gr.quiet b4)))
      have N4 := Lib.hid (N3.out.ext (Ext.of (Gr.quiet b4)))
      have X4 := Lib.hid ((X2.out.quiet B3.out).quiet b4)
      have HQ4 := Lib.hid (show q < w4.heap.size from Nat.lt_of_lt_of_le HQ2.out (Nat.le_trans B3.out.size b4.size))
      clear b4
      obtain ⟨r0, r1⟩ := F4.out.rb.bk.c2
      have g0 := F4.out.rb.bk.f 0
      have g1 := F4.out.rb.bk.f 1
      go_wp2
      obtain ⟨t0, t1⟩ := (F4.out.rb.bk.put2 (.int .i64 0) (.bool false)).c2
      exact bodyPost_ret (v := .agg #[.int .i64 0, .bool false]) (by simp [results, Tryz.results88, go_sem, t0, t1]) rfl ((F4.out.bad _ _ rfl))
    | true =>
      have HFT := Lib.hid (show fits 11 56 p.l p.d p.i p.g p.s = true from hft)
      rw [if_pos rfl]
      clear hzb0 hcc hi1 hE hOk h0 hft h32
      clear hst hB hPb hRb hz hi hl hc hlt
      go_enter Tryz.func88, Tryz.ntmps88
      go_wp2_with fail
      rw [← hW]
      clear hW
      refine HNX.out.mono ?_
      rintro e w1 ⟨rfl, b1⟩
      have F1 := Lib.hid (F0.out.quiet b1)
      have P1 := Lib.hid (P0.out.ext (Ext.of (Gr.quiet b1)))
      clear b1
      go_wp2_with fail
      refine (begun_56 _ _).mono ?_
      rintro e w2 ⟨u, rfl, b2, nr⟩
      have F2 := Lib.hid (F1.out.quiet b2)
      have P2 := Lib.hid (P1.out.ext (Ext.of (Gr.quiet b2)))
      obtain ⟨q, hq1, hq2, rfl, rw2⟩ := nr.rw (by decide) (by decide) F1.out.st
      have HQ1 := Lib.hid (show w.heap.size + 1 < q from Nat.lt_trans F1.out.rb.bk.lt hq1)
      have X2 := Lib.hid rw2
      have HQ2 := Lib.hid hq2
      clear hq1 hq2 rw2
      clear b2
      have NB3 := Lib.hid (Bk.new w2 #[.int .i64 11, .int .i64 56, .string ⟨#[]⟩, .string ⟨#[]⟩, .slice (some ⟨q, 0, none⟩) 1 1] 44)
      have B3 := Lib.hid (show Below w2.heap.size w2 (w2.alloc (.cells #[.int .i64 11, .int .i64 56, .string ⟨#[]⟩, .string ⟨#[]⟩, .slice (some ⟨q, 0, none⟩) 1 1] 44)) from (Below.refl _ _).alloc (Nat.le_refl _) _)
      have F3 := Lib.hid (F2.out.quiet B3.out)
      have P3 := Lib.hid (P2.out.ext (Ext.of (Gr.quiet B3.out)))
      have N3 := Lib.hid (show Mb (X0 w0.heap.size) w0.heap.size w2.heap.size _ _ v z r _ from Mb.new F2.out.st NB3.out (Nat.le_refl _) (by have := F2.out.st.lt; unfold X0; omega))
      obtain ⟨p0, p1, p2, p3, p4⟩ := P3.out.bk.c5
      obtain ⟨n0, n1, n2, n3, n4⟩ := NB3.out.c5
      go_wp2_with fail
      clear p0 p1 p2 p3 p4 n0 n1 n2 n3 n4
      refine (_root_.Go.Proofs.YtagonpjkohidkaaGreatDoor.ps.impl_fits 11 56 p.l ⟨#[]⟩ ⟨#[]⟩ (some ⟨q, 0, none⟩) 1 1 p.d p.i p.g p.s _).mono ?_
      rw [HFT.out]
      rintro e w4 ⟨rfl, b4⟩
      have F4 := Lib.hid (F3.out.quiet b4)
      have P4 := Lib.hid (P3.out.ext (Ext.of (Gr.quiet b4)))
      have N4 := Lib.hid (N3.out.ext (Ext.of (Gr.quiet b4)))
      have X4 := Lib.hid ((X2.out.quiet B3.out).quiet b4)
      have HQ4 := Lib.hid (show q < w4.heap.size from Nat.lt_of_lt_of_le HQ2.out (Nat.le_trans B3.out.size b4.size))
      clear b4
      obtain ⟨p0, p1, p2, p3, p4⟩ := P4.out.bk.c5
      obtain ⟨n0, n1, n2, n3, n4⟩ := N4.out.bk.c5
      go_wp2_with fail
      clear p0 p1 p2 p3 p4 n0 n1 n2 n3 n4
      refine (HM.out _ q _ F4.out.st HQ4.out X4.out).mono ?_
      rintro e w9 h9
      obtain ⟨rfl, hv9⟩ := id h9
      have H9 := Lib.hid h9
      have R9 := Lib.hid (resq0_bk F4.out h9 (by have := HQ1.out; omega))
      obtain ⟨r0, r1⟩ := R9.out.c2
      have g0 := R9.out.f 0
      have g1 := R9.out.f 1
      clear h9 hv9
      go_wp2
      obtain ⟨t0, t1⟩ := (R9.out.put2 (.int .i64 (lvR (pfx E 11 56 p i))) (.bool (tgR (pfx E 11 56 p i)))).c2
      exact bodyPost_ret (v := .agg #[.int .i64 (lvR (pfx E 11 56 p i)), .bool (tgR (pfx E 11 56 p i))]) (by simp [results, Tryz.results88, go_sem, t0, t1]) rfl (resq0 (.inl (by have := HQ1.out; omega)) F4.out H9.out (by have := HQ1.out; omega) _ _)
  by_cases hc61 : c = 61
  · subst hc61
    have hi1 := kd_lt (l := l) (i := i) (by omega)
    have HM := (fun u q W2 (s2 : St w0 a l.length cap i v z r W2) hq2 hr2 => prefixed_any hE hOk 11 61 ⟨#[]⟩ rfl h0 (z.map (·.1)) u q p W2 hi1 hl hc hz s2 hq2 hr2 hzb0)
    rw [show bgR E l 61 p i = (pfx E 11 61 p i) from by simp [bgR]]
    have HM := Lib.hid HM
    rw [show bgK 61 = 11 from rfl, show bgO 61 = 61 from rfl]
    cases hft : ft 11 61 p with
    | false =>
      have HFT := Lib.hid (show fits 11 61 p.l p.d p.i p.g p.s = false from hft)
      rw [if_neg (by decide)]
      clear hzb0 hcc hi1 hE hOk h0 hft h32
      clear hst hB hPb hRb hz hi hl hc hlt
      go_enter Tryz.func88, Tryz.ntmps88
      go_wp2_with fail
      rw [← hW]
      clear hW
      refine HNX.out.mono ?_
      rintro e w1 ⟨rfl, b1⟩
      have F1 := Lib.hid (F0.out.quiet b1)
      have P1 := Lib.hid (P0.out.ext (Ext.of (Gr.quiet b1)))
      clear b1
      go_wp2_with fail
      refine (begun_61 _ _).mono ?_
      rintro e w2 ⟨u, rfl, b2, nr⟩
      have F2 := Lib.hid (F1.out.quiet b2)
      have P2 := Lib.hid (P1.out.ext (Ext.of (Gr.quiet b2)))
      obtain ⟨q, hq1, hq2, rfl, rw2⟩ := nr.rw (by decide) (by decide) F1.out.st
      have HQ1 := Lib.hid (show w.heap.size + 1 < q from Nat.lt_trans F1.out.rb.bk.lt hq1)
      have X2 := Lib.hid rw2
      have HQ2 := Lib.hid hq2
      clear hq1 hq2 rw2
      clear b2
      have NB3 := Lib.hid (Bk.new w2 #[.int .i64 11, .int .i64 61, .string ⟨#[]⟩, .string ⟨#[]⟩, .slice (some ⟨q, 0, none⟩) 1 1] 44)
      have B3 := Lib.hid (show Below w2.heap.size w2 (w2.alloc (.cells #[.int .i64 11, .int .i64 61, .string ⟨#[]⟩, .string ⟨#[]⟩, .slice (some ⟨q, 0, none⟩) 1 1] 44)) from (Below.refl _ _).alloc (Nat.le_refl _) _)
      have F3 := Lib.hid (F2.out.quiet B3.out)
      have P3 := Lib.hid (P2.out.ext (Ext.of (Gr.quiet B3.out)))
      have N3 := Lib.hid (show Mb (X0 w0.heap.size) w0.heap.size w2.heap.size _ _ v z r _ from Mb.new F2.out.st NB3.out (Nat.le_refl _) (by have := F2.out.st.lt; unfold X0; omega))
      obtain ⟨p0, p1, p2, p3, p4⟩ := P3.out.bk.c5
      obtain ⟨n0, n1, n2, n3, n4⟩ := NB3.out.c5
      go_wp2_with fail
      clear p0 p1 p2 p3 p4 n0 n1 n2 n3 n4
      refine (_root_.Go.Proofs.YtagonpjkohidkaaGreatDoor.ps.impl_fits 11 61 p.l ⟨#[]⟩ ⟨#[]⟩ (some ⟨q, 0, none⟩) 1 1 p.d p.i p.g p.s _).mono ?_
      rw [HFT.out]
      rintro e w4 ⟨rfl, b4⟩
      have F4 := Lib.hid (F3.out.quiet b4)
      have P4 := Lib.hid (P3.out.ext (Ext.of (Gr.quiet b4)))
      have N4 := Lib.hid (N3.out.ext (Ext.of (Gr.quiet b4)))
      have X4 := Lib.hid ((X2.out.quiet B3.out).quiet b4)
      have HQ4 := Lib.hid (show q < w4.heap.size from Nat.lt_of_lt_of_le HQ2.out (Nat.le_trans B3.out.size b4.size))
      clear b4
      obtain ⟨r0, r1⟩ := F4.out.rb.bk.c2
      have g0 := F4.out.rb.bk.f 0
      have g1 := F4.out.rb.bk.f 1
      go_wp2
      obtain ⟨t0, t1⟩ := (F4.out.rb.bk.put2 (.int .i64 0) (.bool false)).c2
      exact bodyPost_ret (v := .agg #[.int .i64 0, .bool false]) (by simp [results, Tryz.results88, go_sem, t0, t1]) rfl ((F4.out.bad _ _ rfl))
    | true =>
      have HFT := Lib.hid (show fits 11 61 p.l p.d p.i p.g p.s = true from hft)
      rw [if_pos rfl]
      clear hzb0 hcc hi1 hE hOk h0 hft h32
      clear hst hB hPb hRb hz hi hl hc hlt
      go_enter Tryz.func88, Tryz.ntmps88
      go_wp2_with fail
      rw [← hW]
      clear hW
      refine HNX.out.mono ?_
      rintro e w1 ⟨rfl, b1⟩
      have F1 := Lib.hid (F0.out.quiet b1)
      have P1 := Lib.hid (P0.out.ext (Ext.of (Gr.quiet b1)))
      clear b1
      go_wp2_with fail
      refine (begun_61 _ _).mono ?_
      rintro e w2 ⟨u, rfl, b2, nr⟩
      have F2 := Lib.hid (F1.out.quiet b2)
      have P2 := Lib.hid (P1.out.ext (Ext.of (Gr.quiet b2)))
      obtain ⟨q, hq1, hq2, rfl, rw2⟩ := nr.rw (by decide) (by decide) F1.out.st
      have HQ1 := Lib.hid (show w.heap.size + 1 < q from Nat.lt_trans F1.out.rb.bk.lt hq1)
      have X2 := Lib.hid rw2
      have HQ2 := Lib.hid hq2
      clear hq1 hq2 rw2
      clear b2
      have NB3 := Lib.hid (Bk.new w2 #[.int .i64 11, .int .i64 61, .string ⟨#[]⟩, .string ⟨#[]⟩, .slice (some ⟨q, 0, none⟩) 1 1] 44)
      have B3 := Lib.hid (show Below w2.heap.size w2 (w2.alloc (.cells #[.int .i64 11, .int .i64 61, .string ⟨#[]⟩, .string ⟨#[]⟩, .slice (some ⟨q, 0, none⟩) 1 1] 44)) from (Below.refl _ _).alloc (Nat.le_refl _) _)
      have F3 := Lib.hid (F2.out.quiet B3.out)
      have P3 := Lib.hid (P2.out.ext (Ext.of (Gr.quiet B3.out)))
      have N3 := Lib.hid (show Mb (X0 w0.heap.size) w0.heap.size w2.heap.size _ _ v z r _ from Mb.new F2.out.st NB3.out (Nat.le_refl _) (by have := F2.out.st.lt; unfold X0; omega))
      obtain ⟨p0, p1, p2, p3, p4⟩ := P3.out.bk.c5
      obtain ⟨n0, n1, n2, n3, n4⟩ := NB3.out.c5
      go_wp2_with fail
      clear p0 p1 p2 p3 p4 n0 n1 n2 n3 n4
      refine (_root_.Go.Proofs.YtagonpjkohidkaaGreatDoor.ps.impl_fits 11 61 p.l ⟨#[]⟩ ⟨#[]⟩ (some ⟨q, 0, none⟩) 1 1 p.d p.i p.g p.s _).mono ?_
      rw [HFT.out]
      rintro e w4 ⟨rfl, b4⟩
      have F4 := Lib.hid (F3.out.quiet b4)
      have P4 := Lib.hid (P3.out.ext (Ext.of (Gr.quiet b4)))
      have N4 := Lib.hid (N3.out.ext (Ext.of (Gr.quiet b4)))
      have X4 := Lib.hid ((X2.out.quiet B3.out).quiet b4)
      have HQ4 := Lib.hid (show q < w4.heap.size from Nat.lt_of_lt_of_le HQ2.out (Nat.le_trans B3.out.size b4.size))
      clear b4
      obtain ⟨p0, p1, p2, p3, p4⟩ := P4.out.bk.c5
      obtain ⟨n0, n1, n2, n3, n4⟩ := N4.out.bk.c5
      go_wp2_with fail
      clear p0 p1 p2 p3 p4 n0 n1 n2 n3 n4
      refine (HM.out _ q _ F4.out.st HQ4.out X4.out).mono ?_
      rintro e w9 h9
      obtain ⟨rfl, hv9⟩ := id h9
      have H9 := Lib.hid h9
      have R9 := Lib.hid (resq0_bk F4.out h9 (by have := HQ1.out; omega))
      obtain ⟨r0, r1⟩ := R9.out.c2
      have g0 := R9.out.f 0
      have g1 := R9.out.f 1
      clear h9 hv9
      go_wp2
      obtain ⟨t0, t1⟩ := (R9.out.put2 (.int .i64 (lvR (pfx E 11 61 p i))) (.bool (tgR (pfx E 11 61 p i)))).c2
      exact bodyPost_ret (v := .agg #[.int .i64 (lvR (pfx E 11 61 p i)), .bool (tgR (pfx E 11 61 p i))]) (by simp [results, Tryz.results88, go_sem, t0, t1]) rfl (resq0 (.inl (by have := HQ1.out; omega)) F4.out H9.out (by have := HQ1.out; omega) _ _)
  have hk0 : bgK c = 0 := by unfold bgK; rw [if_neg (by omega), if_neg (by omega), if_neg (by omega), if_neg (by omega), if_neg (by omega), if_neg (by omega), if_neg (by omega), if_neg (by omega), if_neg (by omega)]
  have hff : ∀ o, ft 0 o p = false := fun o => by unfold ft fits; rw [show lv.levelOf 0 o = 0 from by simp [lv.levelOf]]; simp
  have HFT := Lib.hid (show fits 0 0 p.l p.d p.i p.g p.s = false from hff 0)
  rw [hk0, if_neg (by rw [hff]; decide)]
  clear hzb0 hcc hE hOk h0 h32 hff hc3 hc4 hc5 hc6 hc7 hc8 hc68 hc51 hc52 hc55 hc56 hc61
  clear hst hB hPb hRb hz hi hl hc hlt
  go_enter Tryz.func88, Tryz.ntmps88
  go_wp2_with fail
  rw [← hW]
  clear hW
  refine HNX.out.mono ?_
  rintro e w1 ⟨rfl, b1⟩
  have F1 := Lib.hid (F0.out.quiet b1)
  have P1 := Lib.hid (P0.out.ext (Ext.of (Gr.quiet b1)))
  clear b1
  go_wp2_with fail
  refine (begun_none _ _ hk0 _).mono ?_
  rintro e w2 ⟨u, rfl, b2, nr⟩
  have F2 := Lib.hid (F1.out.quiet b2)
  have P2 := Lib.hid (P1.out.ext (Ext.of (Gr.quiet b2)))
  rcases nr with ⟨-, rfl⟩ | ⟨hm, -⟩
  case inr => exact absurd hm (by decide)
  case inl =>
    clear b2
    have NB3 := Lib.hid (Bk.new w2 #[.int .i64 0, .int .i64 0, .string ⟨#[]⟩, .string ⟨#[]⟩, .slice none 0 0] 44)
    have B3 := Lib.hid (show Below w2.heap.size w2 (w2.alloc (.cells #[.int .i64 0, .int .i64 0, .string ⟨#[]⟩, .string ⟨#[]⟩, .slice none 0 0] 44)) from (Below.refl _ _).alloc (Nat.le_refl _) _)
    have F3 := Lib.hid (F2.out.quiet B3.out)
    have P3 := Lib.hid (P2.out.ext (Ext.of (Gr.quiet B3.out)))
    have N3 := Lib.hid (show Mb (X0 w0.heap.size) w0.heap.size w2.heap.size _ _ v z r _ from Mb.new F2.out.st NB3.out (Nat.le_refl _) (by have := F2.out.st.lt; unfold X0; omega))
    obtain ⟨p0, p1, p2, p3, p4⟩ := P3.out.bk.c5
    obtain ⟨n0, n1, n2, n3, n4⟩ := NB3.out.c5
    go_wp2_with fail
    clear p0 p1 p2 p3 p4 n0 n1 n2 n3 n4
    refine (_root_.Go.Proofs.YtagonpjkohidkaaGreatDoor.ps.impl_fits 0 0 p.l ⟨#[]⟩ ⟨#[]⟩ none 0 0 p.d p.i p.g p.s _).mono ?_
    rw [HFT.out]
    rintro e w4 ⟨rfl, b4⟩
    have F4 := Lib.hid (F3.out.quiet b4)
    have P4 := Lib.hid (P3.out.ext (Ext.of (Gr.quiet b4)))
    have N4 := Lib.hid (N3.out.ext (Ext.of (Gr.quiet b4)))
    clear b4
    obtain ⟨r0, r1⟩ := F4.out.rb.bk.c2
    have g0 := F4.out.rb.bk.f 0
    have g1 := F4.out.rb.bk.f 1
    go_wp2
    obtain ⟨t0, t1⟩ := (F4.out.rb.bk.put2 (.int .i64 0) (.bool false)).c2
    exact bodyPost_ret (v := .agg #[.int .i64 0, .bool false]) (by simp [results, Tryz.results88, go_sem, t0, t1]) rfl ((F4.out.bad _ _ rfl))
end
end Go.Proofs.YtagonpjkohidkaaGreatDoor.pr

namespace Go.Proofs.YtagonpjkohidkaaGreatDoor.pr
open Go.ChangeShapes Go.WideShapes Go.ChangeAt Go.RowKit
open tk (Tk)
open nd (Nd PT KidV IBlk OwnI shN makeT)
open ps (fits Ps B5 posOk kidI top)
open pe
set_option linter.unusedVariables false
set_option linter.unusedSimpArgs false
set_option maxRecDepth 20000

theorem Mb.extq {b q g : Nat} {c : Array Value} {ty : TypeId} {v v' : Value} {z z' : List (Nd × Value)} {r r' : Nat → Nat} {w w' : World} (h : Mb (X0 b) b g c ty v z r w) (e : Ext (Xq b q) v z r w v' z' r' w') (hne : g ≠ q) : Mb (X0 b) b g c ty v' z' r' w' := by
  have m : Mb (Xq b q) b g c ty v z r w := ⟨h.bk, fun hk => by rcases hk with h1 | h1; exact h.x h1; exact hne h1, h.b, h.o, h.r⟩
  have m2 := m.ext e
  exact ⟨m2.bk, h.x, h.b, m2.o, m2.r⟩
section
variable {w0 : World} {a : Option Addr} {n cap : Nat} {gR q : Nat} {v0 : Value} {z0 : List (Nd × Value)} {r0 : Nat → Nat} {ws : World} {i i' : Nat} {v v' : Value} {z z' : List (Nd × Value)} {r r' : Nat → Nat} {w w' : World}
theorem Fy.goq (h : Fy w0 a n cap (X0 w0.heap.size) gR v0 z0 r0 ws i v z r w) (s : St w0 a n cap i' v' z' r' w') (e : Ext (Xq w0.heap.size q) v z r w v' z' r' w') (hq : ws.heap.size ≤ q) (hne : gR ≠ q) : Fy w0 a n cap (X0 w0.heap.size) gR v0 z0 r0 ws i' v' z' r' w' :=
  ⟨s, ((h.tot.wide (Y := Xq w0.heap.size q) (fun k _ h => Or.inl h)).trans e).wide (fun k hk hx => by rcases hx with h1 | h1; exact h1; omega), h.rb.extq e hne, h.ge⟩
/-- A box of one's own that is not the result's is written. -/
theorem Fy.own (h : Fy w0 a n cap (X0 w0.heap.size) gR v0 z0 r0 ws i v z r w) {g : Nat} {c : Array Value} {ty : TypeId} (m : Mb (X0 w0.heap.size) w0.heap.size g c ty v z r w) (hg : ws.heap.size ≤ g) (hne : gR ≠ g) (j : Nat) (u : Value) : Fy w0 a n cap (X0 w0.heap.size) gR v0 z0 r0 ws i v z r (w.setCell ⟨g, j, none⟩ u) :=
  h.goq (q := g) (h.st.mset m j u) (Ext.of (Gr.set (X := Xq w0.heap.size g) (Gr.refl _ v w) (.inl (Or.inr rfl)) j u)) hg hne
end
/-- What is left of an expression's reading: at a state on the way, or at a fault. -/
inductive Way (M : Nat) (l : List Tk) (E : Ps → Nat → R) (p : Ps) (zb : List Nd) (i0 : Nat) (T : R) : Int → Bool → Nat → List (Nd × Value) → Prop
  | fault (j : Nat) (z : List (Nd × Value)) (h : T = .bad j) (hj : j ≤ l.length) : Way M l E p zb i0 T 0 false j z
  | on (lv : Int) (tg : Bool) (j : Nat) (z : List (Nd × Value)) (t : List Nd) (g : Nat) (hs : Sd M l i0 lv t j) (hm : z.map (·.1) = zb ++ t.map (shN (zb.length : Int))) (hT : T = go E l p g lv tg t j) (hg : l.length - j < g) (hz : z.length + 2 * (l.length - j) ≤ 200000) : Way M l E p zb i0 T lv tg j z
def lvOf (g : Nat) (w : World) : Nat := match w.cell? ⟨g, 0, none⟩ with
  | some (.int _ x) => if x = 0 then 0 else 1
  | _ => 0
theorem lv_of {g : Nat} {w : World} {lv : Int} {tg : Bool} (h : Bk g #[.int .i64 lv, .bool tg] 72 w) : lvOf g w = if lv = 0 then 0 else 1 := by
  unfold lvOf
  rw [h.c2.1]
theorem way_of {M : Nat} {l : List Tk} {E : Ps → Nat → R} {p : Ps} {zb : List Nd} {i0 : Nat} {T : R} {R0 : R} {z : List (Nd × Value)} (h : Ok M l i0 R0) (hz : ∀ lv tg t j, R0 = .ok lv tg t j → z.map (·.1) = zb ++ t.map (shN (zb.length : Int))) (hT : T = (match R0 with | .bad j => .bad j | .ok lv tg t j => go E l p (l.length + 1) lv tg t j)) (hb : zb.length + 2 * (l.length - i0) ≤ 200000) : Way M l E p zb i0 T (lvR R0) (tgR R0) (atR R0) z := by
  cases R0 with
  | bad j => exact .fault j z hT h.2
  | ok lv tg t j =>
    have hm := hz _ _ _ _ rfl
    obtain ⟨h1, h2, h3, h4, h5, h6⟩ := h
    refine .on lv tg j z t _ ⟨h1, h2, h3, h4, h5, h6⟩ hm hT (by omega) ?_
    have := congrArg List.length hm
    rw [List.length_map, List.length_append, List.length_map] at this
    omega
theorem way_next {M : Nat} {l : List Tk} {E : Ps → Nat → R} (hOk : ∀ p i, i ≤ l.length → Ok M l i (E p i)) (hM : ∀ t ∈ l, t.s.size ≤ M) (hb : l.length ≤ 100000) {p : Ps} {zb : List Nd} {i0 j g : Nat} {T : R} {lv : Int} {tg : Bool} {t : List Nd} {z : List (Nd × Value)} (hs : Sd M l i0 lv t j) (hg : goes (kd l j) lv tg p = true) (hT : T = go E l p (g + 1) lv tg t j) (hgg : l.length - j < g + 1) (hz : ∀ lv' tg' t' j', pe.step E l (kd l j) p t j = .ok lv' tg' t' j' → z.map (·.1) = zb ++ t'.map (shN (zb.length : Int))) (hbb : zb.length + 2 * (l.length - i0) ≤ 200000) :
    Way M l E p zb i0 T (lvR (pe.step E l (kd l j) p t j)) (tgR (pe.step E l (kd l j) p t j)) (atR (pe.step E l (kd l j) p t j)) z ∧ j ≤ atR (pe.step E l (kd l j) p t j) ∧ atR (pe.step E l (kd l j) p t j) ≤ l.length ∧ (lvR (pe.step E l (kd l j) p t j) = 0 ∨ j < atR (pe.step E l (kd l j) p t j)) := by
  rw [go_next hg] at hT
  have hs0 := step_ok hOk hM hb (p := p) (i := j) hs.2.2.2.2.2 hs.2.1 (by have := hs.2.2.2.1; have := hs.1; have := hs.2.1; omega) (by unfold goes at hg; rw [Bool.and_eq_true] at hg; exact hg.1)
  cases hr : pe.step E l (kd l j) p t j with
  | bad j2 =>
    rw [hr] at hT hs0
    exact ⟨.fault j2 z hT hs0.2, hs0.1, hs0.2, .inl rfl⟩
  | ok lv' tg' t' j2 =>
    obtain ⟨s1, s2⟩ := sd_step hOk hM hb hs hg hr
    rw [hr] at hT
    have hm := hz _ _ _ _ hr
    refine ⟨.on lv' tg' j2 z t' g s1 hm hT (by have := s1.2.1; omega) ?_, Nat.le_of_lt s2, s1.2.1, .inr s2⟩
    have := congrArg List.length hm
    rw [List.length_map, List.length_append, List.length_map] at this
    obtain ⟨h1, h2, h3, h4, h5, h6⟩ := s1
    omega
section
variable {w0 : World} {l : List Tk} {a : Option Addr} {cap i : Nat} {v : Value} {z : List (Nd × Value)} {r : Nat → Nat} {E : Ps → Nat → R} {M i0 : Nat}

def RelEx (w0 : World) (a : Option Addr) (cap : Nat) (M : Nat) (l : List Tk) (E : Ps → Nat → R) (p : Ps) (i : Nat) (T : R) (v : Value) (z : List (Nd × Value)) (r : Nat → Nat) (w : World) (gl : Nat) (wr : World) : Prop :=
  ∃ lv0 tg0 j v' z' r', Fy w0 a l.length cap (X0 w0.heap.size) (w.heap.size + 1) v z r w j v' z' r' wr ∧ Mb (X0 w0.heap.size) w0.heap.size w.heap.size #[.int .i64 p.l, .bool p.d, .bool p.i, .bool p.g, .bool p.s] 34 v' z' r' wr ∧ Mb (X0 w0.heap.size) w0.heap.size gl #[.int .i64 lv0, .bool tg0] 72 v' z' r' wr ∧ Way M l E p (z.map (·.1)) i T lv0 tg0 j z'
/-- A round of expr ends: the answer of a method lies in the box of the left side. -/
theorem expr_next (hOk : ∀ p i, i ≤ l.length → Ok M l i (E p i)) (hM : ∀ t ∈ l, t.s.size ≤ M) (hb : l.length ≤ 100000) {p : Ps} {T : R} {w W9 ww : World} {v3 : Value} {z3 : List (Nd × Value)} {r3 : Nat → Nat} {gl q j g : Nat} {c lv0 : Int} {tg0 : Bool} {t : List Nd} (hcc : kd l j = c) (hs : Sd M l i lv0 t j) (hgo : goes c lv0 tg0 p = true) (hT : T = go E l p g lv0 tg0 t j) (hg : l.length - j < g) (hzl : (z.map (·.1)).length + 2 * (l.length - i) ≤ 200000)
    (F9 : Fy w0 a l.length cap (X0 w0.heap.size) (w.heap.size + 1) v z r w j v3 z3 r3 W9) (P9 : Mb (X0 w0.heap.size) w0.heap.size w.heap.size #[.int .i64 p.l, .bool p.d, .bool p.i, .bool p.g, .bool p.s] 34 v3 z3 r3 W9) (L9 : Mb (X0 w0.heap.size) w0.heap.size gl #[.int .i64 lv0, .bool tg0] 72 v3 z3 r3 W9)
    (h : Res w0 a l.length cap (z.map (·.1)) (Xq w0.heap.size q) v3 z3 r3 W9 (pe.step E l c p t j) (.returned (.agg #[.int .i64 (lvR (pe.step E l c p t j)), .bool (tgR (pe.step E l c p t j))])) ww) (hq : w.heap.size ≤ q) (hq1 : w.heap.size + 1 ≠ q) (hq2 : gl ≠ q) (hq3 : w.heap.size ≠ q) (hgl : w.heap.size + 1 < gl) :
    RelEx w0 a cap M l E p i T v z r w gl ((ww.setCell ⟨gl, 0, none⟩ (.int .i64 (lvR (pe.step E l c p t j)))).setCell ⟨gl, 1, none⟩ (.bool (tgR (pe.step E l c p t j)))) ∧
    2 * (l.length - atOf w0.heap.size ((ww.setCell ⟨gl, 0, none⟩ (.int .i64 (lvR (pe.step E l c p t j)))).setCell ⟨gl, 1, none⟩ (.bool (tgR (pe.step E l c p t j))))) + lvOf gl ((ww.setCell ⟨gl, 0, none⟩ (.int .i64 (lvR (pe.step E l c p t j)))).setCell ⟨gl, 1, none⟩ (.bool (tgR (pe.step E l c p t j)))) < 2 * (l.length - j) + 1 ∧ Bk gl #[.int .i64 lv0, .bool tg0] 72 ww := by
  subst hcc
  obtain ⟨-, v5, z5, r5, s5, e5, m5⟩ := h
  obtain ⟨g, rfl⟩ : ∃ k, g = k + 1 := ⟨g - 1, by omega⟩
  obtain ⟨hw, hj1, hj2, hj3⟩ := way_next (z := z5) hOk hM hb hs hgo hT hg m5 hzl
  have F5 := F9.goq s5 e5 hq hq1
  have P5 := P9.extq e5 hq3
  have L5 := L9.extq e5 hq2
  generalize hR : pe.step E l (kd l j) p t j = RR at *
  have F6 := F5.own L5 (by omega) (by omega) 0 (.int .i64 (lvR RR))
  have L6 := L5.set 0 (.int .i64 (lvR RR))
  have F7 := F6.own L6 (by omega) (by omega) 1 (.bool (tgR RR))
  have L7 := L6.set 1 (.bool (tgR RR))
  have P7 := (P5.oth (by omega : w.heap.size ≠ gl) 0 (.int .i64 (lvR RR))).oth (by omega : w.heap.size ≠ gl) 1 (.bool (tgR RR))
  refine ⟨⟨_, _, _, v5, z5, r5, F7, P7, L7, hw⟩, ?_, L5.bk⟩
  rw [at_of F7.st, lv_of (lv := lvR RR) (tg := tgR RR) L7.bk]
  split
  · omega
  · next hne =>
    rcases hj3 with h3 | h3
    · exact absurd h3 hne
    · omega
set_option maxHeartbeats 6400000 in
theorem expr_step (hM : ∀ t ∈ l, t.s.size ≤ M) (hE : CallE w0 a cap l E i0) (hOk : ∀ p i, i ≤ l.length → Ok M l i (E p i)) (p : Ps) (w : World) (h0 : i0 ≤ i + 1) (hi : i ≤ l.length) (hl : l.length ≤ 50000) (hc : tk.Lies w0.heap.size w0 a l) (hz : z.length + 2 * (l.length - i) ≤ 200000) (hst : St w0 a l.length cap i v z r w) :
    Calls Tryz.prog 43 #[.pointer (some ⟨w0.heap.size, 0, none⟩), .agg #[.int .i64 p.l, .bool p.d, .bool p.i, .bool p.g, .bool p.s]] w (Res w0 a l.length cap (z.map (·.1)) (X0 w0.heap.size) v z r w (match first E l p i with | .bad j => .bad j | .ok lv tg t j => go E l p (l.length + 1) lv tg t j)) := by
  obtain ⟨W, hW⟩ : ∃ W, W = (w.alloc (.cells #[.int .i64 p.l, .bool p.d, .bool p.i, .bool p.g, .bool p.s] 34)).alloc (.cells #[.int .i64 0, .bool false] 72) := ⟨_, rfl⟩
  have hB : Below w.heap.size w W := by rw [hW]; exact ((Below.refl _ _).alloc (Nat.le_refl _) _).alloc (by simp) _
  have hPb : Bk w.heap.size #[.int .i64 p.l, .bool p.d, .bool p.i, .bool p.g, .bool p.s] 34 W := by rw [hW]; exact (Bk.new _ _ _).alloc _
  have hRb : Bk (w.heap.size + 1) #[.int .i64 0, .bool false] 72 W := by
    rw [hW]
    have := Bk.new (w.alloc (.cells #[.int .i64 p.l, .bool p.d, .bool p.i, .bool p.g, .bool p.s] 34)) #[.int .i64 0, .bool false] 72
    simpa using this
  have hlt := hst.lt
  have P0 := Lib.hid (Mb.new (X := X0 w0.heap.size) hst hPb (Nat.le_refl _) (by unfold X0; omega))
  have F0 := Lib.hid (show Fy w0 a l.length cap (X0 w0.heap.size) (w.heap.size + 1) v z r w i v z r W from ⟨hst.keep hB, Ext.of (Gr.quiet hB), Mb.new hst hRb (by omega) (by unfold X0; omega), by omega⟩)
  have HXB := Lib.hid (show X0 w0.heap.size w0.heap.size from rfl)
  have HC := Lib.hid hc
  have HL := Lib.hid hl
  have HI := Lib.hid hi
  have HZ := Lib.hid hz
  have HLT := Lib.hid hlt
  have HBW := Lib.hid hB.size
  have HFI := Lib.hid (first_any hE hOk p W h0 hi hl hc hz F0.out.st)
  have HFO := Lib.hid (first_ok (p := p) hOk hM (show l.length ≤ 100000 by omega) hi)
  obtain ⟨T, hT⟩ : ∃ T : R, T = (match first E l p i with | .bad j => R.bad j | .ok lv tg t j => go E l p (l.length + 1) lv tg t j) := ⟨_, rfl⟩
  have HT := Lib.hid hT
  rw [← hT]
  have HMM := Lib.hid hM
  have hzl : (z.map (·.1)).length = z.length := List.length_map ..
  have HZL := Lib.hid (show (z.map (·.1)).length + 2 * (l.length - i) ≤ 200000 by rw [hzl]; exact hz)
  obtain ⟨p0, p1, p2, p3, p4⟩ := P0.out.bk.c5
  rw [hW] at p0 p1 p2 p3 p4
  clear hT hst hB hPb hRb hz hi hl hc hlt hM hzl
  go_enter Tryz.func43, Tryz.ntmps43
  go_wp2_with fail
  rw [← hW]
  clear hW p0 p1 p2 p3 p4
  refine HFI.out.mono ?_
  rintro e w1 ⟨rfl, v1, z1, r1, s1, e1, m1⟩
  have hway := way_of (E := E) (p := p) (T := T) HFO.out m1 HT.out HZL.out
  obtain ⟨W2, hW2⟩ : ∃ W2, W2 = w1.alloc (.cells #[.int .i64 (lvR (first E l p i)), .bool (tgR (first E l p i))] 72) := ⟨_, rfl⟩
  have hb2 : Below w1.heap.size w1 W2 := by rw [hW2]; exact (Below.refl _ _).alloc (Nat.le_refl _) _
  have f1 := F0.out.go s1 e1
  have F2 := Lib.hid (f1.quiet hb2)
  have P2 := Lib.hid ((P0.out.ext e1).ext (Ext.of (Gr.quiet hb2)))
  have L2 := Lib.hid (show Mb (X0 w0.heap.size) w0.heap.size w1.heap.size #[.int .i64 (lvR (first E l p i)), .bool (tgR (first E l p i))] 72 v1 z1 r1 W2 from Mb.new s1 (by rw [hW2]; exact Bk.new _ _ _) (Nat.le_refl _) (by unfold X0; have := s1.lt; omega))
  have HWAY := Lib.hid hway
  have HGL := Lib.hid (show w.heap.size + 1 < w1.heap.size from (f1.rb.bk.lt))
  obtain ⟨gl, hgl⟩ : ∃ gl, gl = w1.heap.size := ⟨_, rfl⟩
  rw [← hgl] at L2 HGL
  clear s1 e1 m1 f1 hb2 hway
  go_wp2
  rw [← hW2, ← hgl]
  clear hW2 hgl
  go_loopw [7] (fun _ wr => RelEx w0 a cap M l E p i T v z r w gl wr) (fun _ wr => 2 * (l.length - atOf w0.heap.size wr) + lvOf gl wr)
  case atStart => exact ⟨_, _, _, _, _, _, F2.out, P2.out, L2.out, HWAY.out⟩
  case round =>
    obtain ⟨lv0, tg0, j, v3, z3, r3, f3, p3, l3, way⟩ := hrel
    have F3 := Lib.hid f3
    have P3 := Lib.hid p3
    have L3 := Lib.hid l3
    have HAT := Lib.hid (at_of f3.st)
    have HLV := Lib.hid (lv_of l3.bk)
    cases way with
    | fault _ _ hT hj =>
      have HE := Lib.hid hT
      clear f3 p3 l3 hT
      obtain ⟨o0, o1⟩ := L3.out.bk.c2
      obtain ⟨r0, r1⟩ := F3.out.rb.bk.c2
      have g0 := F3.out.rb.bk.f 0
      have g1 := F3.out.rb.bk.f 1
      go_wp2
      obtain ⟨t0, t1⟩ := (F3.out.rb.bk.put2 (.int .i64 0) (.bool false)).c2
      rw [HE.out]
      exact bodyPost_ret (v := .agg #[.int .i64 0, .bool false]) (by simp [results, Tryz.results43, go_sem, t0, t1]) rfl (F3.out.bad _ _ rfl)
    | on _ _ _ _ t g hs hm hT hg hz3 =>
      have hjl := hs.2.1
      have hlv1 := hs.2.2.1
      have hij := hs.1
      have q1 : (lv0 == 0) = false := by rw [beq_eq_false_iff_ne]; omega
      have q2 : (lv0 != 0) = true := by simp; omega
      have q3 : ¬ lv0 = 0 := by omega
      have HJ := Lib.hid hjl
      have HIJ := Lib.hid hij
      have HS := Lib.hid hs
      have HM3 := Lib.hid hm
      have HT3 := Lib.hid hT
      have HG := Lib.hid hg
      have HZ3 := Lib.hid hz3
      have HNX := Lib.hid (next_any wr f3.st HC.out (by have := HL.out; omega) hjl)
      have hfk := fld_k
      obtain ⟨c, hcc⟩ : ∃ c, kd l j = c := ⟨_, rfl⟩
      rw [hcc] at HNX
      have HCC := Lib.hid hcc
      have HST := Lib.hid (fun hgo => go_stop (E := E) (l := l) (p := p) (n := g) (lv := lv0) (tg := tg0) (t := t) (i := j) hgo (by omega))
      rw [hcc] at HST
      clear f3 p3 l3 hs hm hT hg hz3 hcc hjl hlv1 hij
      cases hft : ft (ctK c) (ctO c) p with
      | false =>
        have HFT := Lib.hid (show fits (ctK c) (ctO c) p.l p.d p.i p.g p.s = false from hft)
        have HSTP := Lib.hid (HST.out (by unfold goes; rw [hft]; rfl))
        clear hft hE hOk h0
        obtain ⟨o0, o1⟩ := L3.out.bk.c2
        go_wp2_with fail
        refine HNX.out.mono ?_
        rintro e w4 ⟨rfl, b4⟩
        have F4 := Lib.hid (F3.out.quiet b4)
        have P4 := Lib.hid (P3.out.ext (Ext.of (Gr.quiet b4)))
        have L4 := Lib.hid (L3.out.ext (Ext.of (Gr.quiet b4)))
        clear b4 o0 o1
        go_wp2_with fail
        refine (continued_any _ c _).mono ?_
        rintro e w5 ⟨u, rfl, b5, nr⟩
        obtain ⟨ak, nk, ck, hu⟩ : ∃ ak nk ck, u = .slice ak nk ck := by
          rcases nr with ⟨-, h⟩ | ⟨-, q, -, h, -⟩
          · exact ⟨_, _, _, h⟩
          · exact ⟨_, _, _, h⟩
        subst hu
        have F5 := Lib.hid (F4.out.quiet b5)
        have P5 := Lib.hid (P4.out.ext (Ext.of (Gr.quiet b5)))
        have L5 := Lib.hid (L4.out.ext (Ext.of (Gr.quiet b5)))
        have S4 := Lib.hid F4.out.st
        have NR := Lib.hid nr
        have HB5 := Lib.hid b5
        clear b5 nr
        have NB6 := Lib.hid (Bk.new w5 #[.int .i64 (ctK c), .int .i64 (ctO c), .string ⟨#[]⟩, .string ⟨#[]⟩, .slice ak nk ck] 44)
        have B6 := Lib.hid (show Below w5.heap.size w5 (w5.alloc (.cells #[.int .i64 (ctK c), .int .i64 (ctO c), .string ⟨#[]⟩, .string ⟨#[]⟩, .slice ak nk ck] 44)) from (Below.refl _ _).alloc (Nat.le_refl _) _)
        have F6 := Lib.hid (F5.out.quiet B6.out)
        have P6 := Lib.hid (P5.out.ext (Ext.of (Gr.quiet B6.out)))
        have L6 := Lib.hid (L5.out.ext (Ext.of (Gr.quiet B6.out)))
        have N6 := Lib.hid (show Mb (X0 w0.heap.size) w0.heap.size w5.heap.size _ _ v3 z3 r3 _ from Mb.new F5.out.st NB6.out (Nat.le_refl _) (by have := F5.out.st.lt; unfold X0; omega))
        obtain ⟨p0, p1, p2, p3, p4⟩ := P6.out.bk.c5
        obtain ⟨n0, n1, n2, n3, n4⟩ := NB6.out.c5
        go_wp2_with fail
        clear p0 p1 p2 p3 p4 n0 n1 n2 n3 n4
        refine (_root_.Go.Proofs.YtagonpjkohidkaaGreatDoor.ps.impl_fits (ctK c) (ctO c) p.l ⟨#[]⟩ ⟨#[]⟩ ak nk ck p.d p.i p.g p.s _).mono ?_
        rw [HFT.out]
        rintro e w7 ⟨rfl, b7⟩
        have F7 := Lib.hid (F6.out.quiet b7)
        have P7 := Lib.hid (P6.out.ext (Ext.of (Gr.quiet b7)))
        have L7 := Lib.hid (L6.out.ext (Ext.of (Gr.quiet b7)))
        have N7 := Lib.hid (N6.out.ext (Ext.of (Gr.quiet b7)))
        have HB7 := Lib.hid b7
        clear b7
        obtain ⟨o0, o1⟩ := L7.out.bk.c2
        obtain ⟨r0, r1⟩ := F7.out.rb.bk.c2
        have g0 := F7.out.rb.bk.f 0
        have g1 := F7.out.rb.bk.f 1
        go_wp2
        obtain ⟨t0, t1⟩ := (F7.out.rb.bk.put2 (.int .i64 lv0) (.bool tg0)).c2
        rw [HT3.out, HSTP.out]
        exact bodyPost_ret (v := .agg #[.int .i64 lv0, .bool tg0]) (by simp [results, Tryz.results43, go_sem, t0, t1]) rfl (F7.out.ok _ _ rfl HM3.out)
      | true =>
        have HFT := Lib.hid (show fits (ctK c) (ctO c) p.l p.d p.i p.g p.s = true from hft)
        have hk0 : ¬ ctK c = 0 := fun h => by have := fits_level hft; rw [h] at this; simp [lv.levelOf] at this
        have HKN := Lib.hid (show knC c = ctN c from if_neg hk0)
        cases hmy : may c lv0 tg0 p with
        | false =>
          have HMY := Lib.hid hmy
          have HSTP := Lib.hid (HST.out (by unfold goes; rw [hft, hmy]; rfl))
          clear hft hmy hk0 hE hOk h0
          obtain ⟨o0, o1⟩ := L3.out.bk.c2
          go_wp2_with fail
          refine HNX.out.mono ?_
          rintro e w4 ⟨rfl, b4⟩
          have F4 := Lib.hid (F3.out.quiet b4)
          have P4 := Lib.hid (P3.out.ext (Ext.of (Gr.quiet b4)))
          have L4 := Lib.hid (L3.out.ext (Ext.of (Gr.quiet b4)))
          clear b4 o0 o1
          go_wp2_with fail
          refine (continued_any _ c _).mono ?_
          rintro e w5 ⟨u, rfl, b5, nr⟩
          obtain ⟨ak, nk, ck, hu⟩ : ∃ ak nk ck, u = .slice ak nk ck := by
            rcases nr with ⟨-, h⟩ | ⟨-, q, -, h, -⟩
            · exact ⟨_, _, _, h⟩
            · exact ⟨_, _, _, h⟩
          subst hu
          have F5 := Lib.hid (F4.out.quiet b5)
          have P5 := Lib.hid (P4.out.ext (Ext.of (Gr.quiet b5)))
          have L5 := Lib.hid (L4.out.ext (Ext.of (Gr.quiet b5)))
          have S4 := Lib.hid F4.out.st
          have NR := Lib.hid nr
          have HB5 := Lib.hid b5
          clear b5 nr
          have NB6 := Lib.hid (Bk.new w5 #[.int .i64 (ctK c), .int .i64 (ctO c), .string ⟨#[]⟩, .string ⟨#[]⟩, .slice ak nk ck] 44)
          have B6 := Lib.hid (show Below w5.heap.size w5 (w5.alloc (.cells #[.int .i64 (ctK c), .int .i64 (ctO c), .string ⟨#[]⟩, .string ⟨#[]⟩, .slice ak nk ck] 44)) from (Below.refl _ _).alloc (Nat.le_refl _) _)
          have F6 := Lib.hid (F5.out.quiet B6.out)
          have P6 := Lib.hid (P5.out.ext (Ext.of (Gr.quiet B6.out)))
          have L6 := Lib.hid (L5.out.ext (Ext.of (Gr.quiet B6.out)))
          have N6 := Lib.hid (show Mb (X0 w0.heap.size) w0.heap.size w5.heap.size _ _ v3 z3 r3 _ from Mb.new F5.out.st NB6.out (Nat.le_refl _) (by have := F5.out.st.lt; unfold X0; omega))
          obtain ⟨p0, p1, p2, p3, p4⟩ := P6.out.bk.c5
          obtain ⟨n0, n1, n2, n3, n4⟩ := NB6.out.c5
          go_wp2_with fail
          clear p0 p1 p2 p3 p4 n0 n1 n2 n3 n4
          refine (_root_.Go.Proofs.YtagonpjkohidkaaGreatDoor.ps.impl_fits (ctK c) (ctO c) p.l ⟨#[]⟩ ⟨#[]⟩ ak nk ck p.d p.i p.g p.s _).mono ?_
          rw [HFT.out]
          rintro e w7 ⟨rfl, b7⟩
          have F7 := Lib.hid (F6.out.quiet b7)
          have P7 := Lib.hid (P6.out.ext (Ext.of (Gr.quiet b7)))
          have L7 := Lib.hid (L6.out.ext (Ext.of (Gr.quiet b7)))
          have N7 := Lib.hid (N6.out.ext (Ext.of (Gr.quiet b7)))
          have HB7 := Lib.hid b7
          clear b7
          obtain ⟨p0, p1, p2, p3, p4⟩ := P7.out.bk.c5
          obtain ⟨n0, n1, n2, n3, n4⟩ := N7.out.bk.c5
          obtain ⟨o0, o1⟩ := L7.out.bk.c2
          go_wp2_with fail
          clear p0 p1 p2 p3 p4 n0 n1 n2 n3 n4 o0 o1
          have hnk : nk = ctN c := by
            rcases NR.out with ⟨h, -⟩ | ⟨-, q, -, h, -⟩
            · exact absurd h (by rw [HKN.out]; unfold ctN; (repeat' split) <;> decide)
            · injection h with h1 h2 h3; rw [h2, HKN.out]
          refine (mbf_any lv0 tg0 c ak nk ck p hnk _).mono ?_
          rw [HMY.out]
          rintro e w8 ⟨rfl, b8⟩
          have F8 := Lib.hid (F7.out.quiet b8)
          have P8 := Lib.hid (P7.out.ext (Ext.of (Gr.quiet b8)))
          have L8 := Lib.hid (L7.out.ext (Ext.of (Gr.quiet b8)))
          have N8 := Lib.hid (N7.out.ext (Ext.of (Gr.quiet b8)))
          have HB8 := Lib.hid b8
          clear b8
          obtain ⟨o0, o1⟩ := L8.out.bk.c2
          obtain ⟨r0, r1⟩ := F8.out.rb.bk.c2
          have g0 := F8.out.rb.bk.f 0
          have g1 := F8.out.rb.bk.f 1
          go_wp2
          obtain ⟨t0, t1⟩ := (F8.out.rb.bk.put2 (.int .i64 lv0) (.bool tg0)).c2
          rw [HT3.out, HSTP.out]
          exact bodyPost_ret (v := .agg #[.int .i64 lv0, .bool tg0]) (by simp [results, Tryz.results43, go_sem, t0, t1]) rfl (F8.out.ok _ _ rfl HM3.out)
        | true =>
          have HMY := Lib.hid hmy
          have HGO := Lib.hid (show goes c lv0 tg0 p = true by unfold goes; rw [hft, hmy]; rfl)
          clear hft hmy
          obtain ⟨o0, o1⟩ := L3.out.bk.c2
          go_wp2_with fail
          refine HNX.out.mono ?_
          rintro e w4 ⟨rfl, b4⟩
          have F4 := Lib.hid (F3.out.quiet b4)
          have P4 := Lib.hid (P3.out.ext (Ext.of (Gr.quiet b4)))
          have L4 := Lib.hid (L3.out.ext (Ext.of (Gr.quiet b4)))
          clear b4 o0 o1
          go_wp2_with fail
          refine (continued_any _ c _).mono ?_
          rintro e w5 ⟨u, rfl, b5, nr⟩
          obtain ⟨ak, nk, ck, hu⟩ : ∃ ak nk ck, u = .slice ak nk ck := by
            rcases nr with ⟨-, h⟩ | ⟨-, q, -, h, -⟩
            · exact ⟨_, _, _, h⟩
            · exact ⟨_, _, _, h⟩
          subst hu
          have F5 := Lib.hid (F4.out.quiet b5)
          have P5 := Lib.hid (P4.out.ext (Ext.of (Gr.quiet b5)))
          have L5 := Lib.hid (L4.out.ext (Ext.of (Gr.quiet b5)))
          have S4 := Lib.hid F4.out.st
          have NR := Lib.hid nr
          have HB5 := Lib.hid b5
          clear b5 nr
          have NB6 := Lib.hid (Bk.new w5 #[.int .i64 (ctK c), .int .i64 (ctO c), .string ⟨#[]⟩, .string ⟨#[]⟩, .slice ak nk ck] 44)
          have B6 := Lib.hid (show Below w5.heap.size w5 (w5.alloc (.cells #[.int .i64 (ctK c), .int .i64 (ctO c), .string ⟨#[]⟩, .string ⟨#[]⟩, .slice ak nk ck] 44)) from (Below.refl _ _).alloc (Nat.le_refl _) _)
          have F6 := Lib.hid (F5.out.quiet B6.out)
          have P6 := Lib.hid (P5.out.ext (Ext.of (Gr.quiet B6.out)))
          have L6 := Lib.hid (L5.out.ext (Ext.of (Gr.quiet B6.out)))
          have N6 := Lib.hid (show Mb (X0 w0.heap.size) w0.heap.size w5.heap.size _ _ v3 z3 r3 _ from Mb.new F5.out.st NB6.out (Nat.le_refl _) (by have := F5.out.st.lt; unfold X0; omega))
          obtain ⟨p0, p1, p2, p3, p4⟩ := P6.out.bk.c5
          obtain ⟨n0, n1, n2, n3, n4⟩ := NB6.out.c5
          go_wp2_with fail
          clear p0 p1 p2 p3 p4 n0 n1 n2 n3 n4
          refine (_root_.Go.Proofs.YtagonpjkohidkaaGreatDoor.ps.impl_fits (ctK c) (ctO c) p.l ⟨#[]⟩ ⟨#[]⟩ ak nk ck p.d p.i p.g p.s _).mono ?_
          rw [HFT.out]
          rintro e w7 ⟨rfl, b7⟩
          have F7 := Lib.hid (F6.out.quiet b7)
          have P7 := Lib.hid (P6.out.ext (Ext.of (Gr.quiet b7)))
          have L7 := Lib.hid (L6.out.ext (Ext.of (Gr.quiet b7)))
          have N7 := Lib.hid (N6.out.ext (Ext.of (Gr.quiet b7)))
          have HB7 := Lib.hid b7
          clear b7
          obtain ⟨p0, p1, p2, p3, p4⟩ := P7.out.bk.c5
          obtain ⟨n0, n1, n2, n3, n4⟩ := N7.out.bk.c5
          obtain ⟨o0, o1⟩ := L7.out.bk.c2
          go_wp2_with fail
          clear p0 p1 p2 p3 p4 n0 n1 n2 n3 n4 o0 o1
          have hnk : nk = ctN c := by
            rcases NR.out with ⟨h, -⟩ | ⟨-, q, -, h, -⟩
            · exact absurd h (by rw [HKN.out]; unfold ctN; (repeat' split) <;> decide)
            · injection h with h1 h2 h3; rw [h2, HKN.out]
          refine (mbf_any lv0 tg0 c ak nk ck p hnk _).mono ?_
          rw [HMY.out]
          rintro e w8 ⟨rfl, b8⟩
          have F8 := Lib.hid (F7.out.quiet b8)
          have P8 := Lib.hid (P7.out.ext (Ext.of (Gr.quiet b8)))
          have L8 := Lib.hid (L7.out.ext (Ext.of (Gr.quiet b8)))
          have N8 := Lib.hid (N7.out.ext (Ext.of (Gr.quiet b8)))
          have HB8 := Lib.hid b8
          clear b8
          rcases NR.out with ⟨h, -⟩ | ⟨-, q, hq1, hq2, ib⟩
          · exact absurd h (by rw [HKN.out]; unfold ctN; (repeat' split) <;> decide)
          obtain ⟨mm, hmm⟩ : ∃ mm, ctN c = mm + 1 := ⟨ctN c - 1, by unfold ctN; (repeat' split) <;> rfl⟩
          rw [HKN.out, hmm] at hq2 ib
          injection hq2 with hq2 hq3 hq4
          subst hq2; subst hq3; subst hq4
          have HMM1 := Lib.hid hmm
          have hmm3 : mm ≤ 2 := by have : ctN c ≤ 3 := by unfold ctN; (repeat' split) <;> decide
                                   omega
          have HM2 := Lib.hid hmm3
          have HQ1 := Lib.hid hq1
          have HQ5 := Lib.hid ib.lt
          have hq8 : q < w8.heap.size := Nat.lt_of_lt_of_le ib.lt (Nat.le_trans B6.out.size (Nat.le_trans HB7.out.size HB8.out.size))
          have HQ8 := Lib.hid hq8
          have ib8 : IBlk w8 q (mm + 1) (zs (mm + 1)) := ((ib.of_block (B6.out.block _ ib.lt)).of_block (HB7.out.block _ (Nat.lt_of_lt_of_le ib.lt B6.out.size))).of_block (HB8.out.block _ (Nat.lt_of_lt_of_le ib.lt (Nat.le_trans B6.out.size HB7.out.size)))
          have IB8 := Lib.hid ib8
          have hz0 : 0 < z3.length := by
            have h2 := congrArg List.length HM3.out
            simp only [List.length_map, List.length_append] at h2
            have := HS.out.2.2.2.2.1
            omega
          have HROOT := Lib.hid (fun W2 (s9 : St w0 a l.length cap j v3 z3 r3 W2) => root_any W2 s9 hz0 (by have := HZ3.out; omega))
          obtain ⟨ZV, hZV⟩ : ∃ ZV, ZV = ((z3.length : Int) - 1) := ⟨_, rfl⟩
          rw [← hZV] at HROOT
          have HKS := Lib.hid (show (zs (mm + 1)).set 0 ZV = G2 (z.map (·.1)).length [t] ++ zs mm by
            have h1 := kid_set (z.map (·.1)).length [] t mm (by have := HZL.out; have := HS.out.2.2.2.1; have := HL.out; have := HS.out.1; have := HJ.out; simp only [nd.sumL]; omega)
            rw [G2_nil, List.nil_append, List.nil_append] at h1
            rw [← h1, hZV]
            have h2 : z3.length = (z.map (·.1)).length + (G1 (z.map (·.1)).length [t]).length := by
              rw [G_one]
              have := congrArg List.length HM3.out
              simpa using this
            rw [h2]
            rfl)
          obtain ⟨n0, n1, n2, n3, n4⟩ := N8.out.bk.c5
          have d0 := ib8.at 0 (by simp [zs])
          have d1 := ib8.frozen 0
          have hd : (zs (mm + 1))[0]'(by simp [zs]) = 0 := by simp [zs]
          rw [hd] at d0
          have hmi : (0 : Int) < ((mm : Int) + 1) := by omega
          have hmn : 0 < mm + 1 := by omega
          clear hz0 hZV hq1 hq8 ib ib8 hnk hk0 hd hmm hmm3
          go_wp2
          go_region_law (first | (go_simp; go_at_call 93; refine (HROOT.out _ (by first | exact F8.out.st | exact F8.out.st.drew)).mono ?_; rintro e w9 ⟨rfl, rfl⟩))
          all_goals
            clear n0 n1 n2 n3 n4 d0 d1
            have hqb : w0.heap.size < q := by have := F4.out.st.lt; have := HQ1.out; omega
            have hqv : v3.ownBlock ≠ some q := fun e => F4.out.st.new (Nat.le_of_lt HQ1.out) e.symm
            have hqr : ∀ k, k < z3.length → r3 k ≠ q := fun k hk => by have := F4.out.st.own.lt k hk; have := HQ1.out; omega
            obtain ⟨W9, hW9⟩ : ∃ W9, W9 = w8.drew.setCell ⟨q, 0, none⟩ (.int .i64 ZV) := ⟨_, rfl⟩
            have hs9 : St w0 a l.length cap j v3 z3 r3 W9 := by rw [hW9]; exact F8.out.st.drew.oset (by omega) (fun e => hqv e.symm) hqr (Nat.le_of_lt hqb) 0 _
            have he9 : Ext (Xq w0.heap.size q) v3 z3 r3 w8 v3 z3 r3 W9 := by rw [hW9]; exact Ext.of (Gr.set (X := Xq w0.heap.size q) (Gr.quiet ((Below.refl _ w8).drew)) (.inl (show Xq w0.heap.size q q from Or.inr rfl)) 0 _)
            have hws : w.heap.size + 1 < q := Nat.lt_trans F4.out.rb.bk.lt HQ1.out
            have HWS := Lib.hid hws
            have HGQ := Lib.hid (show gl < q from Nat.lt_trans L4.out.bk.lt HQ1.out)
            have HNQ := Lib.hid (show w5.heap.size ≠ q by have := HQ5.out; omega)
            have F9 := Lib.hid (F8.out.goq hs9 he9 (by omega) (by omega))
            have P9 := Lib.hid (P8.out.extq he9 (by omega))
            have L9 := Lib.hid (L8.out.extq he9 (by have := HGQ.out; omega))
            have N9 := Lib.hid (N8.out.extq he9 HNQ.out)
            have HQ9 := Lib.hid (show q < W9.heap.size by rw [hW9]; simpa using HQ8.out)
            have X9 := Lib.hid (show Rw w0.heap.size q (.slice (some ⟨q, 0, none⟩) (mm + 1) (mm + 1)) (G2 (z.map (·.1)).length [t] ++ zs mm) v3 z3 r3 W9 from .inr ⟨.inr ⟨mm + 1, by rw [← HKS.out]; simp [zs], by rw [← HKS.out, hW9]; exact (IB8.out.of_block (w' := w8.drew) rfl).set 0 ZV, by omega, by have := HM2.out; unfold maxLen; omega⟩, HQ9.out, hqr, hqv, hqb⟩)
            first | rw [← hW9] | rw [show (w8.setCell ⟨q, 0, none⟩ (.int .i64 ZV)).drew = w8.drew.setCell ⟨q, 0, none⟩ (.int .i64 ZV) from rfl, ← hW9]
            clear hW9 hs9 he9 hws hqb hqv hqr
            have HM9 := Lib.hid (show z3.map (·.1) = z.map (·.1) ++ G1 (z.map (·.1)).length [t] by rw [G_one]; exact HM3.out)
            -- what comes behind the method's call
            have HNEXT := Lib.hid (fun (ww : World) (h : Res w0 a l.length cap (z.map (·.1)) (Xq w0.heap.size q) v3 z3 r3 W9 (pe.step E l c p t j) (.returned (.agg #[.int .i64 (lvR (pe.step E l c p t j)), .bool (tgR (pe.step E l c p t j))])) ww) => expr_next hOk HMM.out (show l.length ≤ 100000 by have := HL.out; omega) HCC.out HS.out HGO.out HT3.out HG.out HZL.out F9.out P9.out L9.out h (by have := HWS.out; omega) (by have := HWS.out; omega) (by have := HGQ.out; omega) (by have := HWS.out; omega) HGL.out)
            rcases cls c with h | h | h | h | h | h | ⟨h, -⟩
            · have e1 : ctK c = 15 := (asg_c h).1
              have e2 : ctO c = c := (asg_c h).2.1
              have e3 : mm = 1 := by have := HMM1.out; rw [(asg_c h).2.2] at this; omega
              have HR := Lib.hid (show pe.step E l c p t j = rd2 E 15 c p t (behind l c j) by unfold pe.step; rw [if_pos h])
              have hlt := kd_lt (l := l) (i := j) (by rw [HCC.out]; intro hh; rw [hh] at h; exact absurd h (by decide))
              have X10 := X9.out
              rw [show mm = 1 from e3] at X10
              rw [show rdC (.pointer (some ⟨w0.heap.size, 0, none⟩)) c = .func (.func 145) #[.pointer (some ⟨w0.heap.size, 0, none⟩)] #[] from if_pos h]
              have N10 : Mb (X0 w0.heap.size) w0.heap.size w5.heap.size #[.int .i64 15, .int .i64 c, .string ⟨#[]⟩, .string ⟨#[]⟩, .slice (some ⟨q, 0, none⟩) 2 2] 44 v3 z3 r3 W9 := by have h := N9.out; rw [e1, e2, e3] at h; exact h
              obtain ⟨n0, n1, n2, n3, n4⟩ := N10.bk.c5
              obtain ⟨p0, p1, p2, p3, p4⟩ := P9.out.bk.c5
              obtain ⟨o0, o1⟩ := L9.out.bk.c2
              have og0 := L9.out.bk.f 0
              have og1 := L9.out.bk.f 1
              clear N10
              go_wp2_with fail
              clear n0 n1 n2 n3 n4 p0 p1 p2 p3 p4 o0 o1 og0 og1
              refine (binary_any hE hOk 15 c ⟨#[]⟩ rfl t (by have := HIJ.out; omega) (z.map (·.1)) (.slice (some ⟨q, 0, none⟩) 2 2) q p _ hlt HL.out HC.out HZ3.out F9.out.st HQ9.out X10 HM9.out).mono ?_
              rintro e w10 h10
              rw [← HR.out] at h10
              obtain ⟨rfl, hv10⟩ := id h10
              obtain ⟨hrel9, hms9, hL10⟩ := HNEXT.out w10 h10
              obtain ⟨o0, o1⟩ := hL10.c2
              have og0 := hL10.f 0
              have og1 := hL10.f 1
              clear h10 hv10
              go_wp2
              go_roundw
              case rel => exact hrel9
              case measure => rw [HAT.out, HLV.out, if_neg q3]; exact hms9
            · have e1 : ctK c = 10 := (inc_c h).1
              have e2 : ctO c = c := (inc_c h).2.1
              have e3 : mm = 0 := by have := HMM1.out; rw [(inc_c h).2.2] at this; omega
              have hA : isAsg c = false := by rcases inc_vals h with rfl | rfl <;> rfl
              have HR := Lib.hid (show pe.step E l c p t j = fin 10 c ⟨#[]⟩ [t] (j + 1) by unfold pe.step; rw [if_neg (by rw [hA]; decide), if_pos h])
              have hlt := kd_lt (l := l) (i := j) (by rw [HCC.out]; intro hh; rw [hh] at h; exact absurd h (by decide))
              have X10 := X9.out
              rw [show mm = 0 from e3] at X10
              have X11 : Rw w0.heap.size q (.slice (some ⟨q, 0, none⟩) 1 1) (G2 (z.map (·.1)).length [t]) v3 z3 r3 W9 := by simpa [zs] using X10
              rw [show rdC (.pointer (some ⟨w0.heap.size, 0, none⟩)) c = .func (.func 146) #[.pointer (some ⟨w0.heap.size, 0, none⟩)] #[] from by unfold rdC; rw [if_neg (by rw [hA]; decide), if_pos h]]
              have N10 : Mb (X0 w0.heap.size) w0.heap.size w5.heap.size #[.int .i64 10, .int .i64 c, .string ⟨#[]⟩, .string ⟨#[]⟩, .slice (some ⟨q, 0, none⟩) 1 1] 44 v3 z3 r3 W9 := by have h := N9.out; rw [e1, e2, e3] at h; exact h
              obtain ⟨n0, n1, n2, n3, n4⟩ := N10.bk.c5
              obtain ⟨p0, p1, p2, p3, p4⟩ := P9.out.bk.c5
              obtain ⟨o0, o1⟩ := L9.out.bk.c2
              have og0 := L9.out.bk.f 0
              have og1 := L9.out.bk.f 1
              clear N10
              go_wp2_with fail
              clear n0 n1 n2 n3 n4 p0 p1 p2 p3 p4 o0 o1 og0 og1
              refine (post_any c ⟨#[]⟩ rfl (z.map (·.1)) [t] (.slice (some ⟨q, 0, none⟩) 1 1) q p _ hlt HL.out HC.out HZ3.out F9.out.st HQ9.out X11 HM9.out).mono ?_
              rintro e w10 h10
              rw [← HR.out] at h10
              obtain ⟨rfl, hv10⟩ := id h10
              obtain ⟨hrel9, hms9, hL10⟩ := HNEXT.out w10 h10
              obtain ⟨o0, o1⟩ := hL10.c2
              have og0 := hL10.f 0
              have og1 := hL10.f 1
              clear h10 hv10
              go_wp2
              go_roundw
              case rel => exact hrel9
              case measure => rw [HAT.out, HLV.out, if_neg q3]; exact hms9
            · subst h
              have e1 : ctK 65 = 14 := rfl
              have e2 : ctO 65 = 0 := rfl
              have e3 : mm = 2 := by have := HMM1.out; rw [show ctN 65 = 3 from rfl] at this; omega
              have HR := Lib.hid (show pe.step E l 65 p t j = pe.cond E l p t j from rfl)
              have hlt := kd_lt (l := l) (i := j) (by rw [HCC.out]; decide)
              have X10 := X9.out
              rw [show mm = 2 from e3] at X10
              rw [show rdC (.pointer (some ⟨w0.heap.size, 0, none⟩)) 65 = .func (.func 147) #[.pointer (some ⟨w0.heap.size, 0, none⟩)] #[] from rfl]
              have N10 : Mb (X0 w0.heap.size) w0.heap.size w5.heap.size #[.int .i64 14, .int .i64 0, .string ⟨#[]⟩, .string ⟨#[]⟩, .slice (some ⟨q, 0, none⟩) 3 3] 44 v3 z3 r3 W9 := by have h := N9.out; rw [e1, e2, e3] at h; exact h
              obtain ⟨n0, n1, n2, n3, n4⟩ := N10.bk.c5
              obtain ⟨p0, p1, p2, p3, p4⟩ := P9.out.bk.c5
              obtain ⟨o0, o1⟩ := L9.out.bk.c2
              have og0 := L9.out.bk.f 0
              have og1 := L9.out.bk.f 1
              clear N10
              go_wp2_with fail
              clear n0 n1 n2 n3 n4 p0 p1 p2 p3 p4 o0 o1 og0 og1
              refine (cond_any hE hOk ⟨#[]⟩ rfl t (by have := HIJ.out; omega) (z.map (·.1)) (.slice (some ⟨q, 0, none⟩) 3 3) q p _ hlt HL.out HC.out HZ3.out F9.out.st HQ9.out X10 HM9.out).mono ?_
              rintro e w10 h10
              rw [← HR.out] at h10
              obtain ⟨rfl, hv10⟩ := id h10
              obtain ⟨hrel9, hms9, hL10⟩ := HNEXT.out w10 h10
              obtain ⟨o0, o1⟩ := hL10.c2
              have og0 := hL10.f 0
              have og1 := hL10.f 1
              clear h10 hv10
              go_wp2
              go_roundw
              case rel => exact hrel9
              case measure => rw [HAT.out, HLV.out, if_neg q3]; exact hms9
            · subst h
              have e1 : ctK 24 = 13 := rfl
              have e2 : ctO 24 = 0 := rfl
              have e3 : mm = 0 := by have := HMM1.out; rw [show ctN 24 = 1 from rfl] at this; omega
              have HR := Lib.hid (show pe.step E l 24 p t j = inn l [t] j from rfl)
              have X10 := X9.out
              rw [show mm = 0 from e3] at X10
              have X11 : Rw w0.heap.size q (.slice (some ⟨q, 0, none⟩) 1 1) (G2 (z.map (·.1)).length [t]) v3 z3 r3 W9 := by simpa [zs] using X10
              rw [show rdC (.pointer (some ⟨w0.heap.size, 0, none⟩)) 24 = .func (.func 148) #[.pointer (some ⟨w0.heap.size, 0, none⟩)] #[] from rfl]
              have N10 : Mb (X0 w0.heap.size) w0.heap.size w5.heap.size #[.int .i64 13, .int .i64 0, .string ⟨#[]⟩, .string ⟨#[]⟩, .slice (some ⟨q, 0, none⟩) 1 1] 44 v3 z3 r3 W9 := by have h := N9.out; rw [e1, e2, e3] at h; exact h
              obtain ⟨n0, n1, n2, n3, n4⟩ := N10.bk.c5
              obtain ⟨p0, p1, p2, p3, p4⟩ := P9.out.bk.c5
              obtain ⟨o0, o1⟩ := L9.out.bk.c2
              have og0 := L9.out.bk.f 0
              have og1 := L9.out.bk.f 1
              clear N10
              go_wp2_with fail
              clear n0 n1 n2 n3 n4 p0 p1 p2 p3 p4 o0 o1 og0 og1
              refine (in_any ⟨#[]⟩ (z.map (·.1)) [t] (.slice (some ⟨q, 0, none⟩) 1 1) q p _ HJ.out HL.out HC.out HZ3.out F9.out.st HQ9.out X11 HM9.out).mono ?_
              rintro e w10 h10
              rw [← HR.out] at h10
              obtain ⟨rfl, hv10⟩ := id h10
              obtain ⟨hrel9, hms9, hL10⟩ := HNEXT.out w10 h10
              obtain ⟨o0, o1⟩ := hL10.c2
              have og0 := hL10.f 0
              have og1 := hL10.f 1
              clear h10 hv10
              go_wp2
              go_roundw
              case rel => exact hrel9
              case measure => rw [HAT.out, HLV.out, if_neg q3]; exact hms9
            · have e1 : ctK c = 12 := (beg_c h).1
              have e2 : ctO c = 99 := (beg_c h).2.1
              have e3 : mm = 1 := by have := HMM1.out; rw [(beg_c h).2.2.1] at this; omega
              have hvs := beg_vals h
              have hA : isAsg c = false := by rcases hvs with rfl | rfl | rfl | rfl | rfl | rfl | rfl <;> rfl
              have hI : isInc c = false := by rcases hvs with rfl | rfl | rfl | rfl | rfl | rfl | rfl <;> rfl
              have HR := Lib.hid (show pe.step E l c p t j = rd2 E 12 99 p t j by unfold pe.step; rw [if_neg (by rw [hA]; decide), if_neg (by rw [hI]; decide), if_neg (by omega), if_neg (by omega), if_pos h])
              have X10 := X9.out
              rw [show mm = 1 from e3] at X10
              rw [show rdC (.pointer (some ⟨w0.heap.size, 0, none⟩)) c = .func (.func 150) #[.pointer (some ⟨w0.heap.size, 0, none⟩)] #[] from by unfold rdC; rw [if_neg (by rw [hA]; decide), if_neg (by rw [hI]; decide), if_neg (by omega), if_neg (by omega), if_pos h]]
              have N10 : Mb (X0 w0.heap.size) w0.heap.size w5.heap.size #[.int .i64 12, .int .i64 99, .string ⟨#[]⟩, .string ⟨#[]⟩, .slice (some ⟨q, 0, none⟩) 2 2] 44 v3 z3 r3 W9 := by have h := N9.out; rw [e1, e2, e3] at h; exact h
              obtain ⟨n0, n1, n2, n3, n4⟩ := N10.bk.c5
              obtain ⟨p0, p1, p2, p3, p4⟩ := P9.out.bk.c5
              obtain ⟨o0, o1⟩ := L9.out.bk.c2
              have og0 := L9.out.bk.f 0
              have og1 := L9.out.bk.f 1
              clear N10
              go_wp2_with fail
              clear n0 n1 n2 n3 n4 p0 p1 p2 p3 p4 o0 o1 og0 og1
              refine (cat_any hE hOk 12 99 ⟨#[]⟩ rfl t (by have := HIJ.out; omega) (z.map (·.1)) (.slice (some ⟨q, 0, none⟩) 2 2) q p _ HJ.out HL.out HC.out HZ3.out F9.out.st HQ9.out X10 HM9.out).mono ?_
              rintro e w10 h10
              rw [← HR.out] at h10
              obtain ⟨rfl, hv10⟩ := id h10
              obtain ⟨hrel9, hms9, hL10⟩ := HNEXT.out w10 h10
              obtain ⟨o0, o1⟩ := hL10.c2
              have og0 := hL10.f 0
              have og1 := hL10.f 1
              clear h10 hv10
              go_wp2
              go_roundw
              case rel => exact hrel9
              case measure => rw [HAT.out, HLV.out, if_neg q3]; exact hms9
            · have e1 : ctK c = 12 := (op_c h).1
              have e2 : ctO c = c := (op_c h).2.1
              have e3 : mm = 1 := by have := HMM1.out; rw [(op_c h).2.2] at this; omega
              have hvs := op_vals h
              have hA : isAsg c = false := by rcases hvs with rfl | rfl | rfl | rfl | rfl | rfl | rfl | rfl | rfl | rfl | rfl | rfl | rfl | rfl | rfl | rfl | rfl <;> rfl
              have hI : isInc c = false := by rcases hvs with rfl | rfl | rfl | rfl | rfl | rfl | rfl | rfl | rfl | rfl | rfl | rfl | rfl | rfl | rfl | rfl | rfl <;> rfl
              have hBg : operand.begins c = false := by rcases hvs with rfl | rfl | rfl | rfl | rfl | rfl | rfl | rfl | rfl | rfl | rfl | rfl | rfl | rfl | rfl | rfl | rfl <;> rfl
              have HR := Lib.hid (show pe.step E l c p t j = rd2 E 12 c p t (behind l c j) by unfold pe.step; rw [if_neg (by rw [hA]; decide), if_neg (by rw [hI]; decide), if_neg (by omega), if_neg (by omega), if_neg (by rw [hBg]; decide)])
              have hlt := kd_lt (l := l) (i := j) (by rw [HCC.out]; omega)
              have X10 := X9.out
              rw [show mm = 1 from e3] at X10
              rw [show rdC (.pointer (some ⟨w0.heap.size, 0, none⟩)) c = .func (.func 145) #[.pointer (some ⟨w0.heap.size, 0, none⟩)] #[] from by unfold rdC; rw [if_neg (by rw [hA]; decide), if_neg (by rw [hI]; decide), if_neg (by omega), if_neg (by omega), if_neg (by rw [hBg]; decide), if_pos h]]
              have N10 : Mb (X0 w0.heap.size) w0.heap.size w5.heap.size #[.int .i64 12, .int .i64 c, .string ⟨#[]⟩, .string ⟨#[]⟩, .slice (some ⟨q, 0, none⟩) 2 2] 44 v3 z3 r3 W9 := by have h := N9.out; rw [e1, e2, e3] at h; exact h
              obtain ⟨n0, n1, n2, n3, n4⟩ := N10.bk.c5
              obtain ⟨p0, p1, p2, p3, p4⟩ := P9.out.bk.c5
              obtain ⟨o0, o1⟩ := L9.out.bk.c2
              have og0 := L9.out.bk.f 0
              have og1 := L9.out.bk.f 1
              clear N10
              go_wp2_with fail
              clear n0 n1 n2 n3 n4 p0 p1 p2 p3 p4 o0 o1 og0 og1
              refine (binary_any hE hOk 12 c ⟨#[]⟩ rfl t (by have := HIJ.out; omega) (z.map (·.1)) (.slice (some ⟨q, 0, none⟩) 2 2) q p _ hlt HL.out HC.out HZ3.out F9.out.st HQ9.out X10 HM9.out).mono ?_
              rintro e w10 h10
              rw [← HR.out] at h10
              obtain ⟨rfl, hv10⟩ := id h10
              obtain ⟨hrel9, hms9, hL10⟩ := HNEXT.out w10 h10
              obtain ⟨o0, o1⟩ := hL10.c2
              have og0 := hL10.f 0
              have og1 := hL10.f 1
              clear h10 hv10
              go_wp2
              go_roundw
              case rel => exact hrel9
              case measure => rw [HAT.out, HLV.out, if_neg q3]; exact hms9
            · exact absurd (show ft (ctK c) (ctO c) p = true from HFT.out) (by rw [h]; unfold ft fits; rw [show lv.levelOf 0 (ctO c) = 0 from by simp [lv.levelOf]]; simp)

/-- expr, whatever it is asked: by the fuel. -/
theorem expr_all (hM : ∀ t ∈ l, t.s.size ≤ M) (hl : l.length ≤ 50000) (hc : tk.Lies w0.heap.size w0 a l) : ∀ f i0, l.length - i0 < f → CallE w0 a cap l (ex l f) i0 := by
  intro f
  induction f with
  | zero => intro i0 h; omega
  | succ f ih =>
    intro i0 h p i v z r w hi0 hi hz hst
    have hE : CallE w0 a cap l (ex l f) (i + 1) := by
      rcases Nat.lt_or_ge i l.length with h1 | h1
      · exact ih (i + 1) (by omega)
      · intro p' i' v' z' r' w' h2 h3; omega
    exact expr_step hM hE (ex_ok hM (by omega) f) p w (Nat.le_refl _) hi hl hc hz hst
end
end Go.Proofs.YtagonpjkohidkaaGreatDoor.pr
