/-
  impl's exprParser: in, post, cat, prefixed, pre, binary, cond: contracts.
-/
import Derived.Test.YtiilpnoaocfjgaaGreatDoorPeFx
namespace Go.Proofs.YtiilpnoaocfjgaaGreatDoor.pr
open Go.ChangeShapes Go.WideShapes Go.ChangeAt Go.RowKit
open tk (Tk)
open nd (Nd PT KidV IBlk OwnI shN makeT)
open ps (Ps B5 posOk kidI top)
open pe
set_option linter.unusedVariables false
set_option linter.unusedSimpArgs false
set_option maxRecDepth 20000

section
variable {w0 : World} {l : List Tk} {a : Option Addr} {cap i : Nat} {v : Value} {z : List (Nd × Value)} {r : Nat → Nat} {E : Ps → Nat → R} {M i0 : Nat}

set_option maxHeartbeats 3200000 in
theorem kres_len {zb : List Nd} {ps : List (List Nd)} {z2 : List (Nd × Value)} {t : List Nd} {lv : Int} {tg : Bool} {j : Nat} (hzb : z.map (·.1) = zb ++ G1 zb.length ps) (m2 : z2.map (·.1) = zb ++ G1 zb.length (ps ++ [t])) (ho : Ok M l i (.ok lv tg t j)) (hz : z.length + 2 * (l.length - i) ≤ 200000) : z2.length + 2 * (l.length - j) ≤ 200000 ∧ i < j ∧ j ≤ l.length := by
  have h1 := congrArg List.length hzb
  have h2 := congrArg List.length m2
  rw [List.length_map, List.length_append, G1_len] at h1 h2
  rw [sum_snoc] at h2
  obtain ⟨o1, o2, o3, o4, o5, o6⟩ := ho
  omega
set_option maxHeartbeats 3200000 in
theorem in_any (s0 : ByteArray) (zb : List Nd) (ps : List (List Nd)) (u : Value) (q : Nat) (p : Ps) (w : World) (hi : i ≤ l.length) (hl : l.length ≤ 50000) (hc : tk.Lies w0.heap.size w0 a l) (hz : z.length + 2 * (l.length - i) ≤ 200000) (hst : St w0 a l.length cap i v z r w) (hq : q < w.heap.size) (hrw : Rw w0.heap.size q u (G2 zb.length ps) v z r w) (hzb : z.map (·.1) = zb ++ G1 zb.length ps) :
    Calls Tryz.prog 187 #[.pointer (some ⟨w0.heap.size, 0, none⟩), .agg #[.int .i64 13, .int .i64 0, .string s0, .string ⟨#[]⟩, u], .agg #[.int .i64 p.l, .bool p.d, .bool p.i, .bool p.g, .bool p.s]] w (Res w0 a l.length cap zb (Xq w0.heap.size q) v z r w (inn l ps i)) := by
  obtain ⟨W, hW⟩ : ∃ W, W = ((w.alloc (.cells #[.int .i64 13, .int .i64 0, .string s0, .string ⟨#[]⟩, u] 60)).alloc (.cells #[.int .i64 p.l, .bool p.d, .bool p.i, .bool p.g, .bool p.s] 26)).alloc (.cells #[.int .i64 0, .bool false] 87) := ⟨_, rfl⟩
  have hB : Below w.heap.size w W := by rw [hW]; exact (((Below.refl _ _).alloc (Nat.le_refl _) _).alloc (by simp) _).alloc (by simp; omega) _
  have hN : Bk w.heap.size #[.int .i64 13, .int .i64 0, .string s0, .string ⟨#[]⟩, u] 60 W := by rw [hW]; exact ((Bk.new _ _ _).alloc _).alloc _
  have hP : Bk (w.heap.size + 1) #[.int .i64 p.l, .bool p.d, .bool p.i, .bool p.g, .bool p.s] 26 W := by
    rw [hW]
    have := (Bk.new (w.alloc (.cells #[.int .i64 13, .int .i64 0, .string s0, .string ⟨#[]⟩, u] 60)) #[.int .i64 p.l, .bool p.d, .bool p.i, .bool p.g, .bool p.s] 26).alloc (.cells #[.int .i64 0, .bool false] 87)
    simpa using this
  have hR : Bk (w.heap.size + 1 + 1) #[.int .i64 0, .bool false] 87 W := by
    rw [hW]
    have := Bk.new ((w.alloc (.cells #[.int .i64 13, .int .i64 0, .string s0, .string ⟨#[]⟩, u] 60)).alloc (.cells #[.int .i64 p.l, .bool p.d, .bool p.i, .bool p.g, .bool p.s] 26)) #[.int .i64 0, .bool false] 87
    simpa using this
  have F0 := Lib.hid (Fx.start hst (xq_lt hst.lt hq) hN hP hR hB)
  have X0' := Lib.hid (hrw.quiet hB)
  have HQ := Lib.hid hq
  have HLT := Lib.hid hst.lt
  have HB0 := Lib.hid hB
  have HZB := Lib.hid hzb
  have HC := Lib.hid hc
  have HL := Lib.hid hl
  have HI := Lib.hid hi
  have HZ := Lib.hid hz
  have hXb : Xq w0.heap.size q w0.heap.size := Or.inl rfl
  have HXB := Lib.hid hXb
  have hib : i ≤ 50000 := by omega
  have HT := Lib.hid (take_any (v := v) (z := z) (r := r) 24 W F0.out.st hc (by omega) hi)
  have hfk := fld_k
  obtain ⟨c0, c1, c2⟩ := F0.out.st.c
  have f1 := F0.out.st.f 1
  obtain ⟨n0, n1, n2, n3, n4⟩ := F0.out.nb.bk.c5
  obtain ⟨p0, p1, p2, p3, p4⟩ := F0.out.pb.bk.c5
  obtain ⟨r0, r1⟩ := F0.out.rb.bk.c2
  have g0 := F0.out.rb.bk.f 0
  have g1 := F0.out.rb.bk.f 1
  by_cases h1 : kd l i = 24
  · have hA : aft l i 24 = i + 1 := if_pos h1
    rw [hA, decide_eq_true h1] at HT
    have hi1 := kd_lt (l := l) (i := i) (by omega)
    have HNX := Lib.hid (fun W2 s2 => next_any (v := v) (z := z) (r := r) (cap := cap) (i := i + 1) W2 s2 hc (by omega) hi1)
    have HI1 := Lib.hid hi1
    by_cases h2 : kd l (i + 1) = 6
    · rw [show inn l ps i = fin 13 0 (tx l (i + 1)) ps (i + 2) from by unfold inn; rw [if_pos h1, if_pos h2]]
      have hi2 := kd_lt (l := l) (i := i + 1) (by omega)
      have HW := Lib.hid (fun W2 s2 hq2 hr2 => word_any (v := v) (z := z) (r := r) (cap := cap) (i := i + 1) 13 0 s0 zb ps u q p W2 hi2 HL.out HC.out (by have := HZ.out; omega) s2 hq2 hr2 HZB.out)
      rw [h2] at HNX
      clear h1 h2 hA hi1 hi2
      clear hst hB hrw hzb hz hi hl hc hq hN hP hR hXb
      rw [hW] at c0 c1 c2 f1 n0 n1 n2 n3 n4 p0 p1 p2 p3 p4 r0 r1 g0 g1
      go_enter Tryz.func187, Tryz.ntmps187
      go_wp2_with fail
      rw [← hW]
      clear c0 c1 c2 f1 n0 n1 n2 n3 n4 p0 p1 p2 p3 p4 r0 r1 g0 g1 hW
      refine HT.out.mono ?_
      rintro e w1 ⟨rfl, s1, g1'⟩
      have F1 := Lib.hid (F0.out.take HXB.out s1 g1')
      have X1 := Lib.hid (X0'.out.take g1')
      clear s1 g1'
      go_wp2_with fail
      refine (HNX.out _ F1.out.st).mono ?_
      rintro e w2 ⟨rfl, b2⟩
      have F2 := Lib.hid (F1.out.quiet b2)
      have X2 := Lib.hid (X1.out.quiet b2)
      clear b2
      obtain ⟨c0, c1, c2⟩ := F2.out.st.c
      have f1 := F2.out.st.f 1
      obtain ⟨n0, n1, n2, n3, n4⟩ := F2.out.nb.bk.c5
      obtain ⟨p0, p1, p2, p3, p4⟩ := F2.out.pb.bk.c5
      obtain ⟨r0, r1⟩ := F2.out.rb.bk.c2
      have g0 := F2.out.rb.bk.f 0
      have g1 := F2.out.rb.bk.f 1
      go_wp2_with fail
      clear c0 c1 c2 f1 n0 n1 n2 n3 n4 p0 p1 p2 p3 p4 r0 r1 g0 g1
      refine (HW.out w2 F2.out.st (Nat.lt_of_lt_of_le HQ.out F2.out.tot.g.size) X2.out).mono ?_
      rintro e w9 h9
      obtain ⟨rfl, hv9⟩ := id h9
      have H9 := Lib.hid h9
      have R9 := Lib.hid (F2.out.rbk h9)
      obtain ⟨r0, r1⟩ := R9.out.c2
      have g0 := R9.out.f 0
      have g1 := R9.out.f 1
      clear h9 hv9
      go_wp2
      obtain ⟨t0, t1⟩ := (R9.out.put2 (.int .i64 (lvR (fin 13 0 (tx l (i + 1)) ps (i + 2)))) (.bool (tgR (fin 13 0 (tx l (i + 1)) ps (i + 2))))).c2
      exact bodyPost_ret (v := .agg #[.int .i64 (lvR (fin 13 0 (tx l (i + 1)) ps (i + 2))), .bool (tgR (fin 13 0 (tx l (i + 1)) ps (i + 2)))]) (by simp [results, Tryz.results187, go_sem, t0, t1]) rfl (F2.out.res H9.out _ _)
    · rw [show inn l ps i = .bad (i + 1) from by unfold inn; rw [if_pos h1, if_neg h2]]
      obtain ⟨c, hcc⟩ : ∃ c, kd l (i + 1) = c := ⟨_, rfl⟩
      rw [hcc] at HNX h2
      obtain ⟨q1, q2⟩ := ne_facts h2
      clear h1 h2 hA hi1 hcc
      clear hst hB hrw hzb hz hi hl hc hq hN hP hR hXb
      rw [hW] at c0 c1 c2 f1 n0 n1 n2 n3 n4 p0 p1 p2 p3 p4 r0 r1 g0 g1
      go_enter Tryz.func187, Tryz.ntmps187
      go_wp2_with fail
      rw [← hW]
      clear c0 c1 c2 f1 n0 n1 n2 n3 n4 p0 p1 p2 p3 p4 r0 r1 g0 g1 hW
      refine HT.out.mono ?_
      rintro e w1 ⟨rfl, s1, g1'⟩
      have F1 := Lib.hid (F0.out.take HXB.out s1 g1')
      clear s1 g1'
      go_wp2_with fail
      refine (HNX.out _ F1.out.st).mono ?_
      rintro e w2 ⟨rfl, b2⟩
      have F2 := Lib.hid (F1.out.quiet b2)
      clear b2
      obtain ⟨c0, c1, c2⟩ := F2.out.st.c
      have f1 := F2.out.st.f 1
      obtain ⟨n0, n1, n2, n3, n4⟩ := F2.out.nb.bk.c5
      obtain ⟨p0, p1, p2, p3, p4⟩ := F2.out.pb.bk.c5
      obtain ⟨r0, r1⟩ := F2.out.rb.bk.c2
      have g0 := F2.out.rb.bk.f 0
      have g1 := F2.out.rb.bk.f 1
      go_wp2
      obtain ⟨t0, t1⟩ := (F2.out.rb.bk.put2 (.int .i64 0) (.bool false)).c2
      exact bodyPost_ret (v := .agg #[.int .i64 0, .bool false]) (by simp [results, Tryz.results187, go_sem, t0, t1]) rfl (F2.out.bad _ _ rfl)
  · have hA : aft l i 24 = i := if_neg h1
    rw [show inn l ps i = .bad i from by unfold inn; rw [if_neg h1]]
    rw [hA, decide_eq_false h1] at HT
    clear h1 hA
    clear hst hB hrw hzb hz hi hl hc hq hN hP hR hXb
    rw [hW] at c0 c1 c2 f1 n0 n1 n2 n3 n4 p0 p1 p2 p3 p4 r0 r1 g0 g1
    go_enter Tryz.func187, Tryz.ntmps187
    go_wp2_with fail
    rw [← hW]
    clear c0 c1 c2 f1 n0 n1 n2 n3 n4 p0 p1 p2 p3 p4 r0 r1 g0 g1 hW
    refine HT.out.mono ?_
    rintro e w1 ⟨rfl, s1, g1'⟩
    have F1 := Lib.hid (F0.out.take HXB.out s1 g1')
    clear s1 g1'
    obtain ⟨c0, c1, c2⟩ := F1.out.st.c
    have f1 := F1.out.st.f 1
    obtain ⟨n0, n1, n2, n3, n4⟩ := F1.out.nb.bk.c5
    obtain ⟨p0, p1, p2, p3, p4⟩ := F1.out.pb.bk.c5
    obtain ⟨r0, r1⟩ := F1.out.rb.bk.c2
    have g0 := F1.out.rb.bk.f 0
    have g1 := F1.out.rb.bk.f 1
    go_wp2
    obtain ⟨t0, t1⟩ := (F1.out.rb.bk.put2 (.int .i64 0) (.bool false)).c2
    exact bodyPost_ret (v := .agg #[.int .i64 0, .bool false]) (by simp [results, Tryz.results187, go_sem, t0, t1]) rfl (F1.out.bad _ _ rfl)

set_option maxHeartbeats 3200000 in
theorem post_any (c : Int) (s0 : ByteArray) (hs0 : s0 = ⟨#[]⟩) (zb : List Nd) (ps : List (List Nd)) (u : Value) (q : Nat) (p : Ps) (w : World) (hi : i < l.length) (hl : l.length ≤ 50000) (hc : tk.Lies w0.heap.size w0 a l) (hz : z.length + 2 * (l.length - i) ≤ 200000) (hst : St w0 a l.length cap i v z r w) (hq : q < w.heap.size) (hrw : Rw w0.heap.size q u (G2 zb.length ps) v z r w) (hzb : z.map (·.1) = zb ++ G1 zb.length ps) :
    Calls Tryz.prog 185 #[.pointer (some ⟨w0.heap.size, 0, none⟩), .agg #[.int .i64 10, .int .i64 c, .string s0, .string ⟨#[]⟩, u], .agg #[.int .i64 p.l, .bool p.d, .bool p.i, .bool p.g, .bool p.s]] w (Res w0 a l.length cap zb (Xq w0.heap.size q) v z r w (fin 10 c ⟨#[]⟩ ps (i + 1))) := by
  subst hs0
  obtain ⟨W, hW⟩ : ∃ W, W = ((w.alloc (.cells #[.int .i64 10, .int .i64 c, .string ⟨#[]⟩, .string ⟨#[]⟩, u] 60)).alloc (.cells #[.int .i64 p.l, .bool p.d, .bool p.i, .bool p.g, .bool p.s] 26)).alloc (.cells #[.int .i64 0, .bool false] 87) := ⟨_, rfl⟩
  have hB : Below w.heap.size w W := by rw [hW]; exact (((Below.refl _ _).alloc (Nat.le_refl _) _).alloc (by simp) _).alloc (by simp; omega) _
  have hN : Bk w.heap.size #[.int .i64 10, .int .i64 c, .string ⟨#[]⟩, .string ⟨#[]⟩, u] 60 W := by rw [hW]; exact ((Bk.new _ _ _).alloc _).alloc _
  have hP : Bk (w.heap.size + 1) #[.int .i64 p.l, .bool p.d, .bool p.i, .bool p.g, .bool p.s] 26 W := by
    rw [hW]
    have := (Bk.new (w.alloc (.cells #[.int .i64 10, .int .i64 c, .string ⟨#[]⟩, .string ⟨#[]⟩, u] 60)) #[.int .i64 p.l, .bool p.d, .bool p.i, .bool p.g, .bool p.s] 26).alloc (.cells #[.int .i64 0, .bool false] 87)
    simpa using this
  have hR : Bk (w.heap.size + 1 + 1) #[.int .i64 0, .bool false] 87 W := by
    rw [hW]
    have := Bk.new ((w.alloc (.cells #[.int .i64 10, .int .i64 c, .string ⟨#[]⟩, .string ⟨#[]⟩, u] 60)).alloc (.cells #[.int .i64 p.l, .bool p.d, .bool p.i, .bool p.g, .bool p.s] 26)) #[.int .i64 0, .bool false] 87
    simpa using this
  have F0 := Lib.hid (Fx.start hst (xq_lt hst.lt hq) hN hP hR hB)
  have X0' := Lib.hid (hrw.quiet hB)
  have HQ := Lib.hid hq
  have HLT := Lib.hid hst.lt
  have HB0 := Lib.hid hB
  have HZB := Lib.hid hzb
  have HC := Lib.hid hc
  have HL := Lib.hid hl
  have HI := Lib.hid hi
  have HZ := Lib.hid hz
  have hXb : Xq w0.heap.size q w0.heap.size := Or.inl rfl
  have HXB := Lib.hid hXb
  have hib : i ≤ 50000 := by omega
  have F1 := Lib.hid (F0.out.at HXB.out)
  have X1 := Lib.hid (X0'.out.at 1 (.int .i64 ((i : Int) + 1)))
  obtain ⟨c0, c1, c2⟩ := F0.out.st.c
  have f1 := F0.out.st.f 1
  obtain ⟨n0, n1, n2, n3, n4⟩ := F0.out.nb.bk.c5
  obtain ⟨p0, p1, p2, p3, p4⟩ := F0.out.pb.bk.c5
  obtain ⟨r0, r1⟩ := F0.out.rb.bk.c2
  have g0 := F0.out.rb.bk.f 0
  have g1 := F0.out.rb.bk.f 1
  obtain ⟨c0b, c1b, c2b⟩ := F1.out.st.c
  have f1b := F1.out.st.f 1
  obtain ⟨n0b, n1b, n2b, n3b, n4b⟩ := F1.out.nb.bk.c5
  obtain ⟨p0b, p1b, p2b, p3b, p4b⟩ := F1.out.pb.bk.c5
  obtain ⟨r0b, r1b⟩ := F1.out.rb.bk.c2
  have g0b := F1.out.rb.bk.f 0
  have g1b := F1.out.rb.bk.f 1
  have HZ1 := Lib.hid (show z.length ≤ 1000000 by omega)
  clear hst hB hrw hzb hz hi hl hc hq hN hP hR hXb
  rw [hW] at c0 c1 c2 f1 n0 n1 n2 n3 n4 p0 p1 p2 p3 p4 r0 r1 g0 g1 c0b c1b c2b f1b n0b n1b n2b n3b n4b p0b p1b p2b p3b p4b r0b r1b g0b g1b
  go_enter Tryz.func185, Tryz.ntmps185
  go_wp2_with fail
  rw [← hW]
  clear c0 c1 c2 f1 n0 n1 n2 n3 n4 p0 p1 p2 p3 p4 r0 r1 g0 g1 c0b c1b c2b f1b n0b n1b n2b n3b n4b p0b p1b p2b p3b p4b r0b r1b g0b g1b hW
  refine (addR 10 c ⟨#[]⟩ zb ps u q _ F1.out.st HZ1.out X1.out HZB.out).mono ?_
  rintro e w9 h9
  obtain ⟨rfl, hv9⟩ := id h9
  have H9 := Lib.hid h9
  have R9 := Lib.hid (F1.out.rbk h9)
  obtain ⟨r0, r1⟩ := R9.out.c2
  have g0 := R9.out.f 0
  have g1 := R9.out.f 1
  clear h9 hv9
  go_wp2
  obtain ⟨t0, t1⟩ := (R9.out.put2 (.int .i64 (lvR (fin 10 c ⟨#[]⟩ ps (i + 1)))) (.bool (tgR (fin 10 c ⟨#[]⟩ ps (i + 1))))).c2
  exact bodyPost_ret (v := .agg #[.int .i64 (lvR (fin 10 c ⟨#[]⟩ ps (i + 1))), .bool (tgR (fin 10 c ⟨#[]⟩ ps (i + 1)))]) (by simp [results, Tryz.results185, go_sem, t0, t1]) rfl (F1.out.res H9.out _ _)

set_option maxHeartbeats 3200000 in
theorem cat_any (hE : CallE w0 a cap l E i0) (hOk : ∀ p i, i ≤ l.length → Ok M l i (E p i)) (k op : Int) (s0 : ByteArray) (hs0 : s0 = ⟨#[]⟩) (t : List Nd) (h0 : i0 ≤ i) (zb : List Nd) (u : Value) (q : Nat) (p : Ps) (w : World) (hi : i ≤ l.length) (hl : l.length ≤ 50000) (hc : tk.Lies w0.heap.size w0 a l) (hz : z.length + 2 * (l.length - i) ≤ 200000) (hst : St w0 a l.length cap i v z r w) (hq : q < w.heap.size) (hrw : Rw w0.heap.size q u (G2 zb.length [t] ++ zs 1) v z r w) (hzb : z.map (·.1) = zb ++ G1 zb.length [t]) :
    Calls Tryz.prog 188 #[.pointer (some ⟨w0.heap.size, 0, none⟩), .agg #[.int .i64 k, .int .i64 op, .string s0, .string ⟨#[]⟩, u], .agg #[.int .i64 p.l, .bool p.d, .bool p.i, .bool p.g, .bool p.s]] w (Res w0 a l.length cap zb (Xq w0.heap.size q) v z r w (rd2 E k op p t i)) := by
  subst hs0
  obtain ⟨W, hW⟩ : ∃ W, W = ((w.alloc (.cells #[.int .i64 k, .int .i64 op, .string ⟨#[]⟩, .string ⟨#[]⟩, u] 60)).alloc (.cells #[.int .i64 p.l, .bool p.d, .bool p.i, .bool p.g, .bool p.s] 26)).alloc (.cells #[.int .i64 0, .bool false] 87) := ⟨_, rfl⟩
  have hB : Below w.heap.size w W := by rw [hW]; exact (((Below.refl _ _).alloc (Nat.le_refl _) _).alloc (by simp) _).alloc (by simp; omega) _
  have hN : Bk w.heap.size #[.int .i64 k, .int .i64 op, .string ⟨#[]⟩, .string ⟨#[]⟩, u] 60 W := by rw [hW]; exact ((Bk.new _ _ _).alloc _).alloc _
  have hP : Bk (w.heap.size + 1) #[.int .i64 p.l, .bool p.d, .bool p.i, .bool p.g, .bool p.s] 26 W := by
    rw [hW]
    have := (Bk.new (w.alloc (.cells #[.int .i64 k, .int .i64 op, .string ⟨#[]⟩, .string ⟨#[]⟩, u] 60)) #[.int .i64 p.l, .bool p.d, .bool p.i, .bool p.g, .bool p.s] 26).alloc (.cells #[.int .i64 0, .bool false] 87)
    simpa using this
  have hR : Bk (w.heap.size + 1 + 1) #[.int .i64 0, .bool false] 87 W := by
    rw [hW]
    have := Bk.new ((w.alloc (.cells #[.int .i64 k, .int .i64 op, .string ⟨#[]⟩, .string ⟨#[]⟩, u] 60)).alloc (.cells #[.int .i64 p.l, .bool p.d, .bool p.i, .bool p.g, .bool p.s] 26)) #[.int .i64 0, .bool false] 87
    simpa using this
  have F0 := Lib.hid (Fx.start hst (xq_lt hst.lt hq) hN hP hR hB)
  have X0' := Lib.hid (hrw.quiet hB)
  have HQ := Lib.hid hq
  have HLT := Lib.hid hst.lt
  have HB0 := Lib.hid hB
  have HZB := Lib.hid hzb
  have HC := Lib.hid hc
  have HL := Lib.hid hl
  have HI := Lib.hid hi
  have HZ := Lib.hid hz
  have hXb : Xq w0.heap.size q w0.heap.size := Or.inl rfl
  have HXB := Lib.hid hXb
  have hib : i ≤ 50000 := by omega
  obtain ⟨c0, c1, c2⟩ := F0.out.st.c
  have f1 := F0.out.st.f 1
  obtain ⟨n0, n1, n2, n3, n4⟩ := F0.out.nb.bk.c5
  obtain ⟨p0, p1, p2, p3, p4⟩ := F0.out.pb.bk.c5
  obtain ⟨r0, r1⟩ := F0.out.rb.bk.c2
  have g0 := F0.out.rb.bk.f 0
  have g1 := F0.out.rb.bk.f 1
  have hkid : Calls Tryz.prog 270 #[.pointer (some ⟨w0.heap.size, 0, none⟩), .agg #[.int .i64 k, .int .i64 op, .string ⟨#[]⟩, .string ⟨#[]⟩, u], .int .i64 1, .agg #[.int .i64 p.l, .bool p.d, .bool p.i, .bool p.g, .bool p.s]] W (KRes w0 a l.length cap zb [t] 0 u q v z r W (E (kq k op 2 1 p) i)) := kid_any hE hOk k op ⟨#[]⟩ 0 zb [t] u q p W h0 hi hl (by simp) hz F0.out.st X0'.out hzb
  have HOK := Lib.hid (hOk (kq k op 2 1 p) i hi)
  cases hr : E (kq k op 2 1 p) i with
  | bad j =>
    rw [show rd2 E k op p t i = .bad j from by unfold rd2; rw [hr]]
    rw [hr] at hkid
    have HK := Lib.hid hkid
    clear hkid hr hE hOk h0
    clear hst hB hrw hzb hz hi hl hc hq hN hP hR hXb
    rw [hW] at c0 c1 c2 f1 n0 n1 n2 n3 n4 p0 p1 p2 p3 p4 r0 r1 g0 g1
    go_enter Tryz.func188, Tryz.ntmps188
    go_wp2_with fail
    rw [← hW]
    clear c0 c1 c2 f1 n0 n1 n2 n3 n4 p0 p1 p2 p3 p4 r0 r1 g0 g1 hW
    refine HK.out.mono ?_
    rintro e w2 ⟨rfl, v2, z2, r2, s2, e2, -⟩
    simp only [atR] at s2
    have F2 := Lib.hid (F0.out.go s2 e2)
    clear s2 e2
    simp only [okR]
    obtain ⟨c0, c1, c2⟩ := F2.out.st.c
    have f1 := F2.out.st.f 1
    obtain ⟨n0, n1, n2, n3, n4⟩ := F2.out.nb.bk.c5
    obtain ⟨p0, p1, p2, p3, p4⟩ := F2.out.pb.bk.c5
    obtain ⟨r0, r1⟩ := F2.out.rb.bk.c2
    have g0 := F2.out.rb.bk.f 0
    have g1 := F2.out.rb.bk.f 1
    go_wp2
    obtain ⟨t0, t1⟩ := (F2.out.rb.bk.put2 (.int .i64 0) (.bool false)).c2
    exact bodyPost_ret (v := .agg #[.int .i64 0, .bool false]) (by simp [results, Tryz.results188, go_sem, t0, t1]) rfl (F2.out.bad _ _ rfl)
  | ok lv tg x j =>
    rw [show rd2 E k op p t i = fin k op ⟨#[]⟩ [t, x] j from by unfold rd2; rw [hr]]
    rw [hr] at hkid HOK
    have HK := Lib.hid hkid
    clear hkid hr hE hOk h0
    clear hst hB hrw hzb hz hi hl hc hq hN hP hR hXb
    rw [hW] at c0 c1 c2 f1 n0 n1 n2 n3 n4 p0 p1 p2 p3 p4 r0 r1 g0 g1
    go_enter Tryz.func188, Tryz.ntmps188
    go_wp2_with fail
    rw [← hW]
    clear c0 c1 c2 f1 n0 n1 n2 n3 n4 p0 p1 p2 p3 p4 r0 r1 g0 g1 hW
    refine HK.out.mono ?_
    rintro e w2 ⟨rfl, v2, z2, r2, s2, e2, m2⟩
    obtain ⟨m2, x2⟩ := m2 _ _ _ _ rfl
    simp only [atR] at s2
    have F2 := Lib.hid (F0.out.go s2 e2)
    have hz2 := kres_len HZB.out m2 HOK.out HZ.out
    have HZ2 := Lib.hid (show z2.length ≤ 1000000 by omega)
    have HM2 := Lib.hid m2
    have X2 := Lib.hid (show Rw w0.heap.size q u (G2 zb.length [t, x]) v2 z2 r2 w2 by have := x2; simpa [zs] using this)
    clear s2 e2 m2 x2 hz2
    simp only [okR]
    obtain ⟨c0, c1, c2⟩ := F2.out.st.c
    have f1 := F2.out.st.f 1
    obtain ⟨n0, n1, n2, n3, n4⟩ := F2.out.nb.bk.c5
    obtain ⟨p0, p1, p2, p3, p4⟩ := F2.out.pb.bk.c5
    obtain ⟨r0, r1⟩ := F2.out.rb.bk.c2
    have g0 := F2.out.rb.bk.f 0
    have g1 := F2.out.rb.bk.f 1
    go_wp2_with fail
    clear c0 c1 c2 f1 n0 n1 n2 n3 n4 p0 p1 p2 p3 p4 r0 r1 g0 g1
    refine (addR k op ⟨#[]⟩ zb [t, x] u q _ F2.out.st HZ2.out X2.out HM2.out).mono ?_
    rintro e w9 h9
    obtain ⟨rfl, hv9⟩ := id h9
    have H9 := Lib.hid h9
    have R9 := Lib.hid (F2.out.rbk h9)
    obtain ⟨r0, r1⟩ := R9.out.c2
    have g0 := R9.out.f 0
    have g1 := R9.out.f 1
    clear h9 hv9
    go_wp2
    obtain ⟨t0, t1⟩ := (R9.out.put2 (.int .i64 (lvR (fin k op ⟨#[]⟩ [t, x] j))) (.bool (tgR (fin k op ⟨#[]⟩ [t, x] j)))).c2
    exact bodyPost_ret (v := .agg #[.int .i64 (lvR (fin k op ⟨#[]⟩ [t, x] j)), .bool (tgR (fin k op ⟨#[]⟩ [t, x] j))]) (by simp [results, Tryz.results188, go_sem, t0, t1]) rfl (F2.out.res H9.out _ _)
end
end Go.Proofs.YtiilpnoaocfjgaaGreatDoor.pr
