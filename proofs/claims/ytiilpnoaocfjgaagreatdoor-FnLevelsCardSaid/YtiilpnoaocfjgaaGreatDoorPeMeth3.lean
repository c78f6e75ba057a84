/-
  impl's exprParser: prefixed, pre, binary, cond: contracts.
-/
import Derived.Test.YtiilpnoaocfjgaaGreatDoorPeMeth2
namespace Go.Proofs.YtiilpnoaocfjgaaGreatDoor.pr
open Go.ChangeShapes Go.WideShapes Go.ChangeAt Go.RowKit
open tk (Tk)
open nd (Nd PT KidV IBlk OwnI shN makeT)
open ps (Ps B5 posOk kidI top)
open pe
set_option linter.unusedVariables false
set_option linter.unusedSimpArgs false
set_option maxRecDepth 20000

section
variable {w0 : World} {l : List Tk} {a : Option Addr} {cap i : Nat} {v : Value} {z : List (Nd × Value)} {r : Nat → Nat} {E : Ps → Nat → R} {M i0 : Nat}

set_option maxHeartbeats 3200000 in
theorem prefixed_any (hE : CallE w0 a cap l E i0) (hOk : ∀ p i, i ≤ l.length → Ok M l i (E p i)) (k op : Int) (s0 : ByteArray) (hs0 : s0 = ⟨#[]⟩) (h0 : i0 ≤ i + 1) (zb : List Nd) (u : Value) (q : Nat) (p : Ps) (w : World) (hi : i < l.length) (hl : l.length ≤ 50000) (hc : tk.Lies w0.heap.size w0 a l) (hz : z.length + 2 * (l.length - i) ≤ 200000) (hst : St w0 a l.length cap i v z r w) (hq : q < w.heap.size) (hrw : Rw w0.heap.size q u (G2 zb.length [] ++ zs 1) v z r w) (hzb : z.map (·.1) = zb ++ G1 zb.length []) :
    Calls Tryz.prog 266 #[.pointer (some ⟨w0.heap.size, 0, none⟩), .agg #[.int .i64 k, .int .i64 op, .string s0, .string ⟨#[]⟩, u], .agg #[.int .i64 p.l, .bool p.d, .bool p.i, .bool p.g, .bool p.s]] w (Res w0 a l.length cap zb (Xq w0.heap.size q) v z r w (pfx E k op p i)) := by
  subst hs0
  obtain ⟨W, hW⟩ : ∃ W, W = ((w.alloc (.cells #[.int .i64 k, .int .i64 op, .string ⟨#[]⟩, .string ⟨#[]⟩, u] 60)).alloc (.cells #[.int .i64 p.l, .bool p.d, .bool p.i, .bool p.g, .bool p.s] 26)).alloc (.cells #[.int .i64 0, .bool false] 87) := ⟨_, rfl⟩
  have hB : Below w.heap.size w W := by rw [hW]; exact (((Below.refl _ _).alloc (Nat.le_refl _) _).alloc (by simp) _).alloc (by simp; omega) _
  have hN : Bk w.heap.size #[.int .i64 k, .int .i64 op, .string ⟨#[]⟩, .string ⟨#[]⟩, u] 60 W := by rw [hW]; exact ((Bk.new _ _ _).alloc _).alloc _
  have hP : Bk (w.heap.size + 1) #[.int .i64 p.l, .bool p.d, .bool p.i, .bool p.g, .bool p.s] 26 W := by
    rw [hW]
    have := (Bk.new (w.alloc (.cells #[.int .i64 k, .int .i64 op, .string ⟨#[]⟩, .string ⟨#[]⟩, u] 60)) #[.int .i64 p.l, .bool p.d, .bool p.i, .bool p.g, .bool p.s] 26).alloc (.cells #[.int .i64 0, .bool false] 87)
    simpa using this
  have hR : Bk (w.heap.size + 1 + 1) #[.int .i64 0, .bool false] 87 W := by
    rw [hW]
    have := Bk.new ((w.alloc (.cells #[.int .i64 k, .int .i64 op, .string ⟨#[]⟩, .string ⟨#[]⟩, u] 60)).alloc (.cells #[.int .i64 p.l, .bool p.d, .bool p.i, .bool p.g, .bool p.s] 26)) #[.int .i64 0, .bool false] 87
    simpa using this
  have F0 := Lib.hid (Fx.start hst (xq_lt hst.lt hq) hN hP hR hB)
  have X0' := Lib.hid (hrw.quiet hB)
  have HQ := Lib.hid hq
  have HLT := Lib.hid hst.lt
  have HB0 := Lib.hid hB
  have HZB := Lib.hid hzb
  have HC := Lib.hid hc
  have HL := Lib.hid hl
  have HI := Lib.hid hi
  have HZ := Lib.hid hz
  have hXb : Xq w0.heap.size q w0.heap.size := Or.inl rfl
  have HXB := Lib.hid hXb
  have hib : i ≤ 50000 := by omega
  have F1 := Lib.hid (F0.out.at HXB.out)
  have X1 := Lib.hid (X0'.out.at 1 (.int .i64 ((i : Int) + 1)))
  obtain ⟨c0, c1, c2⟩ := F0.out.st.c
  have f1 := F0.out.st.f 1
  obtain ⟨n0, n1, n2, n3, n4⟩ := F0.out.nb.bk.c5
  obtain ⟨p0, p1, p2, p3, p4⟩ := F0.out.pb.bk.c5
  obtain ⟨r0, r1⟩ := F0.out.rb.bk.c2
  have g0 := F0.out.rb.bk.f 0
  have g1 := F0.out.rb.bk.f 1
  obtain ⟨c0b, c1b, c2b⟩ := F1.out.st.c
  have f1b := F1.out.st.f 1
  obtain ⟨n0b, n1b, n2b, n3b, n4b⟩ := F1.out.nb.bk.c5
  obtain ⟨p0b, p1b, p2b, p3b, p4b⟩ := F1.out.pb.bk.c5
  obtain ⟨r0b, r1b⟩ := F1.out.rb.bk.c2
  have g0b := F1.out.rb.bk.f 0
  have g1b := F1.out.rb.bk.f 1
  have hz1 : z.length + 2 * (l.length - (i + 1)) ≤ 200000 := by omega
  have hkid : Calls Tryz.prog 270 #[.pointer (some ⟨w0.heap.size, 0, none⟩), .agg #[.int .i64 k, .int .i64 op, .string ⟨#[]⟩, .string ⟨#[]⟩, u], .int .i64 0, .agg #[.int .i64 p.l, .bool p.d, .bool p.i, .bool p.g, .bool p.s]] (W.setCell ⟨w0.heap.size, 1, none⟩ (.int .i64 ((i : Int) + 1))) (KRes w0 a l.length cap zb [] 0 u q v z r (W.setCell ⟨w0.heap.size, 1, none⟩ (.int .i64 ((i : Int) + 1))) (E (kq k op 1 0 p) (i + 1))) := kid_any hE hOk k op ⟨#[]⟩ 0 zb [] u q p (W.setCell ⟨w0.heap.size, 1, none⟩ (.int .i64 ((i : Int) + 1))) h0 hi hl (by simp) hz1 F1.out.st X1.out hzb
  have HOK := Lib.hid (hOk (kq k op 1 0 p) (i + 1) hi)
  have HZ1 := Lib.hid hz1
  cases hr : E (kq k op 1 0 p) (i + 1) with
  | bad j =>
    rw [show pfx E k op p i = .bad j from by unfold pfx; rw [hr]]
    rw [hr] at hkid
    have HK := Lib.hid hkid
    clear hkid hr hE hOk h0 hz1
    clear hst hB hrw hzb hz hi hl hc hq hN hP hR hXb
    rw [hW] at c0 c1 c2 f1 n0 n1 n2 n3 n4 p0 p1 p2 p3 p4 r0 r1 g0 g1 c0b c1b c2b f1b n0b n1b n2b n3b n4b p0b p1b p2b p3b p4b r0b r1b g0b g1b
    go_enter Tryz.func266, Tryz.ntmps266
    go_wp2_with fail
    rw [← hW]
    clear c0 c1 c2 f1 n0 n1 n2 n3 n4 p0 p1 p2 p3 p4 r0 r1 g0 g1 c0b c1b c2b f1b n0b n1b n2b n3b n4b p0b p1b p2b p3b p4b r0b r1b g0b g1b hW
    refine HK.out.mono ?_
    rintro e w2 ⟨rfl, v2, z2, r2, s2, e2, -⟩
    simp only [atR] at s2
    have F2 := Lib.hid (F1.out.go s2 e2)
    clear s2 e2
    simp only [okR]
    obtain ⟨c0, c1, c2⟩ := F2.out.st.c
    have f1 := F2.out.st.f 1
    obtain ⟨n0, n1, n2, n3, n4⟩ := F2.out.nb.bk.c5
    obtain ⟨p0, p1, p2, p3, p4⟩ := F2.out.pb.bk.c5
    obtain ⟨r0, r1⟩ := F2.out.rb.bk.c2
    have g0 := F2.out.rb.bk.f 0
    have g1 := F2.out.rb.bk.f 1
    go_wp2
    obtain ⟨t0, t1⟩ := (F2.out.rb.bk.put2 (.int .i64 0) (.bool false)).c2
    exact bodyPost_ret (v := .agg #[.int .i64 0, .bool false]) (by simp [results, Tryz.results266, go_sem, t0, t1]) rfl (F2.out.bad _ _ rfl)
  | ok lv tg x j =>
    rw [show pfx E k op p i = fin k op ⟨#[]⟩ [x] j from by unfold pfx; rw [hr]]
    rw [hr] at hkid HOK
    have HK := Lib.hid hkid
    clear hkid hr hE hOk h0 hz1
    clear hst hB hrw hzb hz hi hl hc hq hN hP hR hXb
    rw [hW] at c0 c1 c2 f1 n0 n1 n2 n3 n4 p0 p1 p2 p3 p4 r0 r1 g0 g1 c0b c1b c2b f1b n0b n1b n2b n3b n4b p0b p1b p2b p3b p4b r0b r1b g0b g1b
    go_enter Tryz.func266, Tryz.ntmps266
    go_wp2_with fail
    rw [← hW]
    clear c0 c1 c2 f1 n0 n1 n2 n3 n4 p0 p1 p2 p3 p4 r0 r1 g0 g1 c0b c1b c2b f1b n0b n1b n2b n3b n4b p0b p1b p2b p3b p4b r0b r1b g0b g1b hW
    refine HK.out.mono ?_
    rintro e w2 ⟨rfl, v2, z2, r2, s2, e2, m2⟩
    obtain ⟨m2, x2⟩ := m2 _ _ _ _ rfl
    simp only [atR] at s2
    have F2 := Lib.hid (F1.out.go s2 e2)
    have hz2 := kres_len (ps := []) HZB.out m2 HOK.out HZ1.out
    have HZ2 := Lib.hid (show z2.length ≤ 1000000 by omega)
    have HM2 := Lib.hid (show z2.map (·.1) = zb ++ G1 zb.length [x] from m2)
    have X2 := Lib.hid (show Rw w0.heap.size q u (G2 zb.length [x]) v2 z2 r2 w2 by have := x2; simpa [zs] using this)
    clear s2 e2 m2 x2 hz2
    simp only [okR]
    obtain ⟨c0, c1, c2⟩ := F2.out.st.c
    have f1 := F2.out.st.f 1
    obtain ⟨n0, n1, n2, n3, n4⟩ := F2.out.nb.bk.c5
    obtain ⟨p0, p1, p2, p3, p4⟩ := F2.out.pb.bk.c5
    obtain ⟨r0, r1⟩ := F2.out.rb.bk.c2
    have g0 := F2.out.rb.bk.f 0
    have g1 := F2.out.rb.bk.f 1
    go_wp2_with fail
    clear c0 c1 c2 f1 n0 n1 n2 n3 n4 p0 p1 p2 p3 p4 r0 r1 g0 g1
    refine (addR k op ⟨#[]⟩ zb [x] u q _ F2.out.st HZ2.out X2.out HM2.out).mono ?_
    rintro e w9 h9
    obtain ⟨rfl, hv9⟩ := id h9
    have H9 := Lib.hid h9
    have R9 := Lib.hid (F2.out.rbk h9)
    obtain ⟨r0, r1⟩ := R9.out.c2
    have g0 := R9.out.f 0
    have g1 := R9.out.f 1
    clear h9 hv9
    go_wp2
    obtain ⟨t0, t1⟩ := (R9.out.put2 (.int .i64 (lvR (fin k op ⟨#[]⟩ [x] j))) (.bool (tgR (fin k op ⟨#[]⟩ [x] j)))).c2
    exact bodyPost_ret (v := .agg #[.int .i64 (lvR (fin k op ⟨#[]⟩ [x] j)), .bool (tgR (fin k op ⟨#[]⟩ [x] j))]) (by simp [results, Tryz.results266, go_sem, t0, t1]) rfl (F2.out.res H9.out _ _)

set_option maxHeartbeats 3200000 in
theorem pre_any (hE : CallE w0 a cap l E i0) (hOk : ∀ p i, i ≤ l.length → Ok M l i (E p i)) (c : Int) (s0 : ByteArray) (hs0 : s0 = ⟨#[]⟩) (h0 : i0 ≤ i + 1) (zb : List Nd) (u : Value) (q : Nat) (p : Ps) (w : World) (hi : i < l.length) (hl : l.length ≤ 50000) (hc : tk.Lies w0.heap.size w0 a l) (hz : z.length + 2 * (l.length - i) ≤ 200000) (hst : St w0 a l.length cap i v z r w) (hq : q < w.heap.size) (hrw : Rw w0.heap.size q u (G2 zb.length [] ++ zs 1) v z r w) (hzb : z.map (·.1) = zb ++ G1 zb.length []) :
    Calls Tryz.prog 267 #[.pointer (some ⟨w0.heap.size, 0, none⟩), .agg #[.int .i64 9, .int .i64 c, .string s0, .string ⟨#[]⟩, u], .agg #[.int .i64 p.l, .bool p.d, .bool p.i, .bool p.g, .bool p.s]] w (Res w0 a l.length cap zb (Xq w0.heap.size q) v z r w (if kd l (i + 1) = 6 ∨ kd l (i + 1) = 68 then pfx E 9 c p i else .bad (i + 1))) := by
  subst hs0
  obtain ⟨W, hW⟩ : ∃ W, W = ((w.alloc (.cells #[.int .i64 9, .int .i64 c, .string ⟨#[]⟩, .string ⟨#[]⟩, u] 60)).alloc (.cells #[.int .i64 p.l, .bool p.d, .bool p.i, .bool p.g, .bool p.s] 26)).alloc (.cells #[.int .i64 0, .bool false] 87) := ⟨_, rfl⟩
  have hB : Below w.heap.size w W := by rw [hW]; exact (((Below.refl _ _).alloc (Nat.le_refl _) _).alloc (by simp) _).alloc (by simp; omega) _
  have hN : Bk w.heap.size #[.int .i64 9, .int .i64 c, .string ⟨#[]⟩, .string ⟨#[]⟩, u] 60 W := by rw [hW]; exact ((Bk.new _ _ _).alloc _).alloc _
  have hP : Bk (w.heap.size + 1) #[.int .i64 p.l, .bool p.d, .bool p.i, .bool p.g, .bool p.s] 26 W := by
    rw [hW]
    have := (Bk.new (w.alloc (.cells #[.int .i64 9, .int .i64 c, .string ⟨#[]⟩, .string ⟨#[]⟩, u] 60)) #[.int .i64 p.l, .bool p.d, .bool p.i, .bool p.g, .bool p.s] 26).alloc (.cells #[.int .i64 0, .bool false] 87)
    simpa using this
  have hR : Bk (w.heap.size + 1 + 1) #[.int .i64 0, .bool false] 87 W := by
    rw [hW]
    have := Bk.new ((w.alloc (.cells #[.int .i64 9, .int .i64 c, .string ⟨#[]⟩, .string ⟨#[]⟩, u] 60)).alloc (.cells #[.int .i64 p.l, .bool p.d, .bool p.i, .bool p.g, .bool p.s] 26)) #[.int .i64 0, .bool false] 87
    simpa using this
  have F0 := Lib.hid (Fx.start hst (xq_lt hst.lt hq) hN hP hR hB)
  have X0' := Lib.hid (hrw.quiet hB)
  have HQ := Lib.hid hq
  have HLT := Lib.hid hst.lt
  have HB0 := Lib.hid hB
  have HZB := Lib.hid hzb
  have HC := Lib.hid hc
  have HL := Lib.hid hl
  have HI := Lib.hid hi
  have HZ := Lib.hid hz
  have hXb : Xq w0.heap.size q w0.heap.size := Or.inl rfl
  have HXB := Lib.hid hXb
  have hib : i ≤ 50000 := by omega
  obtain ⟨c0, c1, c2⟩ := F0.out.st.c
  have f1 := F0.out.st.f 1
  obtain ⟨n0, n1, n2, n3, n4⟩ := F0.out.nb.bk.c5
  obtain ⟨p0, p1, p2, p3, p4⟩ := F0.out.pb.bk.c5
  obtain ⟨r0, r1⟩ := F0.out.rb.bk.c2
  have g0 := F0.out.rb.bk.f 0
  have g1 := F0.out.rb.bk.f 1
  have HFO := Lib.hid (follower_any W F0.out.st hc (by omega) (Nat.le_of_lt hi))
  obtain ⟨y, hy⟩ : ∃ y, kd l (i + 1) = y := ⟨_, rfl⟩
  rw [hy] at HFO ⊢
  by_cases hyy : y = 6 ∨ y = 68
  · rw [if_pos hyy]
    have HPF := Lib.hid (fun W2 s2 hq2 hr2 => prefixed_any (v := v) (z := z) (r := r) (cap := cap) (i := i) hE hOk 9 c ⟨#[]⟩ rfl h0 zb u q p W2 hi hl hc hz s2 hq2 hr2 hzb)
    clear hy hE hOk h0
    clear hst hB hrw hzb hz hi hl hc hq hN hP hR hXb
    rcases hyy with rfl | rfl
    all_goals
      rw [hW] at c0 c1 c2 f1 n0 n1 n2 n3 n4 p0 p1 p2 p3 p4 r0 r1 g0 g1
      go_enter Tryz.func267, Tryz.ntmps267
      go_wp2_with fail
      rw [← hW]
      clear c0 c1 c2 f1 n0 n1 n2 n3 n4 p0 p1 p2 p3 p4 r0 r1 g0 g1 hW
      refine HFO.out.mono ?_
      rintro e w1 ⟨rfl, b1⟩
      have F1 := Lib.hid (F0.out.quiet b1)
      have X1 := Lib.hid (X0'.out.quiet b1)
      clear b1
      obtain ⟨c0, c1, c2⟩ := F1.out.st.c
      have f1 := F1.out.st.f 1
      obtain ⟨n0, n1, n2, n3, n4⟩ := F1.out.nb.bk.c5
      obtain ⟨p0, p1, p2, p3, p4⟩ := F1.out.pb.bk.c5
      obtain ⟨r0, r1⟩ := F1.out.rb.bk.c2
      have g0 := F1.out.rb.bk.f 0
      have g1 := F1.out.rb.bk.f 1
      go_wp2_with fail
      clear c0 c1 c2 f1 n0 n1 n2 n3 n4 p0 p1 p2 p3 p4 r0 r1 g0 g1
      refine (HPF.out w1 F1.out.st (Nat.lt_of_lt_of_le HQ.out F1.out.tot.g.size) X1.out).mono ?_
      rintro e w9 h9
      obtain ⟨rfl, hv9⟩ := id h9
      have H9 := Lib.hid h9
      have R9 := Lib.hid (F1.out.rbk h9)
      obtain ⟨r0, r1⟩ := R9.out.c2
      have g0 := R9.out.f 0
      have g1 := R9.out.f 1
      clear h9 hv9
      go_wp2
      obtain ⟨t0, t1⟩ := (R9.out.put2 (.int .i64 (lvR (pfx E 9 c p i))) (.bool (tgR (pfx E 9 c p i)))).c2
      exact bodyPost_ret (v := .agg #[.int .i64 (lvR (pfx E 9 c p i)), .bool (tgR (pfx E 9 c p i))]) (by simp [results, Tryz.results267, go_sem, t0, t1]) rfl (F1.out.res H9.out _ _)
  · rw [if_neg hyy]
    obtain ⟨q1, q2⟩ := ne_facts (show ¬ y = 6 from fun h => hyy (.inl h))
    obtain ⟨q3, q4⟩ := ne_facts (show ¬ y = 68 from fun h => hyy (.inr h))
    clear hy hE hOk h0 hyy
    clear hst hB hrw hzb hz hi hl hc hq hN hP hR hXb
    rw [hW] at c0 c1 c2 f1 n0 n1 n2 n3 n4 p0 p1 p2 p3 p4 r0 r1 g0 g1
    go_enter Tryz.func267, Tryz.ntmps267
    go_wp2_with fail
    rw [← hW]
    clear c0 c1 c2 f1 n0 n1 n2 n3 n4 p0 p1 p2 p3 p4 r0 r1 g0 g1 hW
    refine HFO.out.mono ?_
    rintro e w1 ⟨rfl, b1⟩
    have F1 := Lib.hid (F0.out.quiet b1)
    have F2 := Lib.hid (F1.out.at HXB.out)
    clear b1
    obtain ⟨c0, c1, c2⟩ := F1.out.st.c
    have f1 := F1.out.st.f 1
    obtain ⟨n0, n1, n2, n3, n4⟩ := F1.out.nb.bk.c5
    obtain ⟨p0, p1, p2, p3, p4⟩ := F1.out.pb.bk.c5
    obtain ⟨r0, r1⟩ := F1.out.rb.bk.c2
    have g0 := F1.out.rb.bk.f 0
    have g1 := F1.out.rb.bk.f 1
    obtain ⟨c0b, c1b, c2b⟩ := F2.out.st.c
    have f1b := F2.out.st.f 1
    obtain ⟨n0b, n1b, n2b, n3b, n4b⟩ := F2.out.nb.bk.c5
    obtain ⟨p0b, p1b, p2b, p3b, p4b⟩ := F2.out.pb.bk.c5
    obtain ⟨r0b, r1b⟩ := F2.out.rb.bk.c2
    have g0b := F2.out.rb.bk.f 0
    have g1b := F2.out.rb.bk.f 1
    go_wp2
    obtain ⟨t0, t1⟩ := (F2.out.rb.bk.put2 (.int .i64 0) (.bool false)).c2
    exact bodyPost_ret (v := .agg #[.int .i64 0, .bool false]) (by simp [results, Tryz.results267, go_sem, t0, t1]) rfl (F2.out.bad _ _ rfl)

set_option maxHeartbeats 3200000 in
theorem binary_any (hE : CallE w0 a cap l E i0) (hOk : ∀ p i, i ≤ l.length → Ok M l i (E p i)) (k op : Int) (s0 : ByteArray) (hs0 : s0 = ⟨#[]⟩) (t : List Nd) (h0 : i0 ≤ i + 1) (zb : List Nd) (u : Value) (q : Nat) (p : Ps) (w : World) (hi : i < l.length) (hl : l.length ≤ 50000) (hc : tk.Lies w0.heap.size w0 a l) (hz : z.length + 2 * (l.length - i) ≤ 200000) (hst : St w0 a l.length cap i v z r w) (hq : q < w.heap.size) (hrw : Rw w0.heap.size q u (G2 zb.length [t] ++ zs 1) v z r w) (hzb : z.map (·.1) = zb ++ G1 zb.length [t]) :
    Calls Tryz.prog 184 #[.pointer (some ⟨w0.heap.size, 0, none⟩), .agg #[.int .i64 k, .int .i64 op, .string s0, .string ⟨#[]⟩, u], .agg #[.int .i64 p.l, .bool p.d, .bool p.i, .bool p.g, .bool p.s]] w (Res w0 a l.length cap zb (Xq w0.heap.size q) v z r w (rd2 E k op p t (behind l op i))) := by
  subst hs0
  obtain ⟨W, hW⟩ : ∃ W, W = ((w.alloc (.cells #[.int .i64 k, .int .i64 op, .string ⟨#[]⟩, .string ⟨#[]⟩, u] 60)).alloc (.cells #[.int .i64 p.l, .bool p.d, .bool p.i, .bool p.g, .bool p.s] 26)).alloc (.cells #[.int .i64 0, .bool false] 87) := ⟨_, rfl⟩
  have hB : Below w.heap.size w W := by rw [hW]; exact (((Below.refl _ _).alloc (Nat.le_refl _) _).alloc (by simp) _).alloc (by simp; omega) _
  have hN : Bk w.heap.size #[.int .i64 k, .int .i64 op, .string ⟨#[]⟩, .string ⟨#[]⟩, u] 60 W := by rw [hW]; exact ((Bk.new _ _ _).alloc _).alloc _
  have hP : Bk (w.heap.size + 1) #[.int .i64 p.l, .bool p.d, .bool p.i, .bool p.g, .bool p.s] 26 W := by
    rw [hW]
    have := (Bk.new (w.alloc (.cells #[.int .i64 k, .int .i64 op, .string ⟨#[]⟩, .string ⟨#[]⟩, u] 60)) #[.int .i64 p.l, .bool p.d, .bool p.i, .bool p.g, .bool p.s] 26).alloc (.cells #[.int .i64 0, .bool false] 87)
    simpa using this
  have hR : Bk (w.heap.size + 1 + 1) #[.int .i64 0, .bool false] 87 W := by
    rw [hW]
    have := Bk.new ((w.alloc (.cells #[.int .i64 k, .int .i64 op, .string ⟨#[]⟩, .string ⟨#[]⟩, u] 60)).alloc (.cells #[.int .i64 p.l, .bool p.d, .bool p.i, .bool p.g, .bool p.s] 26)) #[.int .i64 0, .bool false] 87
    simpa using this
  have F0 := Lib.hid (Fx.start hst (xq_lt hst.lt hq) hN hP hR hB)
  have X0' := Lib.hid (hrw.quiet hB)
  have HQ := Lib.hid hq
  have HLT := Lib.hid hst.lt
  have HB0 := Lib.hid hB
  have HZB := Lib.hid hzb
  have HC := Lib.hid hc
  have HL := Lib.hid hl
  have HI := Lib.hid hi
  have HZ := Lib.hid hz
  have hXb : Xq w0.heap.size q w0.heap.size := Or.inl rfl
  have HXB := Lib.hid hXb
  have hib : i ≤ 50000 := by omega
  have F1 := Lib.hid (F0.out.at HXB.out)
  have X1 := Lib.hid (X0'.out.at 1 (.int .i64 ((i : Int) + 1)))
  obtain ⟨c0, c1, c2⟩ := F0.out.st.c
  have f1 := F0.out.st.f 1
  obtain ⟨n0, n1, n2, n3, n4⟩ := F0.out.nb.bk.c5
  obtain ⟨p0, p1, p2, p3, p4⟩ := F0.out.pb.bk.c5
  obtain ⟨r0, r1⟩ := F0.out.rb.bk.c2
  have g0 := F0.out.rb.bk.f 0
  have g1 := F0.out.rb.bk.f 1
  obtain ⟨c0b, c1b, c2b⟩ := F1.out.st.c
  have f1b := F1.out.st.f 1
  obtain ⟨n0b, n1b, n2b, n3b, n4b⟩ := F1.out.nb.bk.c5
  obtain ⟨p0b, p1b, p2b, p3b, p4b⟩ := F1.out.pb.bk.c5
  obtain ⟨r0b, r1b⟩ := F1.out.rb.bk.c2
  have g0b := F1.out.rb.bk.f 0
  have g1b := F1.out.rb.bk.f 1
  have HCAT := Lib.hid (fun j W2 hij hj s2 hq2 hr2 => cat_any (v := v) (z := z) (r := r) (cap := cap) (i := j) hE hOk k op ⟨#[]⟩ rfl t (Nat.le_trans h0 hij) zb u q p W2 hj hl hc (by omega) s2 hq2 hr2 hzb)
  have HSK := Lib.hid (fun W2 s2 => skip_any (v := v) (z := z) (r := r) (cap := cap) (i := i + 1) W2 s2 hc (by omega) hi)
  have HSL := Lib.hid (sk_le (l := l) (i := i + 1) hi)
  by_cases hop : op = 44 ∨ op = 45
  · rw [show behind l op i = sk l (i + 1) from if_pos hop]
    clear hE hOk h0
    clear hst hB hrw hzb hz hi hl hc hq hN hP hR hXb
    rcases hop with rfl | rfl
    · rw [hW] at c0 c1 c2 f1 n0 n1 n2 n3 n4 p0 p1 p2 p3 p4 r0 r1 g0 g1 c0b c1b c2b f1b n0b n1b n2b n3b n4b p0b p1b p2b p3b p4b r0b r1b g0b g1b
      go_enter Tryz.func184, Tryz.ntmps184
      go_wp2_with fail
      rw [← hW]
      clear c0 c1 c2 f1 n0 n1 n2 n3 n4 p0 p1 p2 p3 p4 r0 r1 g0 g1 c0b c1b c2b f1b n0b n1b n2b n3b n4b p0b p1b p2b p3b p4b r0b r1b g0b g1b hW
      refine (HSK.out _ F1.out.st).mono ?_
      rintro e w1 ⟨rfl, s1, g1'⟩
      have F2 := Lib.hid (F1.out.take HXB.out s1 g1')
      have X2 := Lib.hid (X1.out.take g1')
      clear s1 g1'
      obtain ⟨c0, c1, c2⟩ := F2.out.st.c
      have f1 := F2.out.st.f 1
      obtain ⟨n0, n1, n2, n3, n4⟩ := F2.out.nb.bk.c5
      obtain ⟨p0, p1, p2, p3, p4⟩ := F2.out.pb.bk.c5
      obtain ⟨r0, r1⟩ := F2.out.rb.bk.c2
      have g0 := F2.out.rb.bk.f 0
      have g1 := F2.out.rb.bk.f 1
      go_wp2_with fail
      clear c0 c1 c2 f1 n0 n1 n2 n3 n4 p0 p1 p2 p3 p4 r0 r1 g0 g1
      refine (HCAT.out _ w1 HSL.out.1 HSL.out.2 F2.out.st (Nat.lt_of_lt_of_le HQ.out F2.out.tot.g.size) X2.out).mono ?_
      rintro e w9 h9
      obtain ⟨rfl, hv9⟩ := id h9
      have H9 := Lib.hid h9
      have R9 := Lib.hid (F2.out.rbk h9)
      obtain ⟨r0, r1⟩ := R9.out.c2
      have g0 := R9.out.f 0
      have g1 := R9.out.f 1
      clear h9 hv9
      go_wp2
      obtain ⟨t0, t1⟩ := (R9.out.put2 (.int .i64 (lvR (rd2 E k 44 p t (sk l (i + 1))))) (.bool (tgR (rd2 E k 44 p t (sk l (i + 1)))))).c2
      exact bodyPost_ret (v := .agg #[.int .i64 (lvR (rd2 E k 44 p t (sk l (i + 1)))), .bool (tgR (rd2 E k 44 p t (sk l (i + 1))))]) (by simp [results, Tryz.results184, go_sem, t0, t1]) rfl (F2.out.res H9.out _ _)
    · rw [hW] at c0 c1 c2 f1 n0 n1 n2 n3 n4 p0 p1 p2 p3 p4 r0 r1 g0 g1 c0b c1b c2b f1b n0b n1b n2b n3b n4b p0b p1b p2b p3b p4b r0b r1b g0b g1b
      go_enter Tryz.func184, Tryz.ntmps184
      go_wp2_with fail
      rw [← hW]
      clear c0 c1 c2 f1 n0 n1 n2 n3 n4 p0 p1 p2 p3 p4 r0 r1 g0 g1 c0b c1b c2b f1b n0b n1b n2b n3b n4b p0b p1b p2b p3b p4b r0b r1b g0b g1b hW
      refine (HSK.out _ F1.out.st).mono ?_
      rintro e w1 ⟨rfl, s1, g1'⟩
      have F2 := Lib.hid (F1.out.take HXB.out s1 g1')
      have X2 := Lib.hid (X1.out.take g1')
      clear s1 g1'
      obtain ⟨c0, c1, c2⟩ := F2.out.st.c
      have f1 := F2.out.st.f 1
      obtain ⟨n0, n1, n2, n3, n4⟩ := F2.out.nb.bk.c5
      obtain ⟨p0, p1, p2, p3, p4⟩ := F2.out.pb.bk.c5
      obtain ⟨r0, r1⟩ := F2.out.rb.bk.c2
      have g0 := F2.out.rb.bk.f 0
      have g1 := F2.out.rb.bk.f 1
      go_wp2_with fail
      clear c0 c1 c2 f1 n0 n1 n2 n3 n4 p0 p1 p2 p3 p4 r0 r1 g0 g1
      refine (HCAT.out _ w1 HSL.out.1 HSL.out.2 F2.out.st (Nat.lt_of_lt_of_le HQ.out F2.out.tot.g.size) X2.out).mono ?_
      rintro e w9 h9
      obtain ⟨rfl, hv9⟩ := id h9
      have H9 := Lib.hid h9
      have R9 := Lib.hid (F2.out.rbk h9)
      obtain ⟨r0, r1⟩ := R9.out.c2
      have g0 := R9.out.f 0
      have g1 := R9.out.f 1
      clear h9 hv9
      go_wp2
      obtain ⟨t0, t1⟩ := (R9.out.put2 (.int .i64 (lvR (rd2 E k 45 p t (sk l (i + 1))))) (.bool (tgR (rd2 E k 45 p t (sk l (i + 1)))))).c2
      exact bodyPost_ret (v := .agg #[.int .i64 (lvR (rd2 E k 45 p t (sk l (i + 1)))), .bool (tgR (rd2 E k 45 p t (sk l (i + 1))))]) (by simp [results, Tryz.results184, go_sem, t0, t1]) rfl (F2.out.res H9.out _ _)
  · rw [show behind l op i = i + 1 from if_neg hop]
    obtain ⟨q1, q2⟩ := ne_facts (show ¬ op = 44 from fun h => hop (.inl h))
    obtain ⟨q3, q4⟩ := ne_facts (show ¬ op = 45 from fun h => hop (.inr h))
    clear hE hOk h0 hop
    clear hst hB hrw hzb hz hi hl hc hq hN hP hR hXb
    rw [hW] at c0 c1 c2 f1 n0 n1 n2 n3 n4 p0 p1 p2 p3 p4 r0 r1 g0 g1 c0b c1b c2b f1b n0b n1b n2b n3b n4b p0b p1b p2b p3b p4b r0b r1b g0b g1b
    go_enter Tryz.func184, Tryz.ntmps184
    go_wp2_with fail
    rw [← hW]
    clear c0 c1 c2 f1 n0 n1 n2 n3 n4 p0 p1 p2 p3 p4 r0 r1 g0 g1 c0b c1b c2b f1b n0b n1b n2b n3b n4b p0b p1b p2b p3b p4b r0b r1b g0b g1b hW
    refine (HCAT.out _ _ (Nat.le_refl _) HI.out F1.out.st (Nat.lt_of_lt_of_le HQ.out F1.out.tot.g.size) X1.out).mono ?_
    rintro e w9 h9
    obtain ⟨rfl, hv9⟩ := id h9
    have H9 := Lib.hid h9
    have R9 := Lib.hid (F1.out.rbk h9)
    obtain ⟨r0, r1⟩ := R9.out.c2
    have g0 := R9.out.f 0
    have g1 := R9.out.f 1
    clear h9 hv9
    go_wp2
    obtain ⟨t0, t1⟩ := (R9.out.put2 (.int .i64 (lvR (rd2 E k op p t (i + 1)))) (.bool (tgR (rd2 E k op p t (i + 1))))).c2
    exact bodyPost_ret (v := .agg #[.int .i64 (lvR (rd2 E k op p t (i + 1))), .bool (tgR (rd2 E k op p t (i + 1)))]) (by simp [results, Tryz.results184, go_sem, t0, t1]) rfl (F1.out.res H9.out _ _)

set_option maxHeartbeats 3200000 in
theorem cond_any (hE : CallE w0 a cap l E i0) (hOk : ∀ p i, i ≤ l.length → Ok M l i (E p i)) (s0 : ByteArray) (hs0 : s0 = ⟨#[]⟩) (t : List Nd) (h0 : i0 ≤ i + 1) (zb : List Nd) (u : Value) (q : Nat) (p : Ps) (w : World) (hi : i < l.length) (hl : l.length ≤ 50000) (hc : tk.Lies w0.heap.size w0 a l) (hz : z.length + 2 * (l.length - i) ≤ 200000) (hst : St w0 a l.length cap i v z r w) (hq : q < w.heap.size) (hrw : Rw w0.heap.size q u (G2 zb.length [t] ++ zs 2) v z r w) (hzb : z.map (·.1) = zb ++ G1 zb.length [t]) :
    Calls Tryz.prog 186 #[.pointer (some ⟨w0.heap.size, 0, none⟩), .agg #[.int .i64 14, .int .i64 0, .string s0, .string ⟨#[]⟩, u], .agg #[.int .i64 p.l, .bool p.d, .bool p.i, .bool p.g, .bool p.s]] w (Res w0 a l.length cap zb (Xq w0.heap.size q) v z r w (pe.cond E l p t i)) := by
  subst hs0
  obtain ⟨W, hW⟩ : ∃ W, W = ((w.alloc (.cells #[.int .i64 14, .int .i64 0, .string ⟨#[]⟩, .string ⟨#[]⟩, u] 60)).alloc (.cells #[.int .i64 p.l, .bool p.d, .bool p.i, .bool p.g, .bool p.s] 26)).alloc (.cells #[.int .i64 0, .bool false] 87) := ⟨_, rfl⟩
  have hB : Below w.heap.size w W := by rw [hW]; exact (((Below.refl _ _).alloc (Nat.le_refl _) _).alloc (by simp) _).alloc (by simp; omega) _
  have hN : Bk w.heap.size #[.int .i64 14, .int .i64 0, .string ⟨#[]⟩, .string ⟨#[]⟩, u] 60 W := by rw [hW]; exact ((Bk.new _ _ _).alloc _).alloc _
  have hP : Bk (w.heap.size + 1) #[.int .i64 p.l, .bool p.d, .bool p.i, .bool p.g, .bool p.s] 26 W := by
    rw [hW]
    have := (Bk.new (w.alloc (.cells #[.int .i64 14, .int .i64 0, .string ⟨#[]⟩, .string ⟨#[]⟩, u] 60)) #[.int .i64 p.l, .bool p.d, .bool p.i, .bool p.g, .bool p.s] 26).alloc (.cells #[.int .i64 0, .bool false] 87)
    simpa using this
  have hR : Bk (w.heap.size + 1 + 1) #[.int .i64 0, .bool false] 87 W := by
    rw [hW]
    have := Bk.new ((w.alloc (.cells #[.int .i64 14, .int .i64 0, .string ⟨#[]⟩, .string ⟨#[]⟩, u] 60)).alloc (.cells #[.int .i64 p.l, .bool p.d, .bool p.i, .bool p.g, .bool p.s] 26)) #[.int .i64 0, .bool false] 87
    simpa using this
  have F0 := Lib.hid (Fx.start hst (xq_lt hst.lt hq) hN hP hR hB)
  have X0' := Lib.hid (hrw.quiet hB)
  have HQ := Lib.hid hq
  have HLT := Lib.hid hst.lt
  have HB0 := Lib.hid hB
  have HZB := Lib.hid hzb
  have HC := Lib.hid hc
  have HL := Lib.hid hl
  have HI := Lib.hid hi
  have HZ := Lib.hid hz
  have hXb : Xq w0.heap.size q w0.heap.size := Or.inl rfl
  have HXB := Lib.hid hXb
  have hib : i ≤ 50000 := by omega
  have F1 := Lib.hid (F0.out.at HXB.out)
  have X1 := Lib.hid (X0'.out.at 1 (.int .i64 ((i : Int) + 1)))
  obtain ⟨c0, c1, c2⟩ := F0.out.st.c
  have f1 := F0.out.st.f 1
  obtain ⟨n0, n1, n2, n3, n4⟩ := F0.out.nb.bk.c5
  obtain ⟨p0, p1, p2, p3, p4⟩ := F0.out.pb.bk.c5
  obtain ⟨r0, r1⟩ := F0.out.rb.bk.c2
  have g0 := F0.out.rb.bk.f 0
  have g1 := F0.out.rb.bk.f 1
  obtain ⟨c0b, c1b, c2b⟩ := F1.out.st.c
  have f1b := F1.out.st.f 1
  obtain ⟨n0b, n1b, n2b, n3b, n4b⟩ := F1.out.nb.bk.c5
  obtain ⟨p0b, p1b, p2b, p3b, p4b⟩ := F1.out.pb.bk.c5
  obtain ⟨r0b, r1b⟩ := F1.out.rb.bk.c2
  have g0b := F1.out.rb.bk.f 0
  have g1b := F1.out.rb.bk.f 1
  have hz1 : z.length + 2 * (l.length - (i + 1)) ≤ 200000 := by omega
  have hkid : Calls Tryz.prog 270 #[.pointer (some ⟨w0.heap.size, 0, none⟩), .agg #[.int .i64 14, .int .i64 0, .string ⟨#[]⟩, .string ⟨#[]⟩, u], .int .i64 1, .agg #[.int .i64 p.l, .bool p.d, .bool p.i, .bool p.g, .bool p.s]] (W.setCell ⟨w0.heap.size, 1, none⟩ (.int .i64 ((i : Int) + 1))) (KRes w0 a l.length cap zb [t] 1 u q v z r (W.setCell ⟨w0.heap.size, 1, none⟩ (.int .i64 ((i : Int) + 1))) (E (kq 14 0 3 1 p) (i + 1))) := kid_any hE hOk 14 0 ⟨#[]⟩ 1 zb [t] u q p (W.setCell ⟨w0.heap.size, 1, none⟩ (.int .i64 ((i : Int) + 1))) h0 hi hl (by simp) hz1 F1.out.st X1.out hzb
  have HOK := Lib.hid (hOk (kq 14 0 3 1 p) (i + 1) hi)
  have HZ1 := Lib.hid hz1
  cases hr : E (kq 14 0 3 1 p) (i + 1) with
  | bad j =>
    rw [show pe.cond E l p t i = .bad j from by unfold pe.cond; rw [hr]]
    rw [hr] at hkid
    have HK := Lib.hid hkid
    clear hkid hr hE hOk h0 hz1
    clear hst hB hrw hzb hz hi hl hc hq hN hP hR hXb
    rw [hW] at c0 c1 c2 f1 n0 n1 n2 n3 n4 p0 p1 p2 p3 p4 r0 r1 g0 g1 c0b c1b c2b f1b n0b n1b n2b n3b n4b p0b p1b p2b p3b p4b r0b r1b g0b g1b
    go_enter Tryz.func186, Tryz.ntmps186
    go_wp2_with fail
    rw [← hW]
    clear c0 c1 c2 f1 n0 n1 n2 n3 n4 p0 p1 p2 p3 p4 r0 r1 g0 g1 c0b c1b c2b f1b n0b n1b n2b n3b n4b p0b p1b p2b p3b p4b r0b r1b g0b g1b hW
    refine HK.out.mono ?_
    rintro e w2 ⟨rfl, v2, z2, r2, s2, e2, -⟩
    simp only [atR] at s2
    have F2 := Lib.hid (F1.out.go s2 e2)
    clear s2 e2
    simp only [okR]
    obtain ⟨c0, c1, c2⟩ := F2.out.st.c
    have f1 := F2.out.st.f 1
    obtain ⟨n0, n1, n2, n3, n4⟩ := F2.out.nb.bk.c5
    obtain ⟨p0, p1, p2, p3, p4⟩ := F2.out.pb.bk.c5
    obtain ⟨r0, r1⟩ := F2.out.rb.bk.c2
    have g0 := F2.out.rb.bk.f 0
    have g1 := F2.out.rb.bk.f 1
    go_wp2
    obtain ⟨t0, t1⟩ := (F2.out.rb.bk.put2 (.int .i64 0) (.bool false)).c2
    exact bodyPost_ret (v := .agg #[.int .i64 0, .bool false]) (by simp [results, Tryz.results186, go_sem, t0, t1]) rfl (F2.out.bad _ _ rfl)
  | ok lv tg x j =>
    rw [hr] at hkid HOK
    have HK := Lib.hid hkid
    have hij := HOK.out.1
    have hjl := HOK.out.2.1
    by_cases h66 : kd l j = 66
    · have hj1 := kd_lt (l := l) (i := j) (by omega)
      have HT := Lib.hid (fun v2 z2 r2 W2 s2 => take_any (v := v2) (z := z2) (r := r2) (cap := cap) (i := j) 66 W2 s2 hc (by omega) hjl)
      rw [decide_eq_true h66, show aft l j 66 = j + 1 from if_pos h66] at HT
      have HK2 := Lib.hid (fun v2 z2 r2 W2 hz2 s2 hr2 hm2 => kid_any (v := v2) (z := z2) (r := r2) (cap := cap) (i := j + 1) hE hOk 14 0 ⟨#[]⟩ 0 zb [t, x] u q p W2 (by omega) hj1 hl (by simp) hz2 s2 hr2 hm2)
      have HK2 := Lib.hid (show ∀ v2 z2 r2 W2, z2.length + 2 * (l.length - (j + 1)) ≤ 200000 → St w0 a l.length cap (j + 1) v2 z2 r2 W2 → Rw w0.heap.size q u (G2 zb.length [t, x] ++ zs 1) v2 z2 r2 W2 → z2.map (·.1) = zb ++ G1 zb.length [t, x] → Calls Tryz.prog 270 #[.pointer (some ⟨w0.heap.size, 0, none⟩), .agg #[.int .i64 14, .int .i64 0, .string ⟨#[]⟩, .string ⟨#[]⟩, u], .int .i64 2, .agg #[.int .i64 p.l, .bool p.d, .bool p.i, .bool p.g, .bool p.s]] W2 (KRes w0 a l.length cap zb [t, x] 0 u q v2 z2 r2 W2 (E (kq 14 0 3 2 p) (j + 1))) from HK2.out)
      have HOK2 := Lib.hid (hOk (kq 14 0 3 2 p) (j + 1) hj1)
      have HJ := Lib.hid hj1
      cases hr2 : E (kq 14 0 3 2 p) (j + 1) with
      | bad m =>
        rw [show pe.cond E l p t i = .bad m from by unfold pe.cond; rw [hr]; simp only [if_pos h66, hr2]]
        rw [hr2] at HK2
        clear hkid hr hE hOk h0 hz1 hr2 h66 hij hjl hj1
        clear hst hB hrw hzb hz hi hl hc hq hN hP hR hXb
        rw [hW] at c0 c1 c2 f1 n0 n1 n2 n3 n4 p0 p1 p2 p3 p4 r0 r1 g0 g1 c0b c1b c2b f1b n0b n1b n2b n3b n4b p0b p1b p2b p3b p4b r0b r1b g0b g1b
        go_enter Tryz.func186, Tryz.ntmps186
        go_wp2_with fail
        rw [← hW]
        clear c0 c1 c2 f1 n0 n1 n2 n3 n4 p0 p1 p2 p3 p4 r0 r1 g0 g1 c0b c1b c2b f1b n0b n1b n2b n3b n4b p0b p1b p2b p3b p4b r0b r1b g0b g1b hW
        refine HK.out.mono ?_
        rintro e w2 ⟨rfl, v2, z2, r2, s2, e2, m2⟩
        obtain ⟨m2, x2⟩ := m2 _ _ _ _ rfl
        simp only [atR] at s2
        have F2 := Lib.hid (F1.out.go s2 e2)
        have hz2 := kres_len HZB.out m2 HOK.out HZ1.out
        have HZ2 := Lib.hid (show z2.length + 2 * (l.length - (j + 1)) ≤ 200000 by omega)
        have HM2 := Lib.hid (show z2.map (·.1) = zb ++ G1 zb.length [t, x] from m2)
        have X2 := Lib.hid (show Rw w0.heap.size q u (G2 zb.length [t, x] ++ zs 1) v2 z2 r2 w2 from x2)
        clear s2 e2 m2 x2 hz2
        simp only [okR]
        go_wp2_with fail
        refine (HT.out v2 z2 r2 w2 F2.out.st).mono ?_
        rintro e w3 ⟨rfl, s3, g3⟩
        have F3 := Lib.hid (F2.out.take HXB.out s3 g3)
        have X3 := Lib.hid (X2.out.take g3)
        clear s3 g3
        obtain ⟨c0, c1, c2⟩ := F3.out.st.c
        have f1 := F3.out.st.f 1
        obtain ⟨n0, n1, n2, n3, n4⟩ := F3.out.nb.bk.c5
        obtain ⟨p0, p1, p2, p3, p4⟩ := F3.out.pb.bk.c5
        obtain ⟨r0, r1⟩ := F3.out.rb.bk.c2
        have g0 := F3.out.rb.bk.f 0
        have g1 := F3.out.rb.bk.f 1
        go_wp2_with fail
        clear c0 c1 c2 f1 n0 n1 n2 n3 n4 p0 p1 p2 p3 p4 r0 r1 g0 g1
        refine (HK2.out v2 z2 r2 w3 HZ2.out F3.out.st X3.out HM2.out).mono ?_
        rintro e w4 ⟨rfl, v4, z4, r4, s4, e4, -⟩
        simp only [atR] at s4
        have F4 := Lib.hid (F3.out.go s4 e4)
        clear s4 e4
        simp only [okR]
        obtain ⟨c0, c1, c2⟩ := F4.out.st.c
        have f1 := F4.out.st.f 1
        obtain ⟨n0, n1, n2, n3, n4⟩ := F4.out.nb.bk.c5
        obtain ⟨p0, p1, p2, p3, p4⟩ := F4.out.pb.bk.c5
        obtain ⟨r0, r1⟩ := F4.out.rb.bk.c2
        have g0 := F4.out.rb.bk.f 0
        have g1 := F4.out.rb.bk.f 1
        go_wp2
        obtain ⟨t0, t1⟩ := (F4.out.rb.bk.put2 (.int .i64 0) (.bool false)).c2
        exact bodyPost_ret (v := .agg #[.int .i64 0, .bool false]) (by simp [results, Tryz.results186, go_sem, t0, t1]) rfl (F4.out.bad _ _ rfl)
      | ok lv' tg' y m =>
        rw [show pe.cond E l p t i = fin 14 0 ⟨#[]⟩ [t, x, y] m from by unfold pe.cond; rw [hr]; simp only [if_pos h66, hr2]]
        rw [hr2] at HK2 HOK2
        clear hkid hr hE hOk h0 hz1 hr2 h66 hij hjl hj1
        clear hst hB hrw hzb hz hi hl hc hq hN hP hR hXb
        rw [hW] at c0 c1 c2 f1 n0 n1 n2 n3 n4 p0 p1 p2 p3 p4 r0 r1 g0 g1 c0b c1b c2b f1b n0b n1b n2b n3b n4b p0b p1b p2b p3b p4b r0b r1b g0b g1b
        go_enter Tryz.func186, Tryz.ntmps186
        go_wp2_with fail
        rw [← hW]
        clear c0 c1 c2 f1 n0 n1 n2 n3 n4 p0 p1 p2 p3 p4 r0 r1 g0 g1 c0b c1b c2b f1b n0b n1b n2b n3b n4b p0b p1b p2b p3b p4b r0b r1b g0b g1b hW
        refine HK.out.mono ?_
        rintro e w2 ⟨rfl, v2, z2, r2, s2, e2, m2⟩
        obtain ⟨m2, x2⟩ := m2 _ _ _ _ rfl
        simp only [atR] at s2
        have F2 := Lib.hid (F1.out.go s2 e2)
        have hz2 := kres_len HZB.out m2 HOK.out HZ1.out
        have HZ2 := Lib.hid (show z2.length + 2 * (l.length - (j + 1)) ≤ 200000 by omega)
        have HM2 := Lib.hid (show z2.map (·.1) = zb ++ G1 zb.length [t, x] from m2)
        have X2 := Lib.hid (show Rw w0.heap.size q u (G2 zb.length [t, x] ++ zs 1) v2 z2 r2 w2 from x2)
        clear s2 e2 m2 x2 hz2
        simp only [okR]
        go_wp2_with fail
        refine (HT.out v2 z2 r2 w2 F2.out.st).mono ?_
        rintro e w3 ⟨rfl, s3, g3⟩
        have F3 := Lib.hid (F2.out.take HXB.out s3 g3)
        have X3 := Lib.hid (X2.out.take g3)
        clear s3 g3
        obtain ⟨c0, c1, c2⟩ := F3.out.st.c
        have f1 := F3.out.st.f 1
        obtain ⟨n0, n1, n2, n3, n4⟩ := F3.out.nb.bk.c5
        obtain ⟨p0, p1, p2, p3, p4⟩ := F3.out.pb.bk.c5
        obtain ⟨r0, r1⟩ := F3.out.rb.bk.c2
        have g0 := F3.out.rb.bk.f 0
        have g1 := F3.out.rb.bk.f 1
        go_wp2_with fail
        clear c0 c1 c2 f1 n0 n1 n2 n3 n4 p0 p1 p2 p3 p4 r0 r1 g0 g1
        refine (HK2.out v2 z2 r2 w3 HZ2.out F3.out.st X3.out HM2.out).mono ?_
        rintro e w4 ⟨rfl, v4, z4, r4, s4, e4, m4⟩
        obtain ⟨m4, x4⟩ := m4 _ _ _ _ rfl
        simp only [atR] at s4
        have F4 := Lib.hid (F3.out.go s4 e4)
        have hz4 := kres_len HM2.out m4 HOK2.out HZ2.out
        have HZ4 := Lib.hid (show z4.length ≤ 1000000 by omega)
        have HM4 := Lib.hid (show z4.map (·.1) = zb ++ G1 zb.length [t, x, y] from m4)
        have X4 := Lib.hid (show Rw w0.heap.size q u (G2 zb.length [t, x, y]) v4 z4 r4 w4 by have := x4; simpa [zs] using this)
        clear s4 e4 m4 x4 hz4
        simp only [okR]
        obtain ⟨c0, c1, c2⟩ := F4.out.st.c
        have f1 := F4.out.st.f 1
        obtain ⟨n0, n1, n2, n3, n4⟩ := F4.out.nb.bk.c5
        obtain ⟨p0, p1, p2, p3, p4⟩ := F4.out.pb.bk.c5
        obtain ⟨r0, r1⟩ := F4.out.rb.bk.c2
        have g0 := F4.out.rb.bk.f 0
        have g1 := F4.out.rb.bk.f 1
        go_wp2_with fail
        clear c0 c1 c2 f1 n0 n1 n2 n3 n4 p0 p1 p2 p3 p4 r0 r1 g0 g1
        refine (addR 14 0 ⟨#[]⟩ zb [t, x, y] u q _ F4.out.st HZ4.out X4.out HM4.out).mono ?_
        rintro e w9 h9
        obtain ⟨rfl, hv9⟩ := id h9
        have H9 := Lib.hid h9
        have R9 := Lib.hid (F4.out.rbk h9)
        obtain ⟨r0, r1⟩ := R9.out.c2
        have g0 := R9.out.f 0
        have g1 := R9.out.f 1
        clear h9 hv9
        go_wp2
        obtain ⟨t0, t1⟩ := (R9.out.put2 (.int .i64 (lvR (fin 14 0 ⟨#[]⟩ [t, x, y] m))) (.bool (tgR (fin 14 0 ⟨#[]⟩ [t, x, y] m)))).c2
        exact bodyPost_ret (v := .agg #[.int .i64 (lvR (fin 14 0 ⟨#[]⟩ [t, x, y] m)), .bool (tgR (fin 14 0 ⟨#[]⟩ [t, x, y] m))]) (by simp [results, Tryz.results186, go_sem, t0, t1]) rfl (F4.out.res H9.out _ _)
    · rw [show pe.cond E l p t i = .bad j from by unfold pe.cond; rw [hr]; simp only [if_neg h66]]
      have HT := Lib.hid (fun v2 z2 r2 W2 s2 => take_any (v := v2) (z := z2) (r := r2) (cap := cap) (i := j) 66 W2 s2 hc (by omega) hjl)
      rw [decide_eq_false h66, show aft l j 66 = j from if_neg h66] at HT
      clear hkid hr hE hOk h0 hz1 h66 hij hjl
      clear hst hB hrw hzb hz hi hl hc hq hN hP hR hXb
      rw [hW] at c0 c1 c2 f1 n0 n1 n2 n3 n4 p0 p1 p2 p3 p4 r0 r1 g0 g1 c0b c1b c2b f1b n0b n1b n2b n3b n4b p0b p1b p2b p3b p4b r0b r1b g0b g1b
      go_enter Tryz.func186, Tryz.ntmps186
      go_wp2_with fail
      rw [← hW]
      clear c0 c1 c2 f1 n0 n1 n2 n3 n4 p0 p1 p2 p3 p4 r0 r1 g0 g1 c0b c1b c2b f1b n0b n1b n2b n3b n4b p0b p1b p2b p3b p4b r0b r1b g0b g1b hW
      refine HK.out.mono ?_
      rintro e w2 ⟨rfl, v2, z2, r2, s2, e2, m2⟩
      simp only [atR] at s2
      have F2 := Lib.hid (F1.out.go s2 e2)
      clear s2 e2 m2
      simp only [okR]
      go_wp2_with fail
      refine (HT.out v2 z2 r2 w2 F2.out.st).mono ?_
      rintro e w3 ⟨rfl, s3, g3⟩
      have F3 := Lib.hid (F2.out.take HXB.out s3 g3)
      clear s3 g3
      obtain ⟨c0, c1, c2⟩ := F3.out.st.c
      have f1 := F3.out.st.f 1
      obtain ⟨n0, n1, n2, n3, n4⟩ := F3.out.nb.bk.c5
      obtain ⟨p0, p1, p2, p3, p4⟩ := F3.out.pb.bk.c5
      obtain ⟨r0, r1⟩ := F3.out.rb.bk.c2
      have g0 := F3.out.rb.bk.f 0
      have g1 := F3.out.rb.bk.f 1
      go_wp2
      obtain ⟨t0, t1⟩ := (F3.out.rb.bk.put2 (.int .i64 0) (.bool false)).c2
      exact bodyPost_ret (v := .agg #[.int .i64 0, .bool false]) (by simp [results, Tryz.results186, go_sem, t0, t1]) rfl (F3.out.bad _ _ rfl)
end
end Go.Proofs.YtiilpnoaocfjgaaGreatDoor.pr
