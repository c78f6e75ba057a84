/-
  impl's exprParser: the methods that read a node: contracts.
-/
import Derived.Test.YtiilpnoaocfjgaaGreatDoorPeRead
namespace Go.Proofs.YtiilpnoaocfjgaaGreatDoor.pr
open Go.ChangeShapes Go.WideShapes Go.ChangeAt Go.RowKit
open tk (Tk)
open nd (Nd PT KidV IBlk OwnI shN makeT)
open ps (Ps B5 posOk kidI top)
open pe
set_option linter.unusedVariables false
set_option linter.unusedSimpArgs false
set_option maxRecDepth 20000

section
variable {w0 : World} {a : Option Addr} {n cap : Nat} {zb : List Nd} {X : Nat → Prop} {v : Value} {z : List (Nd × Value)} {r : Nat → Nat} {w : World} {R : R} {e : Ending} {w' : World}
theorem Res.bk (h : Res w0 a n cap zb X v z r w R e w') {g : Nat} {c : Array Value} {ty : TypeId} (hb : Bk g c ty w) (hx : ¬ X g) (hv : some g ≠ v.ownBlock) : Bk g c ty w' := by
  obtain ⟨-, v', z', r', h2, h3, h4⟩ := h
  exact hb.on h3.g hx hv
end
/-- Boxes of a call's own, at its start. -/
structure Own3 (w0 : World) (a : Option Addr) (n cap i : Nat) (v : Value) (z : List (Nd × Value)) (r : Nat → Nat) (w W : World) : Prop where
  st : St w0 a n cap i v z r W
  bel : Below w.heap.size w W
  lt : w0.heap.size < w.heap.size
  rows : ∀ j, j < z.length → r j < w.heap.size
  vown : ∀ g, w.heap.size ≤ g → some g ≠ v.ownBlock
theorem Own3.of {w0 : World} {a : Option Addr} {n cap i : Nat} {v : Value} {z : List (Nd × Value)} {r : Nat → Nat} {w W : World} (h : St w0 a n cap i v z r w) (hb : Below w.heap.size w W) : Own3 w0 a n cap i v z r w W :=
  ⟨h.keep hb, hb, h.lt, fun j hj => h.own.lt j hj, fun g hg => h.new hg⟩
theorem Own3.ext {w0 : World} {a : Option Addr} {n cap i : Nat} {v : Value} {z : List (Nd × Value)} {r : Nat → Nat} {w W : World} (h : Own3 w0 a n cap i v z r w W) (X : Nat → Prop) : Ext X v z r w v z r W := Ext.of (Gr.quiet h.bel)
section
variable {w0 : World} {l : List Tk} {a : Option Addr} {cap i : Nat} {v : Value} {z : List (Nd × Value)} {r : Nat → Nat} {E : Ps → Nat → R} {M i0 : Nat}

set_option maxHeartbeats 1600000 in
theorem word_any (k op : Int) (s0 : ByteArray) (zb : List Nd) (ps : List (List Nd)) (u : Value) (q : Nat) (p : Ps) (w : World) (hi : i < l.length) (hl : l.length ≤ 50000) (hc : tk.Lies w0.heap.size w0 a l) (hz : z.length ≤ 900000) (hst : St w0 a l.length cap i v z r w) (hq : q < w.heap.size) (hrw : Rw w0.heap.size q u (G2 zb.length ps) v z r w) (hzb : z.map (·.1) = zb ++ G1 zb.length ps) :
    Calls Tryz.prog 262 #[.pointer (some ⟨w0.heap.size, 0, none⟩), .agg #[.int .i64 k, .int .i64 op, .string s0, .string ⟨#[]⟩, u], .agg #[.int .i64 p.l, .bool p.d, .bool p.i, .bool p.g, .bool p.s]] w (Res w0 a l.length cap zb (Xq w0.heap.size q) v z r w (fin k op (tx l i) ps (i + 1))) := by
  obtain ⟨W, hW⟩ : ∃ W, W = ((w.alloc (.cells #[.int .i64 k, .int .i64 op, .string s0, .string ⟨#[]⟩, u] 60)).alloc (.cells #[.int .i64 p.l, .bool p.d, .bool p.i, .bool p.g, .bool p.s] 26)).alloc (.cells #[.int .i64 0, .bool false] 87) := ⟨_, rfl⟩
  have hB : Below w.heap.size w W := by rw [hW]; exact (((Below.refl _ _).alloc (Nat.le_refl _) _).alloc (by simp) _).alloc (by simp; omega) _
  have HO := Lib.hid (Own3.of hst hB)
  have HN := Lib.hid (show Bk w.heap.size #[.int .i64 k, .int .i64 op, .string s0, .string ⟨#[]⟩, u] 60 W by rw [hW]; exact ((Bk.new _ _ _).alloc _).alloc _)
  have HP := Lib.hid (show Bk (w.heap.size + 1) #[.int .i64 p.l, .bool p.d, .bool p.i, .bool p.g, .bool p.s] 26 W by
    rw [hW]
    have := (Bk.new (w.alloc (.cells #[.int .i64 k, .int .i64 op, .string s0, .string ⟨#[]⟩, u] 60)) #[.int .i64 p.l, .bool p.d, .bool p.i, .bool p.g, .bool p.s] 26).alloc (.cells #[.int .i64 0, .bool false] 87)
    simpa using this)
  have HR := Lib.hid (show Bk (w.heap.size + 1 + 1) #[.int .i64 0, .bool false] 87 W by
    rw [hW]
    have := Bk.new ((w.alloc (.cells #[.int .i64 k, .int .i64 op, .string s0, .string ⟨#[]⟩, u] 60)).alloc (.cells #[.int .i64 p.l, .bool p.d, .bool p.i, .bool p.g, .bool p.s] 26)) #[.int .i64 0, .bool false] 87
    simpa using this)
  have HX := Lib.hid (hrw.quiet hB)
  have HNX := Lib.hid (next_any W HO.out.st hc (by omega) (Nat.le_of_lt hi))
  have HZ := Lib.hid (show z.length ≤ 1000000 by omega)
  have HZB := Lib.hid hzb
  have hib : i ≤ 50000 := by omega
  have hfs := fld_s
  have HQ := Lib.hid hq
  clear hst hB hrw hzb hz hi hl hc hq
  obtain ⟨x, hx⟩ : ∃ x, tx l i = x := ⟨_, rfl⟩
  rw [hx] at HNX ⊢
  clear hx
  go_enter Tryz.func262, Tryz.ntmps262
  go_wp2_with fail
  rw [← hW]
  clear hW
  refine HNX.out.mono ?_
  rintro e w1 ⟨rfl, b1⟩
  have S1 := Lib.hid (HO.out.st.keep b1)
  have N1 := Lib.hid (HN.out.keep b1)
  have R1 := Lib.hid (HR.out.keep b1)
  have X1 := Lib.hid (HX.out.quiet b1)
  have B1 := Lib.hid (HO.out.bel.trans (b1.mono HO.out.bel.size))
  obtain ⟨c0, c1, c2⟩ := S1.out.c
  have f1 := S1.out.f 1
  have f2 := N1.out.f 2
  obtain ⟨n0, n1, n2, n3, n4⟩ := N1.out.c5
  have hne : ¬ w.heap.size = w0.heap.size := by have := HO.out.lt; omega
  have hne' : ¬ w0.heap.size = w.heap.size := fun h => hne h.symm
  have S2 := Lib.hid ((S1.out.oset hne (HO.out.vown _ (Nat.le_refl _)) (fun j hj => by have := HO.out.rows j hj; omega) (Nat.le_of_lt HO.out.lt) 2 (.string x)).at (i + 1))
  rw [show ((i + 1 : Nat) : Int) = (i : Int) + 1 by omega] at S2
  have N2 := Lib.hid ((N1.out.set 2 (.string x)).oth hne 1 (.int .i64 ((i : Int) + 1)))
  have R2 := Lib.hid (((R1.out.oth (by omega : ¬ w.heap.size + 1 + 1 = w.heap.size) 2 (.string x))).oth (by have := HO.out.lt; omega : ¬ w.heap.size + 1 + 1 = w0.heap.size) 1 (.int .i64 ((i : Int) + 1)))
  obtain ⟨m0, m1, m2, m3, m4⟩ := N2.out.c5
  have E2 := Lib.hid (show Ext (Xq w0.heap.size q) v z r w v z r ((w1.setCell ⟨w.heap.size, 2, none⟩ (.string x)).setCell ⟨w0.heap.size, 1, none⟩ (.int .i64 ((i : Int) + 1))) from Ext.of (((Gr.quiet B1.out).set (.inr (Nat.le_refl _)) 2 _).set (.inl (Or.inl rfl)) 1 _))
  have X2 := Lib.hid (show Rw w0.heap.size q u (G2 zb.length ps) v z r ((w1.setCell ⟨w.heap.size, 2, none⟩ (.string x)).setCell ⟨w0.heap.size, 1, none⟩ (.int .i64 ((i : Int) + 1))) by
    rcases X1.out with h | ⟨h1, h2, h3, h4, h5⟩
    · exact .inl h
    · refine .inr ⟨h1.keep ?_, by simpa using h2, h3, h4, h5⟩
      rw [heap_setCell_other _ _ q _ (show q ≠ w0.heap.size by omega), heap_setCell_other _ _ q _ (show q ≠ w.heap.size by have := HQ.out; omega)])
  have HADD := Lib.hid (addR k op x zb ps u q _ S2.out HZ.out X2.out HZB.out)
  clear b1
  go_wp2_with fail
  refine HADD.out.mono ?_
  rintro e w4 h4
  obtain ⟨rfl, hv4⟩ := id h4
  have H4 := Lib.hid h4
  have hxr : ¬ Xq w0.heap.size q (w.heap.size + 1 + 1) := fun h => by
    rcases h with h | h
    · have := HO.out.lt; omega
    · have := HQ.out; omega
  have R4 := Lib.hid (h4.bk R2.out hxr (HO.out.vown _ (by omega)))
  obtain ⟨r0, r1⟩ := R4.out.c2
  have f3 := R4.out.f 0
  have f4 := R4.out.f 1
  clear h4 hv4
  go_wp2
  obtain ⟨t0, t1⟩ := (R4.out.put2 (.int .i64 (lvR (fin k op x ps (i + 1)))) (.bool (tgR (fin k op x ps (i + 1))))).c2
  exact bodyPost_ret (v := .agg #[.int .i64 (lvR (fin k op x ps (i + 1))), .bool (tgR (fin k op x ps (i + 1)))]) (by simp [results, Tryz.results262, go_sem, t0, t1]) rfl (H4.out.done E2.out (by omega) R2.out.lt hxr (HO.out.vown _ (by omega)) (fun j hj => by have := HO.out.rows j hj; omega) (by have := HO.out.lt; omega) _ _)
end
end Go.Proofs.YtiilpnoaocfjgaaGreatDoor.pr
