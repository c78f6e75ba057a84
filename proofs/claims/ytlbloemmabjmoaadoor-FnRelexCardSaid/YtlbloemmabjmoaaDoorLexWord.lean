/-
  The model's lexer, a word: spec.l5Word: a contract.
-/
import Derived.Test.YtlbloemmabjmoaaDoorLexKind
namespace Go.Proofs.YtlbloemmabjmoaaDoor.lex
open Go.ChangeShapes Go.WideShapes Go.ChangeAt Go.RowKit
open tk scan
set_option linter.unusedVariables false

/-- The kind of a word. -/
def wordK (s x : ByteArray) (E : Nat) : Int := if spell.keyword x = 0 then (if toks.isBuiltin x = true then 8 else if byteZ s (E : Int) = 40 then 7 else 6) else spell.keyword x

/-- A block of three cells. -/
def B3 (g : Nat) (k a : Int) (x : ByteArray) (w : World) : Prop := w.heap[g]? = some (.cells #[.int .i64 k, .string x, .int .i64 a] 35 (0, 0))
theorem B3.lt {g : Nat} {k a : Int} {x : ByteArray} {w : World} (h : B3 g k a x w) : g < w.heap.size := by
  rcases Nat.lt_or_ge g w.heap.size with h' | h'
  · exact h'
  · unfold B3 at h; rw [Array.getElem?_eq_none h'] at h; cases h
theorem B3.keep {B g : Nat} {k a : Int} {x : ByteArray} {w w' : World} (h : B3 g k a x w) (hb : Below B w w') (hg : g < B) : B3 g k a x w' := (hb.block g hg).trans h
theorem B3.c {g : Nat} {k a : Int} {x : ByteArray} {w : World} (h : B3 g k a x w) : w.cell? ⟨g, 0, none⟩ = some (.int .i64 k) ∧ w.cell? ⟨g, 1, none⟩ = some (.string x) ∧ w.cell? ⟨g, 2, none⟩ = some (.int .i64 a) :=
  ⟨by rw [cell_of_row w g 0 _ _ _ h]; rfl, by rw [cell_of_row w g 1 _ _ _ h]; rfl, by rw [cell_of_row w g 2 _ _ _ h]; rfl⟩
theorem B3.f {g : Nat} {k a : Int} {x : ByteArray} {w : World} (h : B3 g k a x w) (j : Nat) : w.frozen? ⟨g, j, none⟩ = false := frozen_of_row w g j _ _ h
theorem B3.new (w : World) (k a : Int) (x : ByteArray) : B3 w.heap.size k a x (w.alloc (.cells #[.int .i64 k, .string x, .int .i64 a] 35)) := heap_alloc_new w _
theorem B3.put {g : Nat} {k a : Int} {x : ByteArray} {w : World} (h : B3 g k a x w) (k' a' : Int) (x' : ByteArray) :
    B3 g k' a' x' (((w.setCell ⟨g, 0, none⟩ (.int .i64 k')).setCell ⟨g, 1, none⟩ (.string x')).setCell ⟨g, 2, none⟩ (.int .i64 a')) :=
  heap_setCell_same _ g 2 _ _ _ (heap_setCell_same _ g 1 _ _ _ (heap_setCell_same _ g 0 _ _ _ h))
theorem B3.put0 {g : Nat} {k a : Int} {x : ByteArray} {w : World} (h : B3 g k a x w) (k' : Int) : B3 g k' a x (w.setCell ⟨g, 0, none⟩ (.int .i64 k')) := heap_setCell_same _ g 0 _ _ _ h
theorem B3.put1 {g : Nat} {k a : Int} {x : ByteArray} {w : World} (h : B3 g k a x w) (x' : ByteArray) : B3 g k a x' (w.setCell ⟨g, 1, none⟩ (.string x')) := heap_setCell_same _ g 1 _ _ _ h
theorem B3.other {g h : Nat} {k a : Int} {x : ByteArray} {w : World} (H : B3 g k a x w) (hne : g ≠ h) (j : Nat) (v : Value) : B3 g k a x (w.setCell ⟨h, j, none⟩ v) := (Below.heap_setCell w ⟨h, j, none⟩ v g hne).trans H
theorem below_set3 {B g : Nat} {w W : World} (h : Below B W w) (hg : B ≤ g) (x y z : Value) : Below B W (((w.setCell ⟨g, 0, none⟩ x).setCell ⟨g, 1, none⟩ y).setCell ⟨g, 2, none⟩ z) :=
  ((h.setCell (p := ⟨g, 0, none⟩) hg x).setCell (p := ⟨g, 1, none⟩) hg y).setCell (p := ⟨g, 2, none⟩) hg z

set_option maxHeartbeats 1600000 in
theorem spec_word (s : ByteArray) (A E : Nat) (w : World) (hs : s.size ≤ 1048576) (hAE : A < E) (hE : E ≤ s.size) :
    Calls Tryd.prog 83 #[.string s, .int .i64 (A : Int), .int .i64 (E : Int)] w fun e w' => e = .returned (.agg #[.int .i64 (wordK s (s.extract A E) E), .string (s.extract A E), .int .i64 (A : Int)]) ∧ Below w.heap.size w w' := by
  obtain ⟨x, hx⟩ : ∃ x, x = s.extract A E := ⟨_, rfl⟩
  have HX := Lib.hid hx
  rw [← hx]
  clear hx
  have i1 : (A : Int) ≤ (E : Int) := by omega
  have i2 : (E : Int) ≤ (s.size : Int) := by omega
  have HB0 := Lib.hid (((Below.refl w.heap.size w).alloc (Nat.le_refl _) (.cells #[.int .i64 0, .string ⟨#[]⟩, .int .i64 0] 35)).alloc (by simp) (.cells #[.int .i64 6, .string x, .int .i64 (A : Int)] 35))
  have HR0 := Lib.hid ((B3.new w 0 0 ⟨#[]⟩).keep (((Below.refl (w.heap.size + 1) (w.alloc (.cells #[.int .i64 0, .string ⟨#[]⟩, .int .i64 0] 35)))).alloc (by simp) (.cells #[.int .i64 6, .string x, .int .i64 (A : Int)] 35)) (Nat.lt_succ_self _))
  have HT0 := Lib.hid (show B3 (w.heap.size + 1) 6 (A : Int) x ((w.alloc (.cells #[.int .i64 0, .string ⟨#[]⟩, .int .i64 0] 35)).alloc (.cells #[.int .i64 6, .string x, .int .i64 (A : Int)] 35)) by
    have := B3.new (w.alloc (.cells #[.int .i64 0, .string ⟨#[]⟩, .int .i64 0] 35)) 6 (A : Int) x
    rwa [show (w.alloc (.cells #[.int .i64 0, .string ⟨#[]⟩, .int .i64 0] 35)).heap.size = w.heap.size + 1 by simp] at this)
  by_cases hk : spell.keyword x = 0
  · obtain ⟨k1, k2⟩ := eqI hk
    cases hb : toks.isBuiltin x
    · by_cases hp : byteZ s (E : Int) = 40
      · have HW := Lib.hid (show wordK s x E = 7 by unfold wordK; rw [if_pos hk, if_neg (by rw [hb]; decide), if_pos hp])
        obtain ⟨p1, p2⟩ := eqI hp
        clear hk hp
        go_enter Tryd.func83, Tryd.ntmps83
        go_wp2_with fail
        rw [← HX.out]
        refine (spell.spec_keyword x _).mono ?_
        rintro e w1 ⟨rfl, b1⟩
        have HR1 := Lib.hid (HR0.out.keep b1 HR0.out.lt)
        have HT1 := Lib.hid (HT0.out.keep b1 HT0.out.lt)
        have HB1 := Lib.hid (HB0.out.trans (b1.mono HB0.out.size))
        obtain ⟨t0, t1, t2⟩ := HT1.out.c
        clear b1
        go_wp2_with fail
        refine (toks.spec_builtin x _).mono ?_
        rintro e w2 ⟨rfl, b2⟩
        have HR2 := Lib.hid (HR1.out.keep b2 HR1.out.lt)
        have HT2 := Lib.hid (HT1.out.keep b2 HT1.out.lt)
        have HB2 := Lib.hid (HB1.out.trans (b2.mono HB1.out.size))
        obtain ⟨t0, t1, t2⟩ := HT2.out.c
        have g0 := HT2.out.f 0
        obtain ⟨q0, q1, q2⟩ := HR2.out.c
        have q3 := HR2.out.f
        clear b2
        go_wp2_with (go_at_call 43; refine (spec_byte s _ _ hs).mono ?_; rintro e w' ⟨rfl, rfl⟩)
        obtain ⟨r0, r1, r2⟩ := ((HR2.out.other (h := w.heap.size + 1) (by omega) 0 (.int .i64 (7))).put (7) (A : Int) x).c
        refine bodyPost_ret (v := .agg #[.int .i64 (7), .string x, .int .i64 (A : Int)]) (by simp [results, Tryd.results83, go_sem, r0, r1, r2]) rfl ⟨by rw [HW.out], below_set3 (HB2.out.setCell (p := ⟨w.heap.size + 1, 0, none⟩) (Nat.le_succ _) _) (Nat.le_refl _) _ _ _⟩
      · have HW := Lib.hid (show wordK s x E = 6 by unfold wordK; rw [if_pos hk, if_neg (by rw [hb]; decide), if_neg hp])
        obtain ⟨p1, p2⟩ := neI hp
        clear hk hp
        go_enter Tryd.func83, Tryd.ntmps83
        go_wp2_with fail
        rw [← HX.out]
        refine (spell.spec_keyword x _).mono ?_
        rintro e w1 ⟨rfl, b1⟩
        have HR1 := Lib.hid (HR0.out.keep b1 HR0.out.lt)
        have HT1 := Lib.hid (HT0.out.keep b1 HT0.out.lt)
        have HB1 := Lib.hid (HB0.out.trans (b1.mono HB0.out.size))
        obtain ⟨t0, t1, t2⟩ := HT1.out.c
        clear b1
        go_wp2_with fail
        refine (toks.spec_builtin x _).mono ?_
        rintro e w2 ⟨rfl, b2⟩
        have HR2 := Lib.hid (HR1.out.keep b2 HR1.out.lt)
        have HT2 := Lib.hid (HT1.out.keep b2 HT1.out.lt)
        have HB2 := Lib.hid (HB1.out.trans (b2.mono HB1.out.size))
        obtain ⟨t0, t1, t2⟩ := HT2.out.c
        have g0 := HT2.out.f 0
        obtain ⟨q0, q1, q2⟩ := HR2.out.c
        have q3 := HR2.out.f
        clear b2
        go_wp2_with (go_at_call 43; refine (spec_byte s _ _ hs).mono ?_; rintro e w' ⟨rfl, rfl⟩)
        obtain ⟨r0, r1, r2⟩ := (HR2.out.put (6) (A : Int) x).c
        refine bodyPost_ret (v := .agg #[.int .i64 (6), .string x, .int .i64 (A : Int)]) (by simp [results, Tryd.results83, go_sem, r0, r1, r2]) rfl ⟨by rw [HW.out], below_set3 HB2.out (Nat.le_refl _) _ _ _⟩
    · have HW := Lib.hid (show wordK s x E = 8 by unfold wordK; rw [if_pos hk, if_pos hb])
      clear hk
      go_enter Tryd.func83, Tryd.ntmps83
      go_wp2_with fail
      rw [← HX.out]
      refine (spell.spec_keyword x _).mono ?_
      rintro e w1 ⟨rfl, b1⟩
      have HR1 := Lib.hid (HR0.out.keep b1 HR0.out.lt)
      have HT1 := Lib.hid (HT0.out.keep b1 HT0.out.lt)
      have HB1 := Lib.hid (HB0.out.trans (b1.mono HB0.out.size))
      obtain ⟨t0, t1, t2⟩ := HT1.out.c
      clear b1
      go_wp2_with fail
      refine (toks.spec_builtin x _).mono ?_
      rintro e w2 ⟨rfl, b2⟩
      have HR2 := Lib.hid (HR1.out.keep b2 HR1.out.lt)
      have HT2 := Lib.hid (HT1.out.keep b2 HT1.out.lt)
      have HB2 := Lib.hid (HB1.out.trans (b2.mono HB1.out.size))
      obtain ⟨t0, t1, t2⟩ := HT2.out.c
      have g0 := HT2.out.f 0
      obtain ⟨q0, q1, q2⟩ := HR2.out.c
      have q3 := HR2.out.f
      clear b2
      go_wp2
      obtain ⟨r0, r1, r2⟩ := ((HR2.out.other (h := w.heap.size + 1) (by omega) 0 (.int .i64 (8))).put (8) (A : Int) x).c
      refine bodyPost_ret (v := .agg #[.int .i64 (8), .string x, .int .i64 (A : Int)]) (by simp [results, Tryd.results83, go_sem, r0, r1, r2]) rfl ⟨by rw [HW.out], below_set3 (HB2.out.setCell (p := ⟨w.heap.size + 1, 0, none⟩) (Nat.le_succ _) _) (Nat.le_refl _) _ _ _⟩
  · have HW := Lib.hid (show wordK s x E = spell.keyword x by unfold wordK; rw [if_neg hk])
    obtain ⟨k1, k2⟩ := neI hk
    clear hk
    go_enter Tryd.func83, Tryd.ntmps83
    go_wp2_with fail
    rw [← HX.out]
    refine (spell.spec_keyword x _).mono ?_
    rintro e w1 ⟨rfl, b1⟩
    have HR1 := Lib.hid (HR0.out.keep b1 HR0.out.lt)
    have HT1 := Lib.hid (HT0.out.keep b1 HT0.out.lt)
    have HB1 := Lib.hid (HB0.out.trans (b1.mono HB0.out.size))
    obtain ⟨t0, t1, t2⟩ := HT1.out.c
    clear b1
    go_wp2_with fail
    refine (spell.spec_keyword x _).mono ?_
    rintro e w2 ⟨rfl, b2⟩
    have HR2 := Lib.hid (HR1.out.keep b2 HR1.out.lt)
    have HT2 := Lib.hid (HT1.out.keep b2 HT1.out.lt)
    have HB2 := Lib.hid (HB1.out.trans (b2.mono HB1.out.size))
    obtain ⟨t0, t1, t2⟩ := HT2.out.c
    have g0 := HT2.out.f 0
    obtain ⟨q0, q1, q2⟩ := HR2.out.c
    have q3 := HR2.out.f
    clear b2
    go_wp2
    obtain ⟨r0, r1, r2⟩ := ((HR2.out.other (h := w.heap.size + 1) (by omega) 0 (.int .i64 (spell.keyword x))).put (spell.keyword x) (A : Int) x).c
    refine bodyPost_ret (v := .agg #[.int .i64 (spell.keyword x), .string x, .int .i64 (A : Int)]) (by simp [results, Tryd.results83, go_sem, r0, r1, r2]) rfl ⟨by rw [HW.out], below_set3 (HB2.out.setCell (p := ⟨w.heap.size + 1, 0, none⟩) (Nat.le_succ _) _) (Nat.le_refl _) _ _ _⟩
end Go.Proofs.YtlbloemmabjmoaaDoor.lex
