/-
  The verifier's drawing function of one token (spec.l5Token): it answers some token with a text of a bounded size; but for the cursor's own block nothing that lay before is changed.
-/
import Derived.Test.YtlbloemmabjmoaaDoorDrawPick
import Derived.Test.YtlbloemmabjmoaaDoorDrawRest
import Derived.Test.YtlbloemmabjmoaaDoorLexWord
import Derived.Test.YtlbloemmabjmoaaDoorSpell
namespace Go.Proofs.YtlbloemmabjmoaaDoor.draw
open Go.ChangeShapes Go.WideShapes Go.ChangeAt Go.RowKit
open tk
open lex (B3 eqI neI)
set_option linter.unusedVariables false

/-- Some token with a short text. -/
def Tok1 (B p : Nat) (a : Option Addr) (len cap : Nat) (zs : List Int) (w : World) (e : Ending) (w' : World) : Prop :=
  ∃ (k : Int) (x : ByteArray) (s' : Nat × Int), x.size ≤ 16 ∧ e = .returned (.agg #[.int .i64 k, .string x, .int .i64 0]) ∧ In B w' p a len cap zs s' ∧ w.grownBy w' (some p)

theorem b3_grown {g p : Nat} {k c : Int} {x : ByteArray} {w w' : World} (h : B3 g k c x w) (hg : w.grownBy w' (some p)) (hne : g ≠ p) : B3 g k c x w' :=
  (hg.block g h.lt (by simpa using hne)).trans h
theorem fin_in {B g p len cap : Nat} {w : World} {a : Option Addr} {zs : List Int} {s : Nat × Int} (H : In B w p a len cap zs s) (hpg : p < g) (x y z : Value) :
    In B (((w.setCell ⟨g, 0, none⟩ x).setCell ⟨g, 1, none⟩ y).setCell ⟨g, 2, none⟩ z) p a len cap zs s := H.keep (lex.below_set3 (Below.refl g w) (Nat.le_refl _) x y z) hpg
theorem fin_grown {g p : Nat} {w w1 : World} (h : w.grownBy w1 (some p)) (hg : g = w.heap.size) (x y z : Value) :
    w.grownBy (((w1.setCell ⟨g, 0, none⟩ x).setCell ⟨g, 1, none⟩ y).setCell ⟨g, 2, none⟩ z) (some p) := grown_below h (lex.below_set3 (Below.refl g w1) (Nat.le_refl _) x y z) hg
theorem getD_small {l : List ByteArray} (h : ∀ x ∈ l, x.size ≤ 16) (K : Nat) : (l.getD K ⟨#[]⟩).size ≤ 16 := by
  rw [List.getD_eq_getElem?_getD]
  cases e : l[K]? with
  | none => exact Nat.zero_le _
  | some x => exact h x (List.mem_of_getElem? e)
theorem words_16 : ∀ x ∈ toks.words, x.size ≤ 16 := by decide
theorem signs_16 : ∀ x ∈ toks.signs, x.size ≤ 16 := by decide
theorem builtins_16 : ∀ x ∈ toks.builtins, x.size ≤ 16 := by decide
theorem spell_small (n : Int) : (spell.spell n).size ≤ 16 := by
  unfold spell.spell
  split
  · decide
  split
  · exact getD_small words_16 _
  split
  · exact getD_small signs_16 _
  · exact Nat.zero_le _

set_option maxHeartbeats 3200000 in
theorem tok_any {B p len cap : Nat} {w : World} {a : Option Addr} {zs : List Int} {s : Nat × Int} (H : In B w p a len cap zs s) :
    Calls Tryd.prog 62 #[.pointer (some ⟨p, 0, none⟩)] w (Tok1 B p a len cap zs w) := by
  have hlt := H.lt
  have hz0 := World.grownBy_alloc w (.cells #[.int .i64 0, .string ⟨#[]⟩, .int .i64 0] 35) (some p)
  have HI0 := Lib.hid (H.over (o := .cells #[.int .i64 0, .string ⟨#[]⟩, .int .i64 0] 35))
  have HX0 := Lib.hid (B3.new w 0 0 ⟨#[]⟩)
  have HG0 := Lib.hid hz0
  have HNE := Lib.hid (show w.heap.size ≠ p by omega)
  clear H hz0
  have hb := belowF_bd zs 10 s (by omega)
  obtain ⟨c, hc⟩ : ∃ c, c = belowF zs 10 s := ⟨_, rfl⟩
  rw [← hc] at hb
  have HC := Lib.hid hc
  clear hc
  obtain ⟨n, s1⟩ := c
  simp only at hb
  by_cases h0 : n = 0
  · subst h0
    go_enter Tryd.func62, Tryd.ntmps62
    go_wp2_with fail
    refine (below_any 10 HI0.out).mono ?_
    rintro e w1 ⟨he, I1, G1⟩
    rw [← HC.out] at he I1
    subst he
    have HI1 := Lib.hid I1
    have HG1 := Lib.hid (grown_trans HG0.out G1)
    have HX1 := Lib.hid (b3_grown HX0.out G1 HNE.out)
    clear I1 G1
    go_wp2_with fail
    refine (l4_num HI1.out).mono ?_
    rintro e w2 ⟨x, s2, hx, rfl, I2, G2⟩
    have HXS := Lib.hid (show x.size ≤ 16 from hx)
    have HI2 := Lib.hid I2
    have HG2 := Lib.hid (grown_trans HG1.out G2)
    have HX2 := Lib.hid (b3_grown HX1.out G2 HNE.out)
    clear hx I2 G2
    obtain ⟨q0, q1, q2⟩ := HX2.out.c
    have q3 := HX2.out.f
    go_wp2
    obtain ⟨r0, r1, r2⟩ := (HX2.out.put (3) 0 x).c
    exact bodyPost_ret (v := .agg #[.int .i64 (3), .string x, .int .i64 0]) (by simp [results, Tryd.results62, go_sem, r0, r1, r2]) rfl ⟨3, x, _, HXS.out, rfl, fin_in HI2.out hlt _ _ _, fin_grown HG2.out rfl _ _ _⟩
  obtain ⟨z0, -⟩ := neI h0
  by_cases h1 : n = 1
  · subst h1
    go_enter Tryd.func62, Tryd.ntmps62
    go_wp2_with fail
    refine (below_any 10 HI0.out).mono ?_
    rintro e w1 ⟨he, I1, G1⟩
    rw [← HC.out] at he I1
    subst he
    have HI1 := Lib.hid I1
    have HG1 := Lib.hid (grown_trans HG0.out G1)
    have HX1 := Lib.hid (b3_grown HX0.out G1 HNE.out)
    clear I1 G1
    go_wp2_with fail
    refine (l4_str HI1.out).mono ?_
    rintro e w2 ⟨x, s2, hx, rfl, I2, G2⟩
    have HXS := Lib.hid (show x.size ≤ 16 from hx)
    have HI2 := Lib.hid I2
    have HG2 := Lib.hid (grown_trans HG1.out G2)
    have HX2 := Lib.hid (b3_grown HX1.out G2 HNE.out)
    clear hx I2 G2
    obtain ⟨q0, q1, q2⟩ := HX2.out.c
    have q3 := HX2.out.f
    go_wp2
    obtain ⟨r0, r1, r2⟩ := (HX2.out.put (4) 0 x).c
    exact bodyPost_ret (v := .agg #[.int .i64 (4), .string x, .int .i64 0]) (by simp [results, Tryd.results62, go_sem, r0, r1, r2]) rfl ⟨4, x, _, HXS.out, rfl, fin_in HI2.out hlt _ _ _, fin_grown HG2.out rfl _ _ _⟩
  obtain ⟨z1, -⟩ := neI h1
  by_cases h2 : n = 2
  · subst h2
    go_enter Tryd.func62, Tryd.ntmps62
    go_wp2_with fail
    refine (below_any 10 HI0.out).mono ?_
    rintro e w1 ⟨he, I1, G1⟩
    rw [← HC.out] at he I1
    subst he
    have HI1 := Lib.hid I1
    have HG1 := Lib.hid (grown_trans HG0.out G1)
    have HX1 := Lib.hid (b3_grown HX0.out G1 HNE.out)
    clear I1 G1
    go_wp2_with fail
    refine (l4_ere HI1.out).mono ?_
    rintro e w2 ⟨x, s2, hx, rfl, I2, G2⟩
    have HXS := Lib.hid (show x.size ≤ 16 from hx)
    have HI2 := Lib.hid I2
    have HG2 := Lib.hid (grown_trans HG1.out G2)
    have HX2 := Lib.hid (b3_grown HX1.out G2 HNE.out)
    clear hx I2 G2
    obtain ⟨q0, q1, q2⟩ := HX2.out.c
    have q3 := HX2.out.f
    go_wp2
    obtain ⟨r0, r1, r2⟩ := (HX2.out.put (5) 0 x).c
    exact bodyPost_ret (v := .agg #[.int .i64 (5), .string x, .int .i64 0]) (by simp [results, Tryd.results62, go_sem, r0, r1, r2]) rfl ⟨5, x, _, HXS.out, rfl, fin_in HI2.out hlt _ _ _, fin_grown HG2.out rfl _ _ _⟩
  obtain ⟨z2, -⟩ := neI h2
  by_cases h3 : n = 3
  · subst h3
    go_enter Tryd.func62, Tryd.ntmps62
    go_wp2_with fail
    refine (below_any 10 HI0.out).mono ?_
    rintro e w1 ⟨he, I1, G1⟩
    rw [← HC.out] at he I1
    subst he
    have HI1 := Lib.hid I1
    have HG1 := Lib.hid (grown_trans HG0.out G1)
    have HX1 := Lib.hid (b3_grown HX0.out G1 HNE.out)
    clear I1 G1
    go_wp2_with fail
    refine (l2_word HI1.out).mono ?_
    rintro e w2 ⟨x, s2, hx, rfl, I2, G2⟩
    have HXS := Lib.hid (show x.size ≤ 16 from hx)
    have HI2 := Lib.hid I2
    have HG2 := Lib.hid (grown_trans HG1.out G2)
    have HX2 := Lib.hid (b3_grown HX1.out G2 HNE.out)
    clear hx I2 G2
    obtain ⟨q0, q1, q2⟩ := HX2.out.c
    have q3 := HX2.out.f
    go_wp2
    obtain ⟨r0, r1, r2⟩ := (HX2.out.put (6) 0 x).c
    exact bodyPost_ret (v := .agg #[.int .i64 (6), .string x, .int .i64 0]) (by simp [results, Tryd.results62, go_sem, r0, r1, r2]) rfl ⟨6, x, _, HXS.out, rfl, fin_in HI2.out hlt _ _ _, fin_grown HG2.out rfl _ _ _⟩
  obtain ⟨z3, -⟩ := neI h3
  by_cases h4 : n = 4
  · subst h4
    go_enter Tryd.func62, Tryd.ntmps62
    go_wp2_with fail
    refine (below_any 10 HI0.out).mono ?_
    rintro e w1 ⟨he, I1, G1⟩
    rw [← HC.out] at he I1
    subst he
    have HI1 := Lib.hid I1
    have HG1 := Lib.hid (grown_trans HG0.out G1)
    have HX1 := Lib.hid (b3_grown HX0.out G1 HNE.out)
    clear I1 G1
    go_wp2_with fail
    refine (l2_word HI1.out).mono ?_
    rintro e w2 ⟨x, s2, hx, rfl, I2, G2⟩
    have HXS := Lib.hid (show x.size ≤ 16 from hx)
    have HI2 := Lib.hid I2
    have HG2 := Lib.hid (grown_trans HG1.out G2)
    have HX2 := Lib.hid (b3_grown HX1.out G2 HNE.out)
    clear hx I2 G2
    obtain ⟨q0, q1, q2⟩ := HX2.out.c
    have q3 := HX2.out.f
    go_wp2
    obtain ⟨r0, r1, r2⟩ := (HX2.out.put (6) 0 x).c
    exact bodyPost_ret (v := .agg #[.int .i64 (6), .string x, .int .i64 0]) (by simp [results, Tryd.results62, go_sem, r0, r1, r2]) rfl ⟨6, x, _, HXS.out, rfl, fin_in HI2.out hlt _ _ _, fin_grown HG2.out rfl _ _ _⟩
  obtain ⟨z4, -⟩ := neI h4
  by_cases h5 : n = 5
  · subst h5
    go_enter Tryd.func62, Tryd.ntmps62
    go_wp2_with fail
    refine (below_any 10 HI0.out).mono ?_
    rintro e w1 ⟨he, I1, G1⟩
    rw [← HC.out] at he I1
    subst he
    have HI1 := Lib.hid I1
    have HG1 := Lib.hid (grown_trans HG0.out G1)
    have HX1 := Lib.hid (b3_grown HX0.out G1 HNE.out)
    clear I1 G1
    go_wp2_with fail
    refine (toks.builtins_list _).mono ?_
    rintro e w2 ⟨rfl, b2, h2⟩
    have HI2 := Lib.hid (HI1.out.keep b2 HI1.out.lt)
    have HG2 := Lib.hid (grown_trans HG1.out (grown_below (World.grownBy.refl w1 _) b2 rfl))
    have HX2 := Lib.hid (HX1.out.keep b2 HX1.out.lt)
    have H2 := Lib.hid h2
    have hq : w1.heap.size ≠ p := by have := HI1.out.lt; omega
    clear b2 h2
    go_wp2_with fail
    refine (pick_any w1.heap.size 21 toks.builtins HI2.out H2.out rfl (by decide) hq (by decide)).mono ?_
    rintro e w3 ⟨x, s3, hx, rfl, I3, G3⟩
    have HXS := Lib.hid (builtins_16 x hx)
    have HI3 := Lib.hid I3
    have HG3 := Lib.hid (grown_trans HG2.out G3)
    have HX3 := Lib.hid (b3_grown HX2.out G3 HNE.out)
    clear hx I3 G3
    obtain ⟨q0, q1, q2⟩ := HX3.out.c
    have q3 := HX3.out.f
    go_wp2
    obtain ⟨r0, r1, r2⟩ := (HX3.out.put (8) 0 x).c
    exact bodyPost_ret (v := .agg #[.int .i64 (8), .string x, .int .i64 0]) (by simp [results, Tryd.results62, go_sem, r0, r1, r2]) rfl ⟨8, x, _, HXS.out, rfl, fin_in HI3.out hlt _ _ _, fin_grown HG3.out rfl _ _ _⟩
  obtain ⟨z5, -⟩ := neI h5
  by_cases h6 : n = 6
  · subst h6
    go_enter Tryd.func62, Tryd.ntmps62
    go_wp2_with fail
    refine (below_any 10 HI0.out).mono ?_
    rintro e w1 ⟨he, I1, G1⟩
    rw [← HC.out] at he I1
    subst he
    have HI1 := Lib.hid I1
    have HG1 := Lib.hid (grown_trans HG0.out G1)
    have HX1 := Lib.hid (b3_grown HX0.out G1 HNE.out)
    clear I1 G1
    have hb2 := belowF_bd zs 17 s1 (by omega)
    obtain ⟨d, hd⟩ : ∃ d, d = belowF zs 17 s1 := ⟨_, rfl⟩
    rw [← hd] at hb2
    have HD := Lib.hid hd
    clear hd
    go_wp2_with fail
    refine (below_any 17 HI1.out).mono ?_
    rintro e w2 ⟨he, I2, G2⟩
    rw [← HD.out] at he I2
    subst he
    have HI2 := Lib.hid I2
    have HG2 := Lib.hid (grown_trans HG1.out G2)
    have HX2 := Lib.hid (b3_grown HX1.out G2 HNE.out)
    clear I2 G2
    go_wp2_with fail
    refine (spell.spec_spell _ _).mono ?_
    rintro e w3 ⟨rfl, b3⟩
    have HI3 := Lib.hid (HI2.out.keep b3 HI2.out.lt)
    have HG3 := Lib.hid (grown_trans HG2.out (grown_below (World.grownBy.refl w2 _) b3 rfl))
    have HX3 := Lib.hid (HX2.out.keep b3 HX2.out.lt)
    obtain ⟨x, hx⟩ : ∃ x, x = spell.spell (10 + d.1) := ⟨_, rfl⟩
    have HXS := Lib.hid (show x.size ≤ 16 by rw [hx]; exact spell_small _)
    rw [← hx]
    clear b3 hx
    obtain ⟨q0, q1, q2⟩ := HX3.out.c
    have q3 := HX3.out.f
    go_wp2
    obtain ⟨r0, r1, r2⟩ := (HX3.out.put (10 + d.1) 0 x).c
    exact bodyPost_ret (v := .agg #[.int .i64 (10 + d.1), .string x, .int .i64 0]) (by simp [results, Tryd.results62, go_sem, r0, r1, r2]) rfl ⟨10 + d.1, x, _, HXS.out, rfl, fin_in HI3.out hlt _ _ _, fin_grown HG3.out rfl _ _ _⟩
  obtain ⟨z6, -⟩ := neI h6
  clear h0 h1 h2 h3 h4 h5 h6
  go_enter Tryd.func62, Tryd.ntmps62
  go_wp2_with fail
  refine (below_any 10 HI0.out).mono ?_
  rintro e w1 ⟨he, I1, G1⟩
  rw [← HC.out] at he I1
  subst he
  have HI1 := Lib.hid I1
  have HG1 := Lib.hid (grown_trans HG0.out G1)
  have HX1 := Lib.hid (b3_grown HX0.out G1 HNE.out)
  clear I1 G1
  have hb2 := belowF_bd zs 39 s1 (by omega)
  obtain ⟨d, hd⟩ : ∃ d, d = belowF zs 39 s1 := ⟨_, rfl⟩
  rw [← hd] at hb2
  have HD := Lib.hid hd
  clear hd
  go_wp2_with fail
  refine (below_any 39 HI1.out).mono ?_
  rintro e w2 ⟨he, I2, G2⟩
  rw [← HD.out] at he I2
  subst he
  have HI2 := Lib.hid I2
  have HG2 := Lib.hid (grown_trans HG1.out G2)
  have HX2 := Lib.hid (b3_grown HX1.out G2 HNE.out)
  clear I2 G2
  go_wp2_with fail
  refine (spell.spec_spell _ _).mono ?_
  rintro e w3 ⟨rfl, b3⟩
  have HI3 := Lib.hid (HI2.out.keep b3 HI2.out.lt)
  have HG3 := Lib.hid (grown_trans HG2.out (grown_below (World.grownBy.refl w2 _) b3 rfl))
  have HX3 := Lib.hid (HX2.out.keep b3 HX2.out.lt)
  obtain ⟨x, hx⟩ : ∃ x, x = spell.spell (30 + d.1) := ⟨_, rfl⟩
  have HXS := Lib.hid (show x.size ≤ 16 by rw [hx]; exact spell_small _)
  rw [← hx]
  clear b3 hx
  obtain ⟨q0, q1, q2⟩ := HX3.out.c
  have q3 := HX3.out.f
  go_wp2
  obtain ⟨r0, r1, r2⟩ := (HX3.out.put (30 + d.1) 0 x).c
  exact bodyPost_ret (v := .agg #[.int .i64 (30 + d.1), .string x, .int .i64 0]) (by simp [results, Tryd.results62, go_sem, r0, r1, r2]) rfl ⟨30 + d.1, x, _, HXS.out, rfl, fin_in HI3.out hlt _ _ _, fin_grown HG3.out rfl _ _ _⟩
end Go.Proofs.YtlbloemmabjmoaaDoor.draw
