/-
  The verifier's drawing functions of texts and of token lists (spec.l5Source, DrawLex, DrawSpell): a text of at most 1000 bytes; at most 28 tokens with short texts, in memory of the call's own. Nothing that lay before is changed.
-/
import Derived.Test.YtlbloemmabjmoaaDoorDrawToks
import Derived.Test.YtlbloemmabjmoaaDoorDrawRest
import Derived.Test.YtlbloemmabjmoaaDoorSpelled
namespace Go.Proofs.YtlbloemmabjmoaaDoor.draw
open Go.ChangeShapes Go.WideShapes Go.ChangeAt Go.RowKit
open tk own
open toks (strCells)
set_option linter.unusedVariables false

theorem Short.tot {d : List Tk} (h : Short d) : tk.tot d ≤ 16 * d.length := by
  induction d with
  | nil => simp [tk.tot]
  | cons t d ih =>
    have h1 := h t (by simp)
    have h2 := ih fun u hu => h u (by simp [hu])
    simp only [tk.tot, List.length_cons]
    omega
theorem spell_size {d : List Tk} (h : Short d) (hn : d.length ≤ 28) : (spelled.spellB d).size ≤ 476 := by
  have h1 := h.tot
  have h2 := spelled.sp_len d none
  unfold spelled.spellB
  rw [spelled.bytes_size]
  omega

def oddL : List ByteArray := [⟨#[92, 10]⟩, ⟨#[32, 9]⟩, ⟨#[97, 98, 99, 100, 101, 102, 103, 104, 105, 106, 107, 108, 109]⟩, ⟨#[64]⟩, ⟨#[34, 111, 112, 101, 110]⟩, ⟨#[47, 120]⟩, ⟨#[46, 46]⟩, ⟨#[35, 32, 101, 110, 100]⟩]
theorem odd_small : ∀ x ∈ oddL, small x := by unfold small; decide
def tailL : List ByteArray := [⟨#[]⟩, ⟨#[120]⟩]
theorem tail_small : ∀ x ∈ tailL, small x := by unfold small; decide
def mid (x : ByteArray) : Prop := x.size ≤ 1000

set_option maxRecDepth 100000 in
set_option maxHeartbeats 3200000 in
theorem source_any {B p len cap : Nat} {w : World} {a : Option Addr} {zs : List Int} {s : Nat × Int} (H : In B w p a len cap zs s) :
    Calls Tryd.prog 41 #[.pointer (some ⟨p, 0, none⟩)] w (Strs B p a len cap zs mid w) := by
  have hlt := H.lt
  have HI := Lib.hid H
  clear H
  go_enter Tryd.func41, Tryd.ntmps41
  go_wp2_with fail
  refine (toks_any HI.out).mono ?_
  rintro e w1 ⟨v, d, s1, rfl, hd, hsh, hst⟩
  obtain ⟨c, cp, rfl⟩ := hst.own.form
  have HL := Lib.hid (hst.own.lies rfl)
  have HS := Lib.hid (spell_size hsh hd)
  have ht := hsh.tot
  have HI1 := Lib.hid hst.cur
  have HG1 := Lib.hid hst.grown
  clear hst hsh
  go_wp2_with fail
  refine (spelled.spec_spell d c cp _ (by omega) HL.out (by omega)).mono ?_
  rintro e w2 ⟨he, b2⟩
  obtain ⟨t, hdt⟩ : ∃ t, t = spelled.spellB d := ⟨_, rfl⟩
  rw [← hdt] at he
  subst he
  have hts : t.size ≤ 476 := by rw [hdt]; exact HS.out
  have HI2 := Lib.hid (HI1.out.keep b2 HI1.out.lt)
  have HG2 := Lib.hid (grown_below HG1.out (b2.mono HG1.out.size) rfl)
  clear hdt b2 HL HS HI1 HG1 ht hd
  have hb := belowF_bd zs 6 s1 (by omega)
  obtain ⟨n, hn⟩ : ∃ n, n = belowF zs 6 s1 := ⟨_, rfl⟩
  rw [← hn] at hb
  have HN := Lib.hid hn
  clear hn
  obtain ⟨m, s2⟩ := n
  simp only at hb
  go_wp2_with fail
  refine (below_any 6 HI2.out).mono ?_
  rintro e w3 ⟨he, I3, G3⟩
  rw [← HN.out] at he I3
  subst he
  have HI3 := Lib.hid I3
  have HG3 := Lib.hid (grown_trans HG2.out G3)
  clear I3 G3
  by_cases h0 : m = 0
  · subst h0
    go_wp2_with fail
    refine (spoil_any t (by omega) HI3.out).mono ?_
    rintro e w4 ⟨rfl, I4, G4⟩
    have HI4 := Lib.hid I4
    have HG4 := Lib.hid (grown_trans HG3.out G4)
    have hl := spoilF_len zs t s2
    obtain ⟨y, hy⟩ : ∃ y, y = (spoilF zs t s2).1 := ⟨_, rfl⟩
    rw [← hy] at hl
    rw [← hy]
    have HY := Lib.hid (show mid y by unfold mid; omega)
    clear I4 G4 hy
    go_wp2
    go_ret
    exact ⟨y, _, HY.out, rfl, HI4.out, HG4.out⟩
  · have t0 : (m == 0) = false := by rw [beq_eq_false_iff_ne]; exact h0
    by_cases h1 : m = 1
    · subst h1
      clear h0 t0
      go_wp2_with fail
      refine (pick_new small 8 oddL HI3.out odd_small rfl (by decide) (by decide)).mono ?_
      rintro e w4 ⟨x, s4, hx, rfl, I4, G4⟩
      have hxs : x.size ≤ 16 := hx
      have HI4 := Lib.hid I4
      have HG4 := Lib.hid (grown_trans HG3.out G4)
      clear hx I4 G4
      have ka := fun w => run_string_add_sum (P := Tryd.prog) (w := w) t x (by omega)
      have hsz : (t ++ x).size ≤ 500 := by rw [ByteArray.size_append]; omega
      obtain ⟨y, hy⟩ : ∃ y, y = t ++ x := ⟨_, rfl⟩
      rw [← hy] at hsz
      simp only [← hy] at ka
      clear hy
      go_wp2_with fail
      refine (pick_new small 2 tailL HI4.out tail_small rfl (by decide) (by decide)).mono ?_
      rintro e w5 ⟨x', s5, hx', rfl, I5, G5⟩
      have hxs' : x'.size ≤ 16 := hx'
      have HI5 := Lib.hid I5
      have HG5 := Lib.hid (grown_trans HG4.out G5)
      clear hx' I5 G5
      have kb := fun w => run_string_add_sum (P := Tryd.prog) (w := w) y x' (by omega)
      have HY := Lib.hid (show mid (y ++ x') by unfold mid; rw [ByteArray.size_append]; omega)
      go_wp2
      go_ret
      exact ⟨_, s5, HY.out, rfl, HI5.out, HG5.out⟩
    · have t1 : (m == 1) = false := by rw [beq_eq_false_iff_ne]; exact h1
      have HY := Lib.hid (show mid t by unfold mid; omega)
      clear h0 h1
      go_wp2
      go_ret
      exact ⟨t, s2, HY.out, rfl, HI3.out, HG3.out⟩

set_option maxHeartbeats 3200000 in
theorem draw_lex {len cap : Nat} {w : World} {a : Option Addr} {zs : List Int} (hc : Code w.heap.size w a len zs) (hl : len ≤ 1048576) :
    Calls Tryd.prog 18 #[.slice a len cap] w fun e w' => ∃ x : ByteArray, x.size ≤ 1000 ∧ e = .returned (.string x) ∧ Below w.heap.size w w' := by
  have HC := Lib.hid hc
  clear hc
  go_enter Tryd.func18, Tryd.ntmps18
  go_wp2_with fail
  refine (new_any HC.out (Nat.le_refl _) hl).mono ?_
  rintro e w1 ⟨rfl, I1, b1⟩
  have HI1 := Lib.hid I1
  have HB1 := Lib.hid b1
  clear I1 b1
  go_wp2_with fail
  refine (source_any HI1.out).mono ?_
  rintro e w2 ⟨x, s2, hx, rfl, I2, G2⟩
  have HX := Lib.hid hx
  have HB2 := Lib.hid (HB1.out.trans (below_of G2 (Nat.le_refl _) HB1.out.size))
  clear I2 G2 hx
  go_wp2
  go_ret
  exact ⟨x, HX.out, rfl, HB2.out⟩

set_option maxHeartbeats 3200000 in
theorem draw_spell {len cap : Nat} {w : World} {a : Option Addr} {zs : List Int} (hc : Code w.heap.size w a len zs) (hl : len ≤ 1048576) :
    Calls Tryd.prog 10 #[.slice a len cap] w fun e w' => ∃ (c : Option Addr) (cp : Nat) (d : List Tk), d.length ≤ 28 ∧ Short d ∧ e = .returned (.slice c d.length cp) ∧ Lies w'.heap.size w' c d ∧ Below w.heap.size w w' := by
  have HC := Lib.hid hc
  clear hc
  go_enter Tryd.func10, Tryd.ntmps10
  go_wp2_with fail
  refine (new_any HC.out (Nat.le_refl _) hl).mono ?_
  rintro e w1 ⟨rfl, I1, b1⟩
  have HI1 := Lib.hid I1
  have HB1 := Lib.hid b1
  clear I1 b1
  go_wp2_with fail
  refine (toks_any HI1.out).mono ?_
  rintro e w2 ⟨v, d, s2, rfl, hd, hsh, hst⟩
  obtain ⟨c, cp, rfl⟩ := hst.own.form
  have HL := Lib.hid (hst.own.lies rfl)
  have HB2 := Lib.hid (HB1.out.trans (below_of hst.grown (Nat.le_refl _) HB1.out.size))
  have HSH := Lib.hid hsh
  clear hst hsh
  go_wp2
  go_ret
  exact ⟨c, cp, d, hd, HSH.out, rfl, HL.out, HB2.out⟩
end Go.Proofs.YtlbloemmabjmoaaDoor.draw
