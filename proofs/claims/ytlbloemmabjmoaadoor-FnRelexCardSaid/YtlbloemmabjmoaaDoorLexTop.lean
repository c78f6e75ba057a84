/-
  impl.Lex: its two results are the lexer's as mathematics; the tokens lie in memory of the call's own: a contract.
-/
import Derived.Test.YtlbloemmabjmoaaDoorLexKind
import Derived.Test.YtlbloemmabjmoaaDoorOwn
import Derived.Laws.OwnMore
namespace Go.Proofs.YtlbloemmabjmoaaDoor.lex
open Go.ChangeShapes Go.WideShapes Go.ChangeAt Go.RowKit
open tk scan own
open spell (Held)
set_option linter.unusedVariables false

/-- No more tokens than bytes. -/
theorem lexZ_len (s : ByteArray) (i : Nat) (prev : Int) (hi : i ≤ s.size) : ∀ l, lexZ s i prev = .inr l → i + l.length ≤ s.size := by
  generalize hn : s.size - i = n
  induction n using Nat.strongRecOn generalizing i prev with
  | ind n ih =>
    intro l hl
    have hg := gap_bd s i
    by_cases h : gapZ s i < s.size
    · rcases kind_facts s (gapZ s i) prev h with h2 | h2
      · rw [lex_none h h2.1] at hl; cases hl
      · obtain ⟨k, e⟩ : ∃ K : Int × Int, K = kindAt s (gapZ s i) prev := ⟨_, rfl⟩
        obtain ⟨E, hE⟩ : ∃ E : Nat, (kindAt s (gapZ s i) prev).2 = E := ⟨(kindAt s (gapZ s i) prev).2.toNat, by omega⟩
        have hst := lex_step (s := s) (i := i) (prev := prev) (k := (kindAt s (gapZ s i) prev).1) (g := gapZ s i) (e := E) rfl h (by rw [← hE]) (by omega)
        rw [hst] at hl
        cases hx : lexZ s E (kindAt s (gapZ s i) prev).1 with
        | inl f => rw [hx] at hl; simp [push] at hl
        | inr m =>
          rw [hx] at hl
          simp [push] at hl
          have := ih (s.size - E) (by omega) E _ (by omega) rfl m hx
          rw [← hl]
          simp
          omega
    · rw [lex_end h] at hl
      injection hl with hl
      subst hl
      simp
      omega
theorem lexF_len (s : ByteArray) : (lexF s).1.length ≤ 3000 := by
  unfold lexF
  split
  · simp
  · cases hx : lexZ s 0 0 with
    | inl f => simp
    | inr l =>
      have := lexZ_len s 0 0 (by omega) l hx
      simp only
      omega

/-- What both lexers answer. -/
def LexOut (s : ByteArray) (w : World) (e : Ending) (w' : World) : Prop :=
  ∃ v, e = .returned (.tuple #[v, .agg #[.int .i64 (lexF s).2.1, .int .i64 (lexF s).2.2]]) ∧ Below w.heap.size w w' ∧ Own w.heap.size v (lexF s).1 w'

def FBox (g : Nat) (w : World) : Prop := w.heap[g]? = some (.cells #[.int .i64 0, .int .i64 0] 28 (0, 0))

def RelLex (s : ByteArray) (W : World) (v p a : Value) (wr : World) : Prop :=
  ∃ (d : List Tk) (P : Int) (A : Nat), Own (W.heap.size + 1) v d wr ∧ p = .int .i64 P ∧ a = .int .i64 (A : Int) ∧ A ≤ s.size ∧ gapZ s A = A ∧ push d (lexZ s A P) = lexZ s 0 0 ∧ d.length ≤ A ∧ Below W.heap.size W wr ∧ FBox W.heap.size wr

theorem lexF_big {s : ByteArray} (h : 3000 < s.size) : lexF s = ([], (1, 0)) := by unfold lexF; rw [if_pos h]
theorem lexF_fault {s : ByteArray} (h : ¬ 3000 < s.size) {f : Nat} (hl : lexZ s 0 0 = .inl f) : lexF s = ([], (2, (f : Int))) := by unfold lexF; rw [if_neg h, hl]
theorem lexF_ok {s : ByteArray} (h : ¬ 3000 < s.size) {l : List Tk} (hl : lexZ s 0 0 = .inr l) : lexF s = (l, (0, 0)) := by unfold lexF; rw [if_neg h, hl]

/-- A fault put into its box. -/
theorem fbox_put {g : Nat} {w : World} (h : FBox g w) (x y : Value) : ((w.setCell ⟨g, 0, none⟩ x).setCell ⟨g, 1, none⟩ y).heap[g]? = some (.cells #[x, y] 28 (0, 0)) :=
  heap_setCell_same _ g 1 _ _ y (heap_setCell_same _ g 0 _ _ x h)
theorem fbox_cells {g : Nat} {w : World} (h : FBox g w) (x y : Value) : ((w.setCell ⟨g, 0, none⟩ x).setCell ⟨g, 1, none⟩ y).cell? ⟨g, 0, none⟩ = some x ∧ ((w.setCell ⟨g, 0, none⟩ x).setCell ⟨g, 1, none⟩ y).cell? ⟨g, 1, none⟩ = some y :=
  ⟨by rw [cell_of_row _ g 0 _ _ _ (fbox_put h x y)]; rfl, by rw [cell_of_row _ g 1 _ _ _ (fbox_put h x y)]; rfl⟩
set_option maxHeartbeats 1600000 in
theorem impl_lex (s : ByteArray) (w : World) (hs : s.size ≤ 1048576) (hh : Held w) :
    Calls Tryd.prog 12 #[.string s] w (LexOut s w) := by
  have HH := Lib.hid hh
  have HF0 := Lib.hid (show FBox w.heap.size (w.alloc (.cells #[.int .i64 0, .int .i64 0] 28)) from heap_alloc_new w _)
  have HB0 := Lib.hid ((Below.refl w.heap.size w).alloc (Nat.le_refl _) (.cells #[.int .i64 0, .int .i64 0] 28))
  clear hh
  by_cases hbig : 3000 < s.size
  · have HR := Lib.hid (lexF_big hbig)
    go_enter Tryd.func12, Tryd.ntmps12
    go_wp2
    refine bodyPost_ret (v := .tuple #[.slice none 0 0, .agg #[.int .i64 1, .int .i64 0]]) (by simp [results, Tryd.results12, go_sem]) rfl ?_
    refine ⟨.slice none 0 0, by rw [HR.out], (Below.refl _ _).alloc (Nat.le_refl _) _, by rw [HR.out]; exact Own.nil _ _⟩
  have hgt : decide (3000 < s.size) = false := by rw [decide_eq_false_iff_not]; exact hbig
  have hs2 : s.size ≤ 3000 := by omega
  have HBIG := Lib.hid hbig
  have hg0 := gap_bd s 0
  obtain ⟨i0, hi, hz0, hz1, hz2⟩ := info_parts Tryd.infoTok
  have HG0 := Lib.hid (gap_gap s 0)
  have HL0 := Lib.hid (show push [] (lexZ s (gapZ s 0) 0) = lexZ s 0 0 by rw [push_nil]; exact lex_gap (gap_gap s 0))
  have hg1 : gapZ s 0 ≤ s.size := by omega
  obtain ⟨g0, hg0e⟩ : ∃ g, g = gapZ s 0 := ⟨_, rfl⟩
  rw [← hg0e] at HG0 HL0 hg1
  have HGE := Lib.hid hg0e
  clear hbig hg0 hg0e
  go_enter Tryd.func12, Tryd.ntmps12
  go_wp2_with fail
  refine (impl_gap s 0 _ hs (by omega)).mono ?_
  rintro e w1 ⟨he, rfl⟩
  rw [← HGE.out] at he
  subst he
  go_wp2
  go_loopw [4, 5, 6] (fun v p a wr => RelLex s w v p a wr) (fun _ _ a _ => s.size - (intOf a).toNat)
  case atStart => exact ⟨[], 0, g0, Own.nil _ _, rfl, rfl, hg1, HG0.out, HL0.out, by simp, HB0.out, HF0.out⟩
  case round =>
    obtain ⟨d, P, A, hown, rfl, rfl, hA, hgA, hpush, hdl, hbel, hfb⟩ := hrel
    have HOWN := Lib.hid hown
    have HGA := Lib.hid hgA
    have HPUSH := Lib.hid hpush
    have HBEL := Lib.hid hbel
    have HFB := Lib.hid hfb
    have hlt3 : w.heap.size < wr.heap.size := by
      rcases Nat.lt_or_ge w.heap.size wr.heap.size with h | h
      · exact h
      · unfold FBox at hfb; rw [Array.getElem?_eq_none h] at hfb; cases hfb
    have HHr := Lib.hid (HH.out.below hbel)
    have f0 : wr.frozen? ⟨w.heap.size, 0, none⟩ = false := frozen_of_row wr _ 0 _ _ hfb
    have f1 : wr.frozen? ⟨w.heap.size, 1, none⟩ = false := frozen_of_row wr _ 1 _ _ hfb
    have c0 : wr.cell? ⟨w.heap.size, 0, none⟩ = some (.int .i64 0) := by rw [cell_of_row wr _ 0 _ _ _ hfb]; rfl
    have c1 : wr.cell? ⟨w.heap.size, 1, none⟩ = some (.int .i64 0) := by rw [cell_of_row wr _ 1 _ _ _ hfb]; rfl
    clear hown hgA hpush hbel hfb
    by_cases hlt : A < s.size
    · have hf := kind_facts s A P hlt
      obtain ⟨K, hK⟩ : ∃ K, K = kindAt s A P := ⟨_, rfl⟩
      rw [← hK] at hf
      have HK := Lib.hid hK
      have hi1 : (A : Int) < (s.size : Int) := by omega
      clear hK
      by_cases he : K.2 ≤ (A : Int)
      · have HE := Lib.hid (lexF_fault HBIG.out (show lexZ s 0 0 = .inl A by rw [← HPUSH.out, lex_none (by rw [HGA.out]; exact hlt) (by rw [HGA.out, ← HK.out]; exact he), HGA.out]; rfl))
        clear hf
        go_wp2_with (go_at_call 37; refine (impl_kind s A P _ hs hlt HHr.out).mono ?_; rintro e w' ⟨he, rfl⟩; rw [← HK.out] at he; subst he)
        obtain ⟨d0, d1⟩ := fbox_cells HFB.out (.int .i64 2) (.int .i64 (A : Int))
        refine bodyPost_ret (v := .tuple #[.slice none 0 0, .agg #[.int .i64 2, .int .i64 (A : Int)]]) (by simp [results, Tryd.results12, go_sem, d0, d1]) rfl ?_
        exact ⟨.slice none 0 0, by rw [HE.out], below_set2 HBEL.out _ _, by rw [HE.out]; exact Own.nil _ _⟩
      · obtain ⟨k, e2⟩ := K
        simp only at hf he
        obtain ⟨E, rfl⟩ : ∃ E : Nat, e2 = E := ⟨e2.toNat, by omega⟩
        have hEA : A < E := by omega
        have hEs : E ≤ s.size := by omega
        have HST := Lib.hid (lex_step HGA.out hlt HK.out.symm hEA)
        have hx1 : (A : Int) ≤ (E : Int) := by omega
        have hx2 : (E : Int) ≤ (s.size : Int) := by omega
        have hgb := gap_bd s E
        obtain ⟨g, hg⟩ : ∃ g, g = gapZ s E := ⟨_, rfl⟩
        rw [← hg] at hgb
        have HG := Lib.hid hg
        clear hf hg
        have hle : ¬ (E : Int) ≤ (A : Int) := by omega
        have hsz := HBEL.out.size
        go_wp2_with (first | (go_at_call 37; refine (impl_kind s A P _ hs hlt HHr.out).mono ?_; rintro e w' ⟨he, rfl⟩; rw [← HK.out] at he; subst he) | (at_builtin; refine wpList_append_tok wr ⟨k, s.extract A E, (A : Int)⟩ rfl _ _ rfl (w.heap.size + 1) _ d rfl HOWN.out rfl ?n1 ?n2 ?n3))
        case n1 => omega
        case n2 => omega
        case n3 =>
          intro v' w2 hown' b2 _
          have HO := Lib.hid hown'
          have HB2 := Lib.hid b2
          clear hown' b2
          go_wp2_with (go_at_call 36; refine (impl_gap s E _ hs hEs).mono ?_; rintro e w' ⟨he, rfl⟩; rw [← HG.out] at he; subst he)
          go_roundw
          case rel => exact ⟨d ++ [⟨k, s.extract A E, (A : Int)⟩], k, g, HO.out, rfl, rfl, by omega, by rw [HG.out]; exact gap_gap s E, by rw [push_push, HG.out, lex_gap (gap_gap s E), ← HST.out]; exact HPUSH.out, by simp; omega, HBEL.out.trans (HB2.out.mono (Nat.le_succ _)), (HB2.out.block _ (Nat.lt_succ_self _)).trans HFB.out⟩
          case measure => simp [intOf]; omega
    · obtain rfl : A = s.size := by omega
      have HE := Lib.hid (lexF_ok HBIG.out (show lexZ s 0 0 = .inr d by rw [← HPUSH.out, lex_end (by rw [HGA.out]; omega)]; simp [push]))
      go_wp2
      obtain ⟨d0, d1⟩ := fbox_cells HFB.out (.int .i64 0) (.int .i64 0)
      refine bodyPost_ret (v := .tuple #[u4, .agg #[.int .i64 0, .int .i64 0]]) (by simp [results, Tryd.results12, go_sem, d0, d1]) rfl ?_
      exact ⟨u4, by rw [HE.out], below_set2 HBEL.out _ _, by rw [HE.out]; exact HOWN.out.set2 _ _⟩
end Go.Proofs.YtlbloemmabjmoaaDoor.lex
