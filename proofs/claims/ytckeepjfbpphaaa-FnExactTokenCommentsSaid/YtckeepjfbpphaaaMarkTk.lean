/-
  The marks that the law lays into a slice of tokens: laws.markText, markTokenS, heldTokenS, eqFault: contracts.
-/
import Derived.Test.YtckeepjfbpphaaaOwn
import Derived.Test.YtckeepjfbpphaaaMarkText
import Derived.Lib.Strings
namespace Go.Proofs.Ytckeepjfbpphaaa.markt
open mark
open Go.ChangeShapes Go.WideShapes Go.ChangeAt Go.RowKit
open tk own
set_option linter.unusedVariables false


/-! ### A slice of tokens, marked -/
def mk (k0 : Nat) (i : Nat) : Tk := ⟨((k0 + 3 * i : Nat) : Int), markF (k0 + 3 * i + 1), ((k0 + 3 * i + 2 : Nat) : Int)⟩
def marks (k0 n : Nat) : List Tk := (List.range n).map (mk k0)
theorem marks_len (k0 n : Nat) : (marks k0 n).length = n := by simp [marks]
theorem marks_succ (k0 n : Nat) : marks k0 (n + 1) = marks k0 n ++ [mk k0 n] := by simp [marks, List.range_succ]

theorem blk_pre {w : World} {g n : Nat} {l : List Tk} (h : Blk w g n l) (hl : l.length < n) (v : Value) :
    Blk (w.setCell ⟨g, l.length * 3, none⟩ v) g n l ∧ (w.setCell ⟨g, l.length * 3, none⟩ v).cell? ⟨g, l.length * 3, none⟩ = some v := by
  obtain ⟨c, hc, hs, hn, hx⟩ := h
  have hc' := heap_setCell_same w g (l.length * 3) _ _ v hc
  refine ⟨⟨_, hc', by simpa using hs, hn, fun i hi => ?_⟩, ?_⟩
  · obtain ⟨x0, x1, x2⟩ := hx i hi
    simp only [Array.getElem?_setIfInBounds]
    exact ⟨by rw [if_neg (by omega)]; exact x0, by rw [if_neg (by omega)]; exact x1, by rw [if_neg (by omega)]; exact x2⟩
  · rw [cell_of_row _ g _ _ _ _ hc', Array.getElem?_setIfInBounds, if_pos rfl, if_pos (by omega)]
theorem blk_post {w : World} {g n : Nat} {l : List Tk} (h : Blk w g n l) (t : Tk) (hl : l.length < n) (h0 : w.cell? ⟨g, l.length * 3, none⟩ = some (.int .i64 t.k)) :
    Blk ((w.setCell ⟨g, l.length * 3 + 1, none⟩ (.string t.s)).setCell ⟨g, l.length * 3 + 2, none⟩ (.int .i64 t.a)) g n (l ++ [t]) := by
  obtain ⟨c, hc, hs, hn, hx⟩ := h
  rw [cell_of_row _ g _ _ _ _ hc] at h0
  refine ⟨_, heap_setCell_same _ g _ _ _ _ (heap_setCell_same w g (l.length * 3 + 1) _ _ _ hc), by simpa using hs, by simp; omega, fun i hi => ?_⟩
  simp only [Array.getElem?_setIfInBounds, Array.size_setIfInBounds]
  by_cases he : i < l.length
  · obtain ⟨x0, x1, x2⟩ := hx i he
    rw [List.getElem_append_left he]
    exact ⟨by rw [if_neg (by omega), if_neg (by omega)]; exact x0, by rw [if_neg (by omega), if_neg (by omega)]; exact x1, by rw [if_neg (by omega), if_neg (by omega)]; exact x2⟩
  · simp at hi
    obtain rfl : i = l.length := by omega
    rw [List.getElem_append_right (Nat.le_refl _)]
    simp only [Nat.sub_self, List.getElem_cons_zero]
    exact ⟨by rw [if_neg (by omega), if_neg (by omega)]; exact h0, by rw [if_neg (by omega), if_pos trivial, if_pos (by omega)], by rw [if_pos trivial, if_pos (by omega)]⟩
theorem grown_trans {a b c : World} {p : Nat} (h1 : a.grownBy b (some p)) (h2 : b.grownBy c (some p)) : a.grownBy c (some p) :=
  ⟨h2.os.trans h1.os, h2.tape.trans h1.tape, h2.output.trans h1.output, Nat.le_trans h1.size h2.size, fun k hk hne => (h2.block k (Nat.lt_of_lt_of_le hk h1.size) hne).trans (h1.block k hk hne)⟩
theorem grown_set {w w1 : World} {p j : Nat} (u : Value) (h : w.grownBy w1 (some p)) : w.grownBy (w1.setCell ⟨p, j, none⟩ u) (some p) :=
  ⟨h.os, h.tape, h.output, by simp; exact h.size, fun k hk hne => by
    rw [heap_setCell_other w1 ⟨p, j, none⟩ k u (fun e => hne (by rw [e]))]
    exact h.block k hk hne⟩
theorem grown_below {w w1 w2 : World} {p : Nat} (h : w.grownBy w1 (some p)) (hb : Below w1.heap.size w1 w2) : w.grownBy w2 (some p) :=
  ⟨hb.os.trans h.os, hb.tape.trans h.tape, hb.output.trans h.output, Nat.le_trans h.size hb.size, fun k hk hne => (hb.block k (Nat.lt_of_lt_of_le hk h.size)).trans (h.block k hk hne)⟩

def RelMk (W : World) (g cap k0 n : Nat) (k i : Value) (wr : World) : Prop :=
  ∃ I : Nat, I ≤ n ∧ i = .int .i64 (I : Int) ∧ k = .int .i64 ((k0 + 3 * I : Nat) : Int) ∧ Blk wr g cap (marks k0 I) ∧ W.grownBy wr (some g)

set_option maxHeartbeats 1600000 in
theorem mark_toks (g cap n k0 : Nat) (l : List Tk) (w : World) (hb : Blk w g cap l) (hn : n ≤ cap) (hn2 : n ≤ 1048576) (hk : 0 < k0) (hk2 : k0 ≤ 10) :
    Calls Try.prog 11 #[.slice (some ⟨g, 0, none⟩) n cap, .int .i64 (k0 : Int)] w fun e w' => e = .returned (.int .i64 ((k0 + 3 * n : Nat) : Int)) ∧ Blk w' g cap (marks k0 n) ∧ w.grownBy w' (some g) := by
  have HB0 := Lib.hid (show Blk w g cap (marks k0 0) by
    obtain ⟨c, hc, hs, -, -⟩ := hb
    exact ⟨c, hc, hs, by simp [marks], fun i hi => by simp [marks] at hi⟩)
  clear hb
  go_enter Try.func11, Try.ntmps11
  go_wp2
  go_loopw [1, 5] (fun k i wr => RelMk w g cap k0 n k i wr) (fun _ i _ => n - (intOf i).toNat)
  case atStart => exact ⟨0, by omega, rfl, by simp, HB0.out, World.grownBy.refl w _⟩
  case round =>
    obtain ⟨I, hI, rfl, rfl, hblk, hgr⟩ := hrel
    have HK := Lib.hid hblk
    have HG := Lib.hid hgr
    clear hblk hgr
    by_cases hlt : I < n
    · have hi1 : (I : Int) < (n : Int) := by omega
      have hll := marks_len k0 I
      obtain ⟨P, hP⟩ : ∃ P, P = k0 + 3 * I := ⟨_, rfl⟩
      rw [← hP]
      have hPb : 0 < P ∧ P ≤ 4000000 := by omega
      have HP := Lib.hid hP
      obtain ⟨v0, e0⟩ := HK.out.some (I * 3) (by omega)
      have f0 := HK.out.frozen (I * 3)
      have hpre := blk_pre HK.out (by omega) (.int .i64 (P : Int))
      rw [hll] at hpre
      have HPRE := Lib.hid hpre
      have HG1 := Lib.hid (grown_set (j := I * 3) (.int .i64 (P : Int)) HG.out)
      clear hP hpre hll
      go_wp2_with fail
      refine (mark_text1 P _ (by omega)).mono ?_
      rintro e w2 ⟨rfl, b2⟩
      have HB2 := Lib.hid (HPRE.out.1.keep b2 HPRE.out.1.lt)
      have HC2 := Lib.hid ((b2.cell (p := ⟨g, I * 3, none⟩) HPRE.out.1.lt).trans HPRE.out.2)
      have HG2 := Lib.hid (grown_below HG1.out b2)
      obtain ⟨v1, e1⟩ := HB2.out.some (I * 3 + 1) (by omega)
      obtain ⟨v2, e2⟩ := HB2.out.some (I * 3 + 2) (by omega)
      have f1 := HB2.out.frozen (I * 3 + 1)
      have f2 := HB2.out.frozen (I * 3 + 2)
      clear b2 e0 f0
      go_wp2
      go_roundw
      case rel =>
        refine ⟨I + 1, by omega, by go_num, congrArg (Value.int .i64) (by have := HP.out; omega), ?_, ?_⟩
        · have hq := blk_post HB2.out (mk k0 I) (by rw [marks_len]; omega) (by rw [marks_len, HC2.out, HP.out]; rfl)
          rw [marks_len] at hq
          rw [marks_succ]
          have ea : (mk k0 I).s = markF (P + 1) := by rw [HP.out]; rfl
          have eb : (mk k0 I).a = (P : Int) + 1 + 1 := by rw [HP.out]; show ((k0 + 3 * I + 2 : Nat) : Int) = _; omega
          rw [ea, eb] at hq
          exact hq
        · exact grown_set _ (grown_set _ HG2.out)
      case measure => simp [intOf]; omega
    · obtain rfl : I = n := by omega
      go_wp2
      go_ret
      exact ⟨rfl, HK.out, HG.out⟩

theorem mark_none (a : Option Addr) (cap : Nat) (k : Int) (w : World) :
    Calls Try.prog 11 #[.slice a 0 cap, .int .i64 k] w fun e w' => e = .returned (.int .i64 k) ∧ w = w' := by
  go_enter Try.func11, Try.ntmps11
  go_wp2
  go_loop [1, 5] (fun k' i => k' = .int .i64 k ∧ i = .int .i64 0) (fun _ _ => 0)
  case atStart => exact ⟨rfl, rfl⟩
  case round =>
    obtain ⟨rfl, rfl⟩ := hrel
    go_wp2
    go_ret
    exact ⟨rfl, rfl⟩

/-! ### The marks looked for -/
def RelHd (W : World) (n k0 : Nat) (k i : Value) (wr : World) : Prop :=
  ∃ I : Nat, I ≤ n ∧ i = .int .i64 (I : Int) ∧ k = .int .i64 ((k0 + 3 * I : Nat) : Int) ∧ Below W.heap.size W wr

theorem one_start {w W : World} {b o : Nat} {x : Tk} (h : At W b o x) (hB : Below w.heap.size w W) :
    W.cell? ⟨b, o + 1, none⟩ = some (.string x.s) ∧ Below w.heap.size w W := ⟨h.2.1, hB⟩
theorem one_drew {w W : World} {b o : Nat} {x : ByteArray} (h : W.cell? ⟨b, o, none⟩ = some (.string x) ∧ Below w.heap.size w W) : W.drew.cell? ⟨b, o, none⟩ = some (.string x) ∧ Below w.heap.size w W.drew := ⟨h.1, h.2.drew⟩
theorem one_keep {w W w1 : World} {b o : Nat} {x : ByteArray} (hb : b < w.heap.size) (h : W.cell? ⟨b, o, none⟩ = some (.string x) ∧ Below w.heap.size w W) (hk : Below W.heap.size W w1) : w1.cell? ⟨b, o, none⟩ = some (.string x) ∧ Below w.heap.size w w1 :=
  ⟨(hk.cell (p := ⟨b, o, none⟩) (Nat.lt_of_lt_of_le hb h.2.size)).trans h.1, h.2.trans (hk.mono h.2.size)⟩

/-- A slice of the call's own, marked. -/
theorem mark_own {B : Nat} {a : Option Addr} {c : Nat} {l : List Tk} {w : World} (o : Own B (.slice a l.length c) l w) (hl : l.length ≤ 3000) (hB : B ≤ w.heap.size) :
    Calls Try.prog 11 #[.slice a l.length c, .int .i64 1] w fun e w' => e = .returned (.int .i64 ((1 + 3 * l.length : Nat) : Int)) ∧ Below B w w' ∧ Lies w'.heap.size w' a (marks 1 l.length) := by
  by_cases h0 : l.length = 0
  · rw [h0]
    exact (mark_none a c 1 w).mono fun e w' ⟨he, hw⟩ => ⟨he, by rw [← hw]; exact Below.refl _ _, .inl rfl⟩
  · obtain ⟨g, cap, hv, hg, hb⟩ := o.blk (by omega)
    injection hv with ha _ hcap
    subst ha hcap
    have hle : l.length ≤ c := by obtain ⟨_, _, _, h, _⟩ := hb; exact h
    refine (mark_toks g c l.length 1 l w hb hle (by omega) (by omega) (by omega)).mono fun e w' ⟨he, hk, hgr⟩ => ⟨he, ?_, ?_⟩
    · exact (Below.refl B w).grown hgr hB (fun k hk => by cases hk; exact hg)
    · exact hk.lies
end Go.Proofs.Ytckeepjfbpphaaa.markt
