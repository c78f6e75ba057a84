/-
  The marks that the law lays into a slice of tokens: laws.markText, markTokenS, heldTokenS, eqFault: contracts.
-/
import Derived.Test.YtlbloemmabjmoaaDoorOwn
import Derived.Test.YtlbloemmabjmoaaDoorBytes
import Derived.Lib.Strings
namespace Go.Proofs.YtlbloemmabjmoaaDoor.mark
open Go.ChangeShapes Go.WideShapes Go.ChangeAt Go.RowKit
open tk own
set_option linter.unusedVariables false

def markGo (k : Nat) (out : ByteArray) : ByteArray := if h : k = 0 then out else markGo (k / 10) (⟨#[UInt8.ofNat (48 + k % 10)]⟩ ++ out)
termination_by k
decreasing_by omega
def markF (k : Nat) : ByteArray := if k = 0 then ⟨#[109, 48]⟩ else ⟨#[109]⟩ ++ markGo k ⟨#[]⟩
theorem go_step {k : Nat} {out : ByteArray} (h : ¬ k = 0) : markGo k out = markGo (k / 10) (⟨#[UInt8.ofNat (48 + k % 10)]⟩ ++ out) := by rw [markGo, dif_neg h]
theorem go_end (out : ByteArray) : markGo 0 out = out := by rw [markGo, dif_pos rfl]

/-- The byte of a number. -/
def dgt (x : Int) : UInt8 := UInt8.ofNat x.toNat
theorem dgt_nat (K : Nat) : dgt (48 + (K : Int) % 10) = UInt8.ofNat (48 + K % 10) := by unfold dgt; congr 1
theorem conv_dgt (w : World) (x : Int) (h0 : 0 ≤ x) (h1 : x < 256) :
    (convert 22 9 (.slice (some ⟨w.heap.size, 0, none⟩) 1 1)).run Tryd.prog (w.alloc (.cells #[.int .u8 x] 5)) = .ok (.string ⟨#[dgt x]⟩) (w.alloc (.cells #[.int .u8 x] 5)) := conv_one w x h0 h1

def RelM (W : World) (k0 : Nat) (k out : Value) (wr : World) : Prop :=
  ∃ (K : Nat) (o : ByteArray), k = .int .i64 (K : Int) ∧ out = .string o ∧ markGo K o = markGo k0 ⟨#[]⟩ ∧ o.size + K ≤ k0 ∧ Below W.heap.size W wr

set_option maxRecDepth 20000 in
theorem mark_text (k : Nat) (w : World) (hk0 : 0 < k) (hk : k ≤ 1048576) :
    Calls Tryd.prog 53 #[.int .i64 (k : Int)] w fun e w' => e = .returned (.string (markF k)) ∧ Below w.heap.size w w' := by
  have HM := Lib.hid (show markF k = ⟨#[109]⟩ ++ markGo k ⟨#[]⟩ by unfold markF; rw [if_neg (by omega)])
  go_enter Tryd.func53, Tryd.ntmps53
  go_wp2
  go_loopw [0, 3] (fun v o wr => RelM w k v o wr) (fun v _ _ => (intOf v).toNat)
  case atStart => exact ⟨k, ⟨#[]⟩, rfl, rfl, rfl, by show 0 + k ≤ k; omega, Below.refl _ _⟩
  case round =>
    obtain ⟨K, o, rfl, rfl, hgo, hsz, hbel⟩ := hrel
    have HGO := Lib.hid hgo
    have HBEL := Lib.hid hbel
    clear hgo hbel
    by_cases h0 : K = 0
    · subst h0
      have HE := Lib.hid (HGO.out.symm.trans (go_end o))
      have ka := fun w => run_string_add_sum (P := Tryd.prog) (w := w) ⟨#[109]⟩ o (by show 1 + o.size ≤ _; omega)
      go_wp2
      go_ret
      exact ⟨by rw [HM.out, HE.out]; rfl, HBEL.out⟩
    · have hK0 : (0 : Int) < (K : Int) := by omega
      have hlim1 : K ≤ 1048576 := by omega
      have hlim2 : o.size ≤ 1048576 := by omega
      have HSZ := Lib.hid hsz
      have HKK := Lib.hid hk
      clear hsz hk
      have HG := Lib.hid ((go_step (out := o) h0).symm.trans HGO.out)
      have kc := conv_dgt wr (48 + (K : Int) % 10) (by omega) (by omega)
      have HC := Lib.hid (dgt_nat K)
      have ka := fun w => run_string_add_sum (P := Tryd.prog) (w := w) ⟨#[dgt (48 + (K : Int) % 10)]⟩ o (by show 1 + o.size ≤ _; omega)
      clear h0
      go_wp2
      go_roundw
      case rel => exact ⟨K / 10, _, by go_num, rfl, by rw [HC.out]; exact HG.out, by rw [ByteArray.size_append]; show 1 + o.size + K / 10 ≤ k; have := HSZ.out; omega, HBEL.out.alloc HBEL.out.size _⟩
      case measure => simp [intOf]; omega

theorem mark_text1 (P : Nat) (w : World) (hk : P + 1 ≤ 1048576) :
    Calls Tryd.prog 53 #[.int .i64 ((P : Int) + 1)] w fun e w' => e = .returned (.string (markF (P + 1))) ∧ Below w.heap.size w w' := by
  have := mark_text (P + 1) w (by omega) hk
  rwa [show ((P + 1 : Nat) : Int) = (P : Int) + 1 by omega] at this

/-! ### A slice of tokens, marked -/
def mk (k0 : Nat) (i : Nat) : Tk := ⟨((k0 + 3 * i : Nat) : Int), markF (k0 + 3 * i + 1), ((k0 + 3 * i + 2 : Nat) : Int)⟩
def marks (k0 n : Nat) : List Tk := (List.range n).map (mk k0)
theorem marks_len (k0 n : Nat) : (marks k0 n).length = n := by simp [marks]
theorem marks_succ (k0 n : Nat) : marks k0 (n + 1) = marks k0 n ++ [mk k0 n] := by simp [marks, List.range_succ]

theorem blk_pre {w : World} {g n : Nat} {l : List Tk} (h : Blk w g n l) (hl : l.length < n) (v : Value) :
    Blk (w.setCell ⟨g, l.length * 3, none⟩ v) g n l ∧ (w.setCell ⟨g, l.length * 3, none⟩ v).cell? ⟨g, l.length * 3, none⟩ = some v := by
  obtain ⟨c, hc, hs, hn, hx⟩ := h
  have hc' := heap_setCell_same w g (l.length * 3) _ _ v hc
  refine ⟨⟨_, hc', by simpa using hs, hn, fun i hi => ?_⟩, ?_⟩
  · obtain ⟨x0, x1, x2⟩ := hx i hi
    simp only [Array.getElem?_setIfInBounds]
    exact ⟨by rw [if_neg (by omega)]; exact x0, by rw [if_neg (by omega)]; exact x1, by rw [if_neg (by omega)]; exact x2⟩
  · rw [cell_of_row _ g _ _ _ _ hc', Array.getElem?_setIfInBounds, if_pos rfl, if_pos (by omega)]
theorem blk_post {w : World} {g n : Nat} {l : List Tk} (h : Blk w g n l) (t : Tk) (hl : l.length < n) (h0 : w.cell? ⟨g, l.length * 3, none⟩ = some (.int .i64 t.k)) :
    Blk ((w.setCell ⟨g, l.length * 3 + 1, none⟩ (.string t.s)).setCell ⟨g, l.length * 3 + 2, none⟩ (.int .i64 t.a)) g n (l ++ [t]) := by
  obtain ⟨c, hc, hs, hn, hx⟩ := h
  rw [cell_of_row _ g _ _ _ _ hc] at h0
  refine ⟨_, heap_setCell_same _ g _ _ _ _ (heap_setCell_same w g (l.length * 3 + 1) _ _ _ hc), by simpa using hs, by simp; omega, fun i hi => ?_⟩
  simp only [Array.getElem?_setIfInBounds, Array.size_setIfInBounds]
  by_cases he : i < l.length
  · obtain ⟨x0, x1, x2⟩ := hx i he
    rw [List.getElem_append_left he]
    exact ⟨by rw [if_neg (by omega), if_neg (by omega)]; exact x0, by rw [if_neg (by omega), if_neg (by omega)]; exact x1, by rw [if_neg (by omega), if_neg (by omega)]; exact x2⟩
  · simp at hi
    obtain rfl : i = l.length := by omega
    rw [List.getElem_append_right (Nat.le_refl _)]
    simp only [Nat.sub_self, List.getElem_cons_zero]
    exact ⟨by rw [if_neg (by omega), if_neg (by omega)]; exact h0, by rw [if_neg (by omega), if_pos trivial, if_pos (by omega)], by rw [if_pos trivial, if_pos (by omega)]⟩
theorem grown_trans {a b c : World} {p : Nat} (h1 : a.grownBy b (some p)) (h2 : b.grownBy c (some p)) : a.grownBy c (some p) :=
  ⟨h2.os.trans h1.os, h2.tape.trans h1.tape, h2.output.trans h1.output, Nat.le_trans h1.size h2.size, fun k hk hne => (h2.block k (Nat.lt_of_lt_of_le hk h1.size) hne).trans (h1.block k hk hne)⟩
theorem grown_set {w w1 : World} {p j : Nat} (u : Value) (h : w.grownBy w1 (some p)) : w.grownBy (w1.setCell ⟨p, j, none⟩ u) (some p) :=
  ⟨h.os, h.tape, h.output, by simp; exact h.size, fun k hk hne => by
    rw [heap_setCell_other w1 ⟨p, j, none⟩ k u (fun e => hne (by rw [e]))]
    exact h.block k hk hne⟩
theorem grown_below {w w1 w2 : World} {p : Nat} (h : w.grownBy w1 (some p)) (hb : Below w1.heap.size w1 w2) : w.grownBy w2 (some p) :=
  ⟨hb.os.trans h.os, hb.tape.trans h.tape, hb.output.trans h.output, Nat.le_trans h.size hb.size, fun k hk hne => (hb.block k (Nat.lt_of_lt_of_le hk h.size)).trans (h.block k hk hne)⟩

def RelMk (W : World) (g cap k0 n : Nat) (k i : Value) (wr : World) : Prop :=
  ∃ I : Nat, I ≤ n ∧ i = .int .i64 (I : Int) ∧ k = .int .i64 ((k0 + 3 * I : Nat) : Int) ∧ Blk wr g cap (marks k0 I) ∧ W.grownBy wr (some g)

set_option maxHeartbeats 1600000 in
theorem mark_toks (g cap n k0 : Nat) (l : List Tk) (w : World) (hb : Blk w g cap l) (hn : n ≤ cap) (hn2 : n ≤ 10000) (hk : 0 < k0) (hk2 : k0 ≤ 10) :
    Calls Tryd.prog 23 #[.slice (some ⟨g, 0, none⟩) n cap, .int .i64 (k0 : Int)] w fun e w' => e = .returned (.int .i64 ((k0 + 3 * n : Nat) : Int)) ∧ Blk w' g cap (marks k0 n) ∧ w.grownBy w' (some g) := by
  have HB0 := Lib.hid (show Blk w g cap (marks k0 0) by
    obtain ⟨c, hc, hs, -, -⟩ := hb
    exact ⟨c, hc, hs, by simp [marks], fun i hi => by simp [marks] at hi⟩)
  clear hb
  go_enter Tryd.func23, Tryd.ntmps23
  go_wp2
  go_loopw [1, 5] (fun k i wr => RelMk w g cap k0 n k i wr) (fun _ i _ => n - (intOf i).toNat)
  case atStart => exact ⟨0, by omega, rfl, by simp, HB0.out, World.grownBy.refl w _⟩
  case round =>
    obtain ⟨I, hI, rfl, rfl, hblk, hgr⟩ := hrel
    have HK := Lib.hid hblk
    have HG := Lib.hid hgr
    clear hblk hgr
    by_cases hlt : I < n
    · have hi1 : (I : Int) < (n : Int) := by omega
      have hll := marks_len k0 I
      obtain ⟨P, hP⟩ : ∃ P, P = k0 + 3 * I := ⟨_, rfl⟩
      rw [← hP]
      have hPb : 0 < P ∧ P ≤ 40000 := by omega
      have HP := Lib.hid hP
      obtain ⟨v0, e0⟩ := HK.out.some (I * 3) (by omega)
      have f0 := HK.out.frozen (I * 3)
      have hpre := blk_pre HK.out (by omega) (.int .i64 (P : Int))
      rw [hll] at hpre
      have HPRE := Lib.hid hpre
      have HG1 := Lib.hid (grown_set (j := I * 3) (.int .i64 (P : Int)) HG.out)
      clear hP hpre hll
      go_wp2_with fail
      refine (mark_text1 P _ (by omega)).mono ?_
      rintro e w2 ⟨rfl, b2⟩
      have HB2 := Lib.hid (HPRE.out.1.keep b2 HPRE.out.1.lt)
      have HC2 := Lib.hid ((b2.cell (p := ⟨g, I * 3, none⟩) HPRE.out.1.lt).trans HPRE.out.2)
      have HG2 := Lib.hid (grown_below HG1.out b2)
      obtain ⟨v1, e1⟩ := HB2.out.some (I * 3 + 1) (by omega)
      obtain ⟨v2, e2⟩ := HB2.out.some (I * 3 + 2) (by omega)
      have f1 := HB2.out.frozen (I * 3 + 1)
      have f2 := HB2.out.frozen (I * 3 + 2)
      clear b2 e0 f0
      go_wp2
      go_roundw
      case rel =>
        refine ⟨I + 1, by omega, by go_num, congrArg (Value.int .i64) (by have := HP.out; omega), ?_, ?_⟩
        · have hq := blk_post HB2.out (mk k0 I) (by rw [marks_len]; omega) (by rw [marks_len, HC2.out, HP.out]; rfl)
          rw [marks_len] at hq
          rw [marks_succ]
          have ea : (mk k0 I).s = markF (P + 1) := by rw [HP.out]; rfl
          have eb : (mk k0 I).a = (P : Int) + 1 + 1 := by rw [HP.out]; show ((k0 + 3 * I + 2 : Nat) : Int) = _; omega
          rw [ea, eb] at hq
          exact hq
        · exact grown_set _ (grown_set _ HG2.out)
      case measure => simp [intOf]; omega
    · obtain rfl : I = n := by omega
      go_wp2
      go_ret
      exact ⟨rfl, HK.out, HG.out⟩

theorem mark_none (a : Option Addr) (cap : Nat) (k : Int) (w : World) :
    Calls Tryd.prog 23 #[.slice a 0 cap, .int .i64 k] w fun e w' => e = .returned (.int .i64 k) ∧ w = w' := by
  go_enter Tryd.func23, Tryd.ntmps23
  go_wp2
  go_loop [1, 5] (fun k' i => k' = .int .i64 k ∧ i = .int .i64 0) (fun _ _ => 0)
  case atStart => exact ⟨rfl, rfl⟩
  case round =>
    obtain ⟨rfl, rfl⟩ := hrel
    go_wp2
    go_ret
    exact ⟨rfl, rfl⟩

/-! ### The marks looked for -/
def RelHd (W : World) (n k0 : Nat) (k i : Value) (wr : World) : Prop :=
  ∃ I : Nat, I ≤ n ∧ i = .int .i64 (I : Int) ∧ k = .int .i64 ((k0 + 3 * I : Nat) : Int) ∧ Below W.heap.size W wr

theorem one_start {w W : World} {b o : Nat} {x : Tk} (h : At W b o x) (hB : Below w.heap.size w W) :
    W.cell? ⟨b, o + 1, none⟩ = some (.string x.s) ∧ Below w.heap.size w W := ⟨h.2.1, hB⟩
theorem one_drew {w W : World} {b o : Nat} {x : ByteArray} (h : W.cell? ⟨b, o, none⟩ = some (.string x) ∧ Below w.heap.size w W) : W.drew.cell? ⟨b, o, none⟩ = some (.string x) ∧ Below w.heap.size w W.drew := ⟨h.1, h.2.drew⟩
theorem one_keep {w W w1 : World} {b o : Nat} {x : ByteArray} (hb : b < w.heap.size) (h : W.cell? ⟨b, o, none⟩ = some (.string x) ∧ Below w.heap.size w W) (hk : Below W.heap.size W w1) : w1.cell? ⟨b, o, none⟩ = some (.string x) ∧ Below w.heap.size w w1 :=
  ⟨(hk.cell (p := ⟨b, o, none⟩) (Nat.lt_of_lt_of_le hb h.2.size)).trans h.1, h.2.trans (hk.mono h.2.size)⟩

set_option maxHeartbeats 1600000 in
theorem held_toks (a : Option Addr) (cap n k0 : Nat) (w : World) (hn2 : n ≤ 10000) (hk : 0 < k0) (hk2 : k0 ≤ 10) (hc : Lies w.heap.size w a (marks k0 n)) :
    Calls Tryd.prog 24 #[.slice a n cap, .int .i64 (k0 : Int)] w fun e w' => e = .returned (.int .i64 ((k0 + 3 * n : Nat) : Int)) ∧ Below w.heap.size w w' := by
  have HC := Lib.hid hc
  clear hc
  go_enter Tryd.func24, Tryd.ntmps24
  go_wp2
  go_loopw [1, 5] (fun k i wr => RelHd w n k0 k i wr) (fun _ i _ => n - (intOf i).toNat)
  case atStart => exact ⟨0, by omega, rfl, by simp, Below.refl _ _⟩
  case round =>
    obtain ⟨I, hI, rfl, rfl, hbel⟩ := hrel
    have HB := Lib.hid hbel
    clear hbel
    by_cases hlt : I < n
    · obtain ⟨b, o, rfl, hb, hcell⟩ := lies_at HC.out (I := I) (by rw [marks_len]; exact hlt)
      have HCELL := Lib.hid (hcell I (by rw [marks_len]; exact hlt))
      have HX := Lib.hid ((hcell I (by rw [marks_len]; exact hlt)).keep HB.out hb)
      obtain ⟨x, hx⟩ : ∃ x, x = (marks k0 n)[I]'(by rw [marks_len]; exact hlt) := ⟨_, rfl⟩
      rw [← hx] at HX HCELL
      have hxe : x = mk k0 I := by rw [hx]; simp [marks]
      obtain ⟨P, hP⟩ : ∃ P, P = k0 + 3 * I := ⟨_, rfl⟩
      rw [← hP]
      have hPb : 0 < P ∧ P ≤ 40000 := by omega
      have hk1 : x.k = (P : Int) := by rw [hxe, hP]; rfl
      have hs1 : x.s = markF (P + 1) := by rw [hxe, hP]; rfl
      have ha1 : x.a = (P : Int) + 1 + 1 := by rw [hxe, hP]; show ((k0 + 3 * I + 2 : Nat) : Int) = _; omega
      have HP := Lib.hid hP
      have HA1 := Lib.hid ha1
      obtain ⟨c0, c1, c2⟩ := HX.out
      have HS0 := Lib.hid (one_start HX.out HB.out)
      obtain ⟨m, hm⟩ : ∃ m, m = markF (P + 1) := ⟨_, rfl⟩
      rw [← hm] at hs1
      rw [hs1] at HS0 c1
      rw [hk1] at c0
      rw [ha1] at c2
      have HM := Lib.hid hm
      have hmm := (str_eq (rfl : m = m)).2
      have hi1 : (I : Int) < (n : Int) := by omega
      have hi0 : (0 : Int) ≤ (I : Int) := by omega
      clear hx hxe hP hk1 hs1 ha1 hcell hm c1
      go_wp2
      go_region_held3 (fun w' => w'.cell? ⟨b, o + I * 3 + 1, none⟩ = some (.string m) ∧ Below w.heap.size w w')
        (first | exact one_drew HS0.out | exact HS0.out | exact one_keep hb (by assumption) (by assumption) | exact one_drew (by assumption))
        (first | (go_at_call 53; refine (mark_text1 P _ (by omega)).mono ?_; rintro e w1 ⟨he, b1⟩; rw [← HM.out] at he; subst he))
      have HS := Lib.hid (by assumption : _ ∧ Below w.heap.size w _)
      obtain ⟨c3, c4, c5⟩ := HCELL.out.keep HS.out.2 hb
      rw [HA1.out] at c5
      clear c3 c4 c0 c2
      go_wp2
      go_roundw
      case rel => exact ⟨I + 1, by omega, by go_num, congrArg (Value.int .i64) (by have := HP.out; omega), HS.out.2⟩
      case measure => simp [intOf]; omega
    · obtain rfl : I = n := by omega
      go_wp2
      go_ret
      exact ⟨rfl, HB.out⟩

theorem eq_fault (k a : Int) (w : World) :
    Calls Tryd.prog 22 #[.agg #[.int .i64 k, .int .i64 a], .agg #[.int .i64 k, .int .i64 a]] w fun e w' => e = .returned (.bool true) ∧ Below w.heap.size w w' := by
  have d1 : (k != k) = false := by simp
  have d2 : (a != a) = false := by simp
  go_enter Tryd.func22, Tryd.ntmps22
  go_wp2
  go_ret
  exact ⟨rfl, below_two _ _ _⟩

/-- A slice of the call's own, marked. -/
theorem mark_own {B : Nat} {a : Option Addr} {c : Nat} {l : List Tk} {w : World} (o : Own B (.slice a l.length c) l w) (hl : l.length ≤ 3000) (hB : B ≤ w.heap.size) :
    Calls Tryd.prog 23 #[.slice a l.length c, .int .i64 1] w fun e w' => e = .returned (.int .i64 ((1 + 3 * l.length : Nat) : Int)) ∧ Below B w w' ∧ Lies w'.heap.size w' a (marks 1 l.length) := by
  by_cases h0 : l.length = 0
  · rw [h0]
    exact (mark_none a c 1 w).mono fun e w' ⟨he, hw⟩ => ⟨he, by rw [← hw]; exact Below.refl _ _, .inl rfl⟩
  · obtain ⟨g, cap, hv, hg, hb⟩ := o.blk (by omega)
    injection hv with ha _ hcap
    subst ha hcap
    have hle : l.length ≤ c := by obtain ⟨_, _, _, h, _⟩ := hb; exact h
    refine (mark_toks g c l.length 1 l w hb hle (by omega) (by omega) (by omega)).mono fun e w' ⟨he, hk, hgr⟩ => ⟨he, ?_, ?_⟩
    · exact (Below.refl B w).grown hgr hB (fun k hk => by cases hk; exact hg)
    · exact hk.lies
end Go.Proofs.YtlbloemmabjmoaaDoor.mark
