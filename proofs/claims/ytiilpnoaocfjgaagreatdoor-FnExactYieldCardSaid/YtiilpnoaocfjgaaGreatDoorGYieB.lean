/-
  Lemmas over this seat's program for slices of bytes: 'string(b)', '[]byte{..}'.
  laws.markText: a contract.
  The marks that the law lays into a slice of tokens: laws.markText, markTokenS, heldTokenS, eqFault: contracts.
  Nodes built by append, each with a row of kids of its own ('PT'); the steps of an append.
  The marks that the law lays into a tree of one's own: laws.markIntS, markNodeS: contracts.
  laws.markNodeS, heldIntS, heldNodeS: contracts.
-/
import Derived.Test.YtiilpnoaocfjgaaGreatDoorRows
import Derived.Test.YtiilpnoaocfjgaaGreatDoorBase
import Derived.WalkKit
import Derived.Laws.IdiomStrings
import Derived.Laws.OwnMore
import Derived.Test.YtiilpnoaocfjgaaGreatDoorNdTo
import Derived.Lib.Strings
import Derived.Test.YtiilpnoaocfjgaaGreatDoorOwn
import Derived.Test.YtiilpnoaocfjgaaGreatDoorOwnI
import Derived.Deep.RegionLaw
import Derived.Test.YtiilpnoaocfjgaaGreatDoorNdEq
namespace Go.Proofs.YtiilpnoaocfjgaaGreatDoor
open Go.RowKit
set_option maxRecDepth 20000

theorem Tryz.infoByte : (Tryz.prog.info? 5).map (fun i => (i.zero, i.size, i.bytes)) = some (some (.int .u8 0), 1, 1) := by kernel_rfl

/-- Bytes as the cells of a row. -/
def cellsOf (l : List UInt8) : List Value := l.map (fun b => Value.int .u8 (b.toNat : Int))

theorem cellsOf_snoc (l : List UInt8) (b : UInt8) : cellsOf (l ++ [b]) = cellsOf l ++ [.int .u8 (b.toNat : Int)] := by simp [cellsOf]
theorem cellsOf_length (l : List UInt8) : (cellsOf l).length = l.length := by simp [cellsOf]

/-- 'string(b)', b owned by the call and holding l. -/
theorem conv_own (w : World) (base : Nat) (v : Value) (n : Nat) (l : List UInt8) (hn : n = l.length) (h : w.ownsRow base 5 1 v n (cellsOf l)) :
    (convert 22 9 v).run Tryz.prog w = .ok (.string ⟨l.toArray⟩) w := by
  subst hn
  rcases h.2 with ⟨rfl, hl⟩ | ⟨g, cap, cur, rfl, hb, hg, hnc, hcm, hcs, htake⟩
  · obtain rfl : l = [] := List.length_eq_zero_iff.1 hl
    rw [run_convert_bytes_string w 22 9 5 none 0 0 Tryz.underlying22 Tryz.underlying5 Tryz.underlying9]
    rfl
  · refine run_convert_bytes_back w 22 9 5 ⟨g, 0, none⟩ cap l Tryz.underlying22 Tryz.underlying5 Tryz.underlying9 ?_
    intro j hj
    have := World.ownsRow.cellAt h j (by simpa using hj)
    have e : (⟨g, 0, none⟩ : Addr).add j = ⟨g, j, none⟩ := by
      simp only [Addr.add, Nat.zero_add]
      split
      · next h0 => subst h0; rfl
      · rfl
    rw [e, this]
    simp [cellsOf, hj]

/-- 'string([]byte{x})'. -/
theorem conv_one (w : World) (x : Int) (h0 : 0 ≤ x) (h1 : x < 256) :
    (convert 22 9 (.slice (some ⟨w.heap.size, 0, none⟩) 1 1)).run Tryz.prog (w.alloc (.cells #[.int .u8 x] 5)) = .ok (.string ⟨#[UInt8.ofNat x.toNat]⟩) (w.alloc (.cells #[.int .u8 x] 5)) := by
  refine conv_own _ 0 _ 1 [UInt8.ofNat x.toNat] rfl ?_
  have := World.ownsRow_lit (base := 0) (e := 5) (size := 1) w #[.int .u8 x] 1 (by omega) (by unfold maxLen; omega) rfl
  have e : cellsOf [UInt8.ofNat x.toNat] = [.int .u8 x] := by
    simp [cellsOf]
    omega
  rw [e]
  exact this

/-- 'append(b, x)', b nil or the call's own. -/
theorem wpList_append_byte (w : World) (y : Int) {ops : Array Oper} {rest : List Oper} {o : Oper} {a : Act} {Q : Exit → Act → World → Prop} (hgd : o.guard = none) (s x : Operand)
    (ho : o.op = .call { callee := .builtin .append, args := #[s, x], argTypes := #[22, 22] }) (base : Nat) (v : Value) (n : Nat) (l : List UInt8) (hs : a.eval s = v)
    (hown : w.ownsRow base 5 1 v n (cellsOf l)) (h0 : 0 ≤ y) (h1 : y < 256) (hx : a.eval x = .slice (some ⟨w.heap.size, 0, none⟩) 1 1) (hn : n < 70368744177664) (hbase : base ≤ w.heap.size)
    (h : ∀ v' w', w'.ownsRow base 5 1 v' (n + 1) (cellsOf (l ++ [UInt8.ofNat y.toNat])) → (∀ W0, Below base W0 w → Below base W0 w') → wpList Tryz.prog ops Q rest (a.put o.dst v') w') :
    wpList Tryz.prog ops Q (o :: rest) a (w.alloc (.cells #[.int .u8 y] 5)) := by
  obtain ⟨i0, hi, hz0, hz1, hz2⟩ := info_parts Tryz.infoByte
  have ey : Value.int .u8 ((UInt8.ofNat y.toNat).toNat : Int) = .int .u8 y := by
    congr 1
    simp
    omega
  refine wpList_append_own _ hgd s x 22 ho base 5 i0 (.int .u8 0) 1 1 Tryz.underlying22 hi hz0 hz1 hz2 rfl (by decide) v n (cellsOf l) hs (hown.alloc _) ⟨w.heap.size, 0, none⟩ 1 1 [.int .u8 y] hx rfl ?_ ?_ (by unfold maxLen; omega) (by omega) ?_ ?_
  · intro j u hj
    match j, hj with
    | 0, hj =>
      simp at hj
      subst hj
      simp [Addr.add]
  · intro u hu
    simp at hu
    subst hu
    rfl
  · have : (w.alloc (.cells #[.int .u8 y] 5)).heap.size = w.heap.size + 1 := by simp
    omega
  · intro v' w' hown' hg _
    refine h v' w' (by rw [cellsOf_snoc, ey]; exact hown') fun W0 hb => ?_
    have hb2 : Below base W0 (w.alloc (.cells #[.int .u8 y] 5)) := hb.alloc hbase _
    refine hb2.grown hg (by simp; omega) ?_
    intro k hk
    rcases hown.2 with ⟨rfl, _⟩ | ⟨g, cap, cur, rfl, hb, _⟩
    · cases hk
    · simp [Value.ownBlock] at hk
      omega

/-- '[]byte{}' as it is laid. -/
theorem own_empty (w : World) (base : Nat) (hb : base ≤ w.heap.size) : (w.alloc (.cells #[] 5)).ownsRow base 5 1 (.slice (some ⟨w.heap.size, 0, none⟩) 0 0) 0 (cellsOf []) :=
  World.ownsRow_lit w #[] 0 hb (by unfold maxLen; omega) rfl
end Go.Proofs.YtiilpnoaocfjgaaGreatDoor

namespace Go.Proofs.YtiilpnoaocfjgaaGreatDoor.mark
open Go.ChangeShapes Go.WideShapes Go.ChangeAt Go.RowKit
open nd
set_option linter.unusedVariables false

def markGo (k : Nat) (out : ByteArray) : ByteArray := if h : k = 0 then out else markGo (k / 10) (⟨#[UInt8.ofNat (48 + k % 10)]⟩ ++ out)
termination_by k
decreasing_by omega
def markF (k : Nat) : ByteArray := if k = 0 then ⟨#[109, 48]⟩ else ⟨#[109]⟩ ++ markGo k ⟨#[]⟩
theorem go_step {k : Nat} {out : ByteArray} (h : ¬ k = 0) : markGo k out = markGo (k / 10) (⟨#[UInt8.ofNat (48 + k % 10)]⟩ ++ out) := by rw [markGo, dif_neg h]
theorem go_end (out : ByteArray) : markGo 0 out = out := by rw [markGo, dif_pos rfl]

/-- The byte of a number. -/
def dgt (x : Int) : UInt8 := UInt8.ofNat x.toNat
theorem dgt_nat (K : Nat) : dgt (48 + (K : Int) % 10) = UInt8.ofNat (48 + K % 10) := by unfold dgt; congr 1
theorem conv_dgt (w : World) (x : Int) (h0 : 0 ≤ x) (h1 : x < 256) :
    (convert 22 9 (.slice (some ⟨w.heap.size, 0, none⟩) 1 1)).run Tryz.prog (w.alloc (.cells #[.int .u8 x] 5)) = .ok (.string ⟨#[dgt x]⟩) (w.alloc (.cells #[.int .u8 x] 5)) := conv_one w x h0 h1

def RelM (W : World) (k0 : Nat) (k out : Value) (wr : World) : Prop :=
  ∃ (K : Nat) (o : ByteArray), k = .int .i64 (K : Int) ∧ out = .string o ∧ markGo K o = markGo k0 ⟨#[]⟩ ∧ o.size + K ≤ k0 ∧ Below W.heap.size W wr

set_option maxRecDepth 20000 in
theorem mark_text (k : Nat) (w : World) (hk0 : 0 < k) (hk : k ≤ 100000000) :
    Calls Tryz.prog 101 #[.int .i64 (k : Int)] w fun e w' => e = .returned (.string (markF k)) ∧ Below w.heap.size w w' := by
  have HM := Lib.hid (show markF k = ⟨#[109]⟩ ++ markGo k ⟨#[]⟩ by unfold markF; rw [if_neg (by omega)])
  go_enter Tryz.func101, Tryz.ntmps101
  go_wp2
  go_loopw [0, 3] (fun v o wr => RelM w k v o wr) (fun v _ _ => (intOf v).toNat)
  case atStart => exact ⟨k, ⟨#[]⟩, rfl, rfl, rfl, by show 0 + k ≤ k; omega, Below.refl _ _⟩
  case round =>
    obtain ⟨K, o, rfl, rfl, hgo, hsz, hbel⟩ := hrel
    have HGO := Lib.hid hgo
    have HBEL := Lib.hid hbel
    clear hgo hbel
    by_cases h0 : K = 0
    · subst h0
      have HE := Lib.hid (HGO.out.symm.trans (go_end o))
      have ka := fun w => run_string_add_sum (P := Tryz.prog) (w := w) ⟨#[109]⟩ o (by show 1 + o.size ≤ _; omega)
      go_wp2
      go_ret
      exact ⟨by rw [HM.out, HE.out]; rfl, HBEL.out⟩
    · have hK0 : (0 : Int) < (K : Int) := by omega
      have hlim1 : K ≤ 100000000 := by omega
      have hlim2 : o.size ≤ 100000000 := by omega
      have HSZ := Lib.hid hsz
      have HKK := Lib.hid hk
      clear hsz hk
      have HG := Lib.hid ((go_step (out := o) h0).symm.trans HGO.out)
      have kc := conv_dgt wr (48 + (K : Int) % 10) (by omega) (by omega)
      have HC := Lib.hid (dgt_nat K)
      have ka := fun w => run_string_add_sum (P := Tryz.prog) (w := w) ⟨#[dgt (48 + (K : Int) % 10)]⟩ o (by show 1 + o.size ≤ _; omega)
      clear h0
      go_wp2
      go_roundw
      case rel => exact ⟨K / 10, _, by go_num, rfl, by rw [HC.out]; exact HG.out, by rw [ByteArray.size_append]; show 1 + o.size + K / 10 ≤ k; have := HSZ.out; omega, HBEL.out.alloc HBEL.out.size _⟩
      case measure => simp [intOf]; omega

theorem mark_text1 (P : Nat) (w : World) (hk : P + 1 ≤ 100000000) :
    Calls Tryz.prog 101 #[.int .i64 ((P : Int) + 1)] w fun e w' => e = .returned (.string (markF (P + 1))) ∧ Below w.heap.size w w' := by
  have := mark_text (P + 1) w (by omega) hk
  rwa [show ((P + 1 : Nat) : Int) = (P : Int) + 1 by omega] at this

end Go.Proofs.YtiilpnoaocfjgaaGreatDoor.mark

namespace Go.Proofs.YtiilpnoaocfjgaaGreatDoor.markt
open mark
open Go.ChangeShapes Go.WideShapes Go.ChangeAt Go.RowKit
open tk own
set_option linter.unusedVariables false


/-! ### A slice of tokens, marked -/
def mk (k0 : Nat) (i : Nat) : Tk := ⟨((k0 + 3 * i : Nat) : Int), markF (k0 + 3 * i + 1), ((k0 + 3 * i + 2 : Nat) : Int)⟩
def marks (k0 n : Nat) : List Tk := (List.range n).map (mk k0)
theorem marks_len (k0 n : Nat) : (marks k0 n).length = n := by simp [marks]
theorem marks_succ (k0 n : Nat) : marks k0 (n + 1) = marks k0 n ++ [mk k0 n] := by simp [marks, List.range_succ]

theorem blk_pre {w : World} {g n : Nat} {l : List Tk} (h : Blk w g n l) (hl : l.length < n) (v : Value) :
    Blk (w.setCell ⟨g, l.length * 3, none⟩ v) g n l ∧ (w.setCell ⟨g, l.length * 3, none⟩ v).cell? ⟨g, l.length * 3, none⟩ = some v := by
  obtain ⟨c, hc, hs, hn, hx⟩ := h
  have hc' := heap_setCell_same w g (l.length * 3) _ _ v hc
  refine ⟨⟨_, hc', by simpa using hs, hn, fun i hi => ?_⟩, ?_⟩
  · obtain ⟨x0, x1, x2⟩ := hx i hi
    simp only [Array.getElem?_setIfInBounds]
    exact ⟨by rw [if_neg (by omega)]; exact x0, by rw [if_neg (by omega)]; exact x1, by rw [if_neg (by omega)]; exact x2⟩
  · rw [cell_of_row _ g _ _ _ _ hc', Array.getElem?_setIfInBounds, if_pos rfl, if_pos (by omega)]
theorem blk_post {w : World} {g n : Nat} {l : List Tk} (h : Blk w g n l) (t : Tk) (hl : l.length < n) (h0 : w.cell? ⟨g, l.length * 3, none⟩ = some (.int .i64 t.k)) :
    Blk ((w.setCell ⟨g, l.length * 3 + 1, none⟩ (.string t.s)).setCell ⟨g, l.length * 3 + 2, none⟩ (.int .i64 t.a)) g n (l ++ [t]) := by
  obtain ⟨c, hc, hs, hn, hx⟩ := h
  rw [cell_of_row _ g _ _ _ _ hc] at h0
  refine ⟨_, heap_setCell_same _ g _ _ _ _ (heap_setCell_same w g (l.length * 3 + 1) _ _ _ hc), by simpa using hs, by simp; omega, fun i hi => ?_⟩
  simp only [Array.getElem?_setIfInBounds, Array.size_setIfInBounds]
  by_cases he : i < l.length
  · obtain ⟨x0, x1, x2⟩ := hx i he
    rw [List.getElem_append_left he]
    exact ⟨by rw [if_neg (by omega), if_neg (by omega)]; exact x0, by rw [if_neg (by omega), if_neg (by omega)]; exact x1, by rw [if_neg (by omega), if_neg (by omega)]; exact x2⟩
  · simp at hi
    obtain rfl : i = l.length := by omega
    rw [List.getElem_append_right (Nat.le_refl _)]
    simp only [Nat.sub_self, List.getElem_cons_zero]
    exact ⟨by rw [if_neg (by omega), if_neg (by omega)]; exact h0, by rw [if_neg (by omega), if_pos trivial, if_pos (by omega)], by rw [if_pos trivial, if_pos (by omega)]⟩
theorem grown_trans {a b c : World} {p : Nat} (h1 : a.grownBy b (some p)) (h2 : b.grownBy c (some p)) : a.grownBy c (some p) :=
  ⟨h2.os.trans h1.os, h2.tape.trans h1.tape, h2.output.trans h1.output, Nat.le_trans h1.size h2.size, fun k hk hne => (h2.block k (Nat.lt_of_lt_of_le hk h1.size) hne).trans (h1.block k hk hne)⟩
theorem grown_set {w w1 : World} {p j : Nat} (u : Value) (h : w.grownBy w1 (some p)) : w.grownBy (w1.setCell ⟨p, j, none⟩ u) (some p) :=
  ⟨h.os, h.tape, h.output, by simp; exact h.size, fun k hk hne => by
    rw [heap_setCell_other w1 ⟨p, j, none⟩ k u (fun e => hne (by rw [e]))]
    exact h.block k hk hne⟩
theorem grown_below {w w1 w2 : World} {p : Nat} (h : w.grownBy w1 (some p)) (hb : Below w1.heap.size w1 w2) : w.grownBy w2 (some p) :=
  ⟨hb.os.trans h.os, hb.tape.trans h.tape, hb.output.trans h.output, Nat.le_trans h.size hb.size, fun k hk hne => (hb.block k (Nat.lt_of_lt_of_le hk h.size)).trans (h.block k hk hne)⟩

def RelMk (W : World) (g cap k0 n : Nat) (k i : Value) (wr : World) : Prop :=
  ∃ I : Nat, I ≤ n ∧ i = .int .i64 (I : Int) ∧ k = .int .i64 ((k0 + 3 * I : Nat) : Int) ∧ Blk wr g cap (marks k0 I) ∧ W.grownBy wr (some g)

set_option maxHeartbeats 1600000 in
theorem mark_toks (g cap n k0 : Nat) (l : List Tk) (w : World) (hb : Blk w g cap l) (hn : n ≤ cap) (hn2 : n ≤ 10000) (hk : 0 < k0) (hk2 : k0 ≤ 10) :
    Calls Tryz.prog 46 #[.slice (some ⟨g, 0, none⟩) n cap, .int .i64 (k0 : Int)] w fun e w' => e = .returned (.int .i64 ((k0 + 3 * n : Nat) : Int)) ∧ Blk w' g cap (marks k0 n) ∧ w.grownBy w' (some g) := by
  have HB0 := Lib.hid (show Blk w g cap (marks k0 0) by
    obtain ⟨c, hc, hs, -, -⟩ := hb
    exact ⟨c, hc, hs, by simp [marks], fun i hi => by simp [marks] at hi⟩)
  clear hb
  go_enter Tryz.func46, Tryz.ntmps46
  go_wp2
  go_loopw [1, 5] (fun k i wr => RelMk w g cap k0 n k i wr) (fun _ i _ => n - (intOf i).toNat)
  case atStart => exact ⟨0, by omega, rfl, by simp, HB0.out, World.grownBy.refl w _⟩
  case round =>
    obtain ⟨I, hI, rfl, rfl, hblk, hgr⟩ := hrel
    have HK := Lib.hid hblk
    have HG := Lib.hid hgr
    clear hblk hgr
    by_cases hlt : I < n
    · have hi1 : (I : Int) < (n : Int) := by omega
      have hll := marks_len k0 I
      obtain ⟨P, hP⟩ : ∃ P, P = k0 + 3 * I := ⟨_, rfl⟩
      rw [← hP]
      have hPb : 0 < P ∧ P ≤ 40000 := by omega
      have HP := Lib.hid hP
      obtain ⟨v0, e0⟩ := HK.out.some (I * 3) (by omega)
      have f0 := HK.out.frozen (I * 3)
      have hpre := blk_pre HK.out (by omega) (.int .i64 (P : Int))
      rw [hll] at hpre
      have HPRE := Lib.hid hpre
      have HG1 := Lib.hid (grown_set (j := I * 3) (.int .i64 (P : Int)) HG.out)
      clear hP hpre hll
      go_wp2_with fail
      refine (mark_text1 P _ (by omega)).mono ?_
      rintro e w2 ⟨rfl, b2⟩
      have HB2 := Lib.hid (HPRE.out.1.keep b2 HPRE.out.1.lt)
      have HC2 := Lib.hid ((b2.cell (p := ⟨g, I * 3, none⟩) HPRE.out.1.lt).trans HPRE.out.2)
      have HG2 := Lib.hid (grown_below HG1.out b2)
      obtain ⟨v1, e1⟩ := HB2.out.some (I * 3 + 1) (by omega)
      obtain ⟨v2, e2⟩ := HB2.out.some (I * 3 + 2) (by omega)
      have f1 := HB2.out.frozen (I * 3 + 1)
      have f2 := HB2.out.frozen (I * 3 + 2)
      clear b2 e0 f0
      go_wp2
      go_roundw
      case rel =>
        refine ⟨I + 1, by omega, by go_num, congrArg (Value.int .i64) (by have := HP.out; omega), ?_, ?_⟩
        · have hq := blk_post HB2.out (mk k0 I) (by rw [marks_len]; omega) (by rw [marks_len, HC2.out, HP.out]; rfl)
          rw [marks_len] at hq
          rw [marks_succ]
          have ea : (mk k0 I).s = markF (P + 1) := by rw [HP.out]; rfl
          have eb : (mk k0 I).a = (P : Int) + 1 + 1 := by rw [HP.out]; show ((k0 + 3 * I + 2 : Nat) : Int) = _; omega
          rw [ea, eb] at hq
          exact hq
        · exact grown_set _ (grown_set _ HG2.out)
      case measure => simp [intOf]; omega
    · obtain rfl : I = n := by omega
      go_wp2
      go_ret
      exact ⟨rfl, HK.out, HG.out⟩

theorem mark_none (a : Option Addr) (cap : Nat) (k : Int) (w : World) :
    Calls Tryz.prog 46 #[.slice a 0 cap, .int .i64 k] w fun e w' => e = .returned (.int .i64 k) ∧ w = w' := by
  go_enter Tryz.func46, Tryz.ntmps46
  go_wp2
  go_loop [1, 5] (fun k' i => k' = .int .i64 k ∧ i = .int .i64 0) (fun _ _ => 0)
  case atStart => exact ⟨rfl, rfl⟩
  case round =>
    obtain ⟨rfl, rfl⟩ := hrel
    go_wp2
    go_ret
    exact ⟨rfl, rfl⟩

/-! ### The marks looked for -/
def RelHd (W : World) (n k0 : Nat) (k i : Value) (wr : World) : Prop :=
  ∃ I : Nat, I ≤ n ∧ i = .int .i64 (I : Int) ∧ k = .int .i64 ((k0 + 3 * I : Nat) : Int) ∧ Below W.heap.size W wr

theorem one_start {w W : World} {b o : Nat} {x : Tk} (h : At W b o x) (hB : Below w.heap.size w W) :
    W.cell? ⟨b, o + 1, none⟩ = some (.string x.s) ∧ Below w.heap.size w W := ⟨h.2.1, hB⟩
theorem one_drew {w W : World} {b o : Nat} {x : ByteArray} (h : W.cell? ⟨b, o, none⟩ = some (.string x) ∧ Below w.heap.size w W) : W.drew.cell? ⟨b, o, none⟩ = some (.string x) ∧ Below w.heap.size w W.drew := ⟨h.1, h.2.drew⟩
theorem one_keep {w W w1 : World} {b o : Nat} {x : ByteArray} (hb : b < w.heap.size) (h : W.cell? ⟨b, o, none⟩ = some (.string x) ∧ Below w.heap.size w W) (hk : Below W.heap.size W w1) : w1.cell? ⟨b, o, none⟩ = some (.string x) ∧ Below w.heap.size w w1 :=
  ⟨(hk.cell (p := ⟨b, o, none⟩) (Nat.lt_of_lt_of_le hb h.2.size)).trans h.1, h.2.trans (hk.mono h.2.size)⟩

set_option maxHeartbeats 1600000 in
theorem held_toks (a : Option Addr) (cap n k0 : Nat) (w : World) (hn2 : n ≤ 10000) (hk : 0 < k0) (hk2 : k0 ≤ 10) (hc : Lies w.heap.size w a (marks k0 n)) :
    Calls Tryz.prog 53 #[.slice a n cap, .int .i64 (k0 : Int)] w fun e w' => e = .returned (.int .i64 ((k0 + 3 * n : Nat) : Int)) ∧ Below w.heap.size w w' := by
  have HC := Lib.hid hc
  clear hc
  go_enter Tryz.func53, Tryz.ntmps53
  go_wp2
  go_loopw [1, 5] (fun k i wr => RelHd w n k0 k i wr) (fun _ i _ => n - (intOf i).toNat)
  case atStart => exact ⟨0, by omega, rfl, by simp, Below.refl _ _⟩
  case round =>
    obtain ⟨I, hI, rfl, rfl, hbel⟩ := hrel
    have HB := Lib.hid hbel
    clear hbel
    by_cases hlt : I < n
    · obtain ⟨b, o, rfl, hb, hcell⟩ := lies_at HC.out (I := I) (by rw [marks_len]; exact hlt)
      have HCELL := Lib.hid (hcell I (by rw [marks_len]; exact hlt))
      have HX := Lib.hid ((hcell I (by rw [marks_len]; exact hlt)).keep HB.out hb)
      obtain ⟨x, hx⟩ : ∃ x, x = (marks k0 n)[I]'(by rw [marks_len]; exact hlt) := ⟨_, rfl⟩
      rw [← hx] at HX HCELL
      have hxe : x = mk k0 I := by rw [hx]; simp [marks]
      obtain ⟨P, hP⟩ : ∃ P, P = k0 + 3 * I := ⟨_, rfl⟩
      rw [← hP]
      have hPb : 0 < P ∧ P ≤ 40000 := by omega
      have hk1 : x.k = (P : Int) := by rw [hxe, hP]; rfl
      have hs1 : x.s = markF (P + 1) := by rw [hxe, hP]; rfl
      have ha1 : x.a = (P : Int) + 1 + 1 := by rw [hxe, hP]; show ((k0 + 3 * I + 2 : Nat) : Int) = _; omega
      have HP := Lib.hid hP
      have HA1 := Lib.hid ha1
      obtain ⟨c0, c1, c2⟩ := HX.out
      have HS0 := Lib.hid (one_start HX.out HB.out)
      obtain ⟨m, hm⟩ : ∃ m, m = markF (P + 1) := ⟨_, rfl⟩
      rw [← hm] at hs1
      rw [hs1] at HS0 c1
      rw [hk1] at c0
      rw [ha1] at c2
      have HM := Lib.hid hm
      have hmm := (str_eq (rfl : m = m)).2
      have hi1 : (I : Int) < (n : Int) := by omega
      have hi0 : (0 : Int) ≤ (I : Int) := by omega
      clear hx hxe hP hk1 hs1 ha1 hcell hm c1
      go_wp2
      go_region_held3 (fun w' => w'.cell? ⟨b, o + I * 3 + 1, none⟩ = some (.string m) ∧ Below w.heap.size w w')
        (first | exact one_drew HS0.out | exact HS0.out | exact one_keep hb (by assumption) (by assumption) | exact one_drew (by assumption))
        (first | (go_at_call 101; refine (mark_text1 P _ (by omega)).mono ?_; rintro e w1 ⟨he, b1⟩; rw [← HM.out] at he; subst he))
      have HS := Lib.hid (by assumption : _ ∧ Below w.heap.size w _)
      obtain ⟨c3, c4, c5⟩ := HCELL.out.keep HS.out.2 hb
      rw [HA1.out] at c5
      clear c3 c4 c0 c2
      go_wp2
      go_roundw
      case rel => exact ⟨I + 1, by omega, by go_num, congrArg (Value.int .i64) (by have := HP.out; omega), HS.out.2⟩
      case measure => simp [intOf]; omega
    · obtain rfl : I = n := by omega
      go_wp2
      go_ret
      exact ⟨rfl, HB.out⟩

theorem eq_fault (k a : Int) (w : World) :
    Calls Tryz.prog 44 #[.agg #[.int .i64 k, .int .i64 a], .agg #[.int .i64 k, .int .i64 a]] w fun e w' => e = .returned (.bool true) ∧ Below w.heap.size w w' := by
  have d1 : (k != k) = false := by simp
  have d2 : (a != a) = false := by simp
  go_enter Tryz.func44, Tryz.ntmps44
  go_wp2
  go_ret
  exact ⟨rfl, below_two _ _ _⟩

/-- A slice of the call's own, marked. -/
theorem mark_own {B : Nat} {a : Option Addr} {c : Nat} {l : List Tk} {w : World} (o : Own B (.slice a l.length c) l w) (hl : l.length ≤ 3000) (hB : B ≤ w.heap.size) :
    Calls Tryz.prog 46 #[.slice a l.length c, .int .i64 1] w fun e w' => e = .returned (.int .i64 ((1 + 3 * l.length : Nat) : Int)) ∧ Below B w w' ∧ Lies w'.heap.size w' a (marks 1 l.length) := by
  by_cases h0 : l.length = 0
  · rw [h0]
    exact (mark_none a c 1 w).mono fun e w' ⟨he, hw⟩ => ⟨he, by rw [← hw]; exact Below.refl _ _, .inl rfl⟩
  · obtain ⟨g, cap, hv, hg, hb⟩ := o.blk (by omega)
    injection hv with ha _ hcap
    subst ha hcap
    have hle : l.length ≤ c := by obtain ⟨_, _, _, h, _⟩ := hb; exact h
    refine (mark_toks g c l.length 1 l w hb hle (by omega) (by omega) (by omega)).mono fun e w' ⟨he, hk, hgr⟩ => ⟨he, ?_, ?_⟩
    · exact (Below.refl B w).grown hgr hB (fun k hk => by cases hk; exact hg)
    · exact hk.lies
end Go.Proofs.YtiilpnoaocfjgaaGreatDoor.markt

namespace Go.Proofs.YtiilpnoaocfjgaaGreatDoor.nd
open Go.RowKit
set_option linter.unusedVariables false
set_option maxRecDepth 20000

/-- 'append(l, v)' as a step of a region that draws its order. -/
theorem step_append_int {ops : Array Oper} {o : Oper} {a : Act} {w : World} {K : Act → World → Prop} {Q : Exit → Act → World → Prop} {E : Prop} (hgd : o.guard = none) (s x : Operand)
    (ho : o.op = .call { callee := .builtin .append, args := #[s, x], argTypes := #[53, 53] }) (B : Nat) (v : Value) (d : List Int) (z : Int) (hs : a.eval s = v)
    (hown : OwnI B v d w) (gz : Nat) (hx : a.eval x = .slice (some ⟨gz, 0, none⟩) 1 1) (hz : w.heap[gz]? = some (.cells #[.int .i64 z] 3 (0, 0))) (hn : d.length ≤ 1048576) (hB : B ≤ w.heap.size)
    (h : ∀ g cap w', OwnI B (.slice (some ⟨g, 0, none⟩) (d.length + 1) cap) (d ++ [z]) w' → Below B w w' → K (a.put o.dst (.slice (some ⟨g, 0, none⟩) (d.length + 1) cap)) w') :
    if Region.wanted o (yielded ops a.tmps) = true then Oper.wp Tryz.prog o a w K Q else E := by
  obtain ⟨i0, hi, hz0, hz1, hz2⟩ := info_parts Tryz.infoInt
  refine step_append_lies w hgd s x 53 ho B 3 i0 _ 1 8 Tryz.underlying53 hi hz0 hz1 hz2 rfl (by decide) v d.length (ivals d) hs hown ⟨gz, 0, none⟩ 1 1 [.int .i64 z] hx rfl ?_ ?_ (by decide) (by unfold maxLen; omega) (by omega) hB _ rfl ?_
  · intro j u hj
    rw [show ((⟨gz, 0, none⟩ : Addr).add j) = ⟨gz, j, none⟩ by unfold Addr.add; split <;> simp_all]
    rw [cell_of_row _ gz j _ _ _ hz]
    simpa using hj
  · intro u hu
    simp at hu
    rcases hu with rfl <;> rfl
  · intro g cap w' hown' hg _ _
    refine h g cap w' ?_ ?_
    · unfold OwnI
      rw [ivals_snoc, List.length_append]
      exact hown'
    · refine (Below.refl B w).grown hg hB ?_
      intro k hk
      exact (World.ownsRow.lt hown k hk).1

/-- Nodes with the value of their kids' row, as cells. -/
def fl : List (Nd × Value) → List Value
  | [] => []
  | (n, v) :: l => .int .i64 n.k :: .int .i64 n.op :: .string n.s :: .string n.t :: v :: fl l
theorem fl_append (l m : List (Nd × Value)) : fl (l ++ m) = fl l ++ fl m := by
  induction l with
  | nil => rfl
  | cons t l ih => obtain ⟨n, v⟩ := t; simp [fl, ih]
theorem fl_snoc (l : List (Nd × Value)) (n : Nd) (v : Value) : fl (l ++ [(n, v)]) = fl l ++ [.int .i64 n.k, .int .i64 n.op, .string n.s, .string n.t, v] := by
  rw [fl_append]; rfl
theorem fl_get : ∀ (l : List (Nd × Value)) (i : Nat) (h : i < l.length), (fl l)[i * 5]? = some (.int .i64 l[i].1.k) ∧ (fl l)[i * 5 + 1]? = some (.int .i64 l[i].1.op) ∧ (fl l)[i * 5 + 2]? = some (.string l[i].1.s) ∧ (fl l)[i * 5 + 3]? = some (.string l[i].1.t) ∧ (fl l)[i * 5 + 4]? = some l[i].2 := by
  intro l
  induction l with
  | nil => intro i h; simp at h
  | cons t l ih =>
    obtain ⟨n, v⟩ := t
    intro i h
    match i with
    | 0 => exact ⟨rfl, rfl, rfl, rfl, rfl⟩
    | j + 1 =>
      have := ih j (by simpa using h)
      simp only [fl, show (j + 1) * 5 = j * 5 + 1 + 1 + 1 + 1 + 1 by omega, show j * 5 + 1 + 1 + 1 + 1 + 1 + 1 = (j * 5 + 1) + 1 + 1 + 1 + 1 + 1 by omega, show j * 5 + 1 + 1 + 1 + 1 + 1 + 2 = (j * 5 + 2) + 1 + 1 + 1 + 1 + 1 by omega, show j * 5 + 1 + 1 + 1 + 1 + 1 + 3 = (j * 5 + 3) + 1 + 1 + 1 + 1 + 1 by omega, show j * 5 + 1 + 1 + 1 + 1 + 1 + 4 = (j * 5 + 4) + 1 + 1 + 1 + 1 + 1 by omega, List.getElem?_cons_succ, List.getElem_cons_succ]
      exact this
/-- A slice of nodes of the call's own. -/
def OwnN (B : Nat) (v : Value) (z : List (Nd × Value)) (w : World) : Prop := w.ownsRow B 60 5 v z.length (fl z)
/-- A row of kids of its own, at block r. -/
def KidV (B : Nat) (w : World) (r : Nat) (v : Value) (l : List Int) : Prop :=
  (v = .slice none 0 0 ∧ l = []) ∨ ∃ cap, v = .slice (some ⟨r, 0, none⟩) l.length cap ∧ IBlk w r cap l ∧ B ≤ r ∧ cap ≤ maxLen
theorem KidV.form {B : Nat} {w : World} {r : Nat} {v : Value} {l : List Int} (h : KidV B w r v l) : ∃ a cap, v = .slice a l.length cap ∧ (l = [] ∨ a = some ⟨r, 0, none⟩ ∧ IBlk w r cap l ∧ B ≤ r) := by
  rcases h with ⟨h1, h2⟩ | ⟨cap, h1, h2, h3, _⟩
  · exact ⟨none, 0, by rw [h1, h2]; rfl, .inl h2⟩
  · exact ⟨_, cap, h1, .inr ⟨rfl, h2, h3⟩⟩
theorem KidV.keep {B : Nat} {w w' : World} {r : Nat} {v : Value} {l : List Int} (h : KidV B w r v l) (e : w'.heap[r]? = w.heap[r]?) : KidV B w' r v l := by
  rcases h with h | ⟨cap, e1, e2, e3⟩
  · exact .inl h
  · exact .inr ⟨cap, e1, e2.of_block e, e3⟩
/-- .. as a block, with the bound of its capacity. -/
theorem OwnI.blkM {B : Nat} {v : Value} {l : List Int} {w : World} (h : OwnI B v l w) : v = .slice none 0 0 ∧ l = [] ∨ ∃ g cap, v = .slice (some ⟨g, 0, none⟩) l.length cap ∧ B ≤ g ∧ IBlk w g cap l ∧ cap ≤ maxLen := by
  rcases h.blk with h1 | ⟨g, cap, rfl, hg, hb⟩
  · exact .inl h1
  · rcases h.2 with ⟨hv, _⟩ | ⟨g', cap', cur, hv, _, _, _, hm, _⟩
    · cases hv
    · injection hv with _ _ hv
      exact .inr ⟨g, cap, rfl, hg, hb, by rw [hv]; exact hm⟩
theorem KidV.own {B : Nat} {w : World} {r : Nat} {v : Value} {l : List Int} (h : KidV B w r v l) : OwnI B v l w := by
  rcases h with ⟨rfl, rfl⟩ | ⟨cap, rfl, ⟨c, hc, hs, hl, hx⟩, hB, hm⟩
  · exact OwnI.nil B w
  · refine ⟨by rw [ivals_len]; omega, .inr ⟨r, cap, c, rfl, hB, hc, hl, hm, by omega, ?_⟩⟩
    refine List.ext_getElem? (fun i => ?_)
    rw [List.getElem?_take, Nat.mul_one]
    by_cases hi : i < l.length
    · rw [if_pos hi]
      have := hx i hi
      simp only [ivals, List.getElem?_map, List.getElem?_eq_getElem hi, Option.map_some]
      simpa using this
    · rw [if_neg hi]
      simp [ivals, List.getElem?_eq_none (Nat.le_of_not_lt hi)]
theorem KidV.of_own {B : Nat} {w : World} {v : Value} {l : List Int} (h : OwnI B v l w) (S : Nat) (hS : S < w.heap.size) (hB : B ≤ S) (hup : ∀ g, v.ownBlock = some g → S ≤ g) : ∃ r, S ≤ r ∧ r < w.heap.size ∧ KidV B w r v l := by
  rcases h.blkM with ⟨rfl, rfl⟩ | ⟨g, cap, rfl, hg, hb, hm⟩
  · exact ⟨S, Nat.le_refl _, hS, .inl ⟨rfl, rfl⟩⟩
  · exact ⟨g, hup g rfl, hb.lt, .inr ⟨cap, rfl, hb, hg, hm⟩⟩
/-- Nodes of the call's own, each with a row of its own: row i at block r i, no two the same. -/
structure PT (B : Nat) (v : Value) (z : List (Nd × Value)) (r : Nat → Nat) (w : World) : Prop where
  own : OwnN B v z w
  kid : ∀ i (h : i < z.length), KidV B w (r i) z[i].2 z[i].1.kids
  off : ∀ i, i < z.length → v.ownBlock ≠ some (r i)
  asc : ∀ i j, i < j → j < z.length → r i ≠ r j
  lt : ∀ i, i < z.length → r i < w.heap.size
theorem PT.nil (B : Nat) (w : World) : PT B (.slice none 0 0) [] (fun i => i) w :=
  ⟨World.ownsRow_nil _ _ _ _, fun i h => by simp at h, fun i h => by simp at h, fun i j _ h => by simp at h, fun i h => by simp at h⟩
theorem PT.lit {B : Nat} {w : World} (hB : B ≤ w.heap.size) : PT B (.slice (some ⟨w.heap.size, 0, none⟩) 0 0) [] (fun i => i) (w.alloc (.cells #[] 60)) :=
  ⟨World.ownsRow_lit w #[] 0 hB (by unfold maxLen; omega) rfl, fun i h => by simp at h, fun i h => by simp at h, fun i j _ h => by simp at h, fun i h => by simp at h⟩
theorem PT.form {B : Nat} {v : Value} {z : List (Nd × Value)} {r : Nat → Nat} {w : World} (h : PT B v z r w) : ∃ a cap, v = .slice a z.length cap := by
  rcases h.own.2 with ⟨hv, h0⟩ | ⟨g, cap, cur, hv, _⟩
  · exact ⟨none, 0, by rw [hv, h0]⟩
  · exact ⟨_, _, hv⟩
theorem PT.keep {B B' : Nat} {v : Value} {z : List (Nd × Value)} {r : Nat → Nat} {w w' : World} (h : PT B v z r w) (hb : Below B' w w') (hB : w.heap.size ≤ B') : PT B v z r w' := by
  obtain ⟨h1, h2, h3, h4, h5⟩ := h
  refine ⟨⟨h1.1, h1.2.elim .inl (fun ⟨g, cap, cur, hv, hg, hblk, r⟩ => .inr ⟨g, cap, cur, hv, hg, ?_, r⟩)⟩, fun i hi => (h2 i hi).keep (hb.block _ (Nat.lt_of_lt_of_le (h5 i hi) hB)), h3, h4, fun i hi => Nat.lt_of_lt_of_le (h5 i hi) hb.size⟩
  rw [hb.block g (Nat.lt_of_lt_of_le (lt_of_heap hblk) hB)]
  exact hblk
/-- .. as a block. -/
theorem PT.tr {B : Nat} {v : Value} {z : List (Nd × Value)} {r : Nat → Nat} {w : World} (h : PT B v z r w) : (v = .slice none 0 0 ∧ z = []) ∨ ∃ g cap, v = .slice (some ⟨g, 0, none⟩) z.length cap ∧ B ≤ g ∧ Tr B w g cap (z.map (·.1)) r := by
  have hoff := h.off
  rcases h.own.2 with ⟨hv, h1⟩ | ⟨g, cap, cur, hv, hg, hblk, hl, hcm, hcs, htk⟩
  · exact .inl ⟨hv, List.length_eq_zero_iff.1 h1⟩
  · refine .inr ⟨g, cap, hv, hg, ⟨cur, hblk, hcs, by simpa using hl, fun i hi => ?_⟩, fun i j hij hj => h.asc i j hij (by simpa using hj), fun i hi => h.lt i (by simpa using hi)⟩
    have hi' : i < z.length := by simpa using hi
    have hc : ∀ (j : Nat) (u : Value), (fl z)[j]? = some u → cur[j]? = some u := by
      intro j u hj
      rw [← htk, List.getElem?_take] at hj
      split at hj
      · simpa using hj
      · cases hj
    obtain ⟨x0, x1, x2, x3, x4⟩ := fl_get z i hi'
    refine ⟨z[i].2, ⟨by simpa using hc _ _ x0, by simpa using hc _ _ x1, by simpa using hc _ _ x2, by simpa using hc _ _ x3, hc _ _ x4⟩, ?_⟩
    obtain ⟨a, c2, e0, hk⟩ := (h.kid i hi').form
    simp only [List.getElem_map]
    refine ⟨a, c2, e0, hk.imp id ?_⟩
    rintro ⟨e1, e2, e3⟩
    refine ⟨e1, e2, e3, fun e => hoff i hi' ?_⟩
    rw [hv, e]
    rfl
theorem PT.lies {B : Nat} {z : List (Nd × Value)} {r : Nat → Nat} {w : World} {a : Option Addr} {n cap : Nat} (h : PT B (.slice a n cap) z r w) : Lies w.heap.size w a (z.map (·.1)) := by
  rcases h.tr with ⟨_, h1⟩ | ⟨g, c, hv, _, h1⟩
  · exact .inl (by rw [h1]; rfl)
  · injection hv with hv _ _
    subst hv
    exact Tr.lies h1
/-- 'append(out, n)' of a node with a row of its own. -/
theorem wpList_append_node (w : World) (t : Nd) (u : Value) {ops : Array Oper} {rest : List Oper} {o : Oper} {a : Act} {Q : Exit → Act → World → Prop} (hgd : o.guard = none) (s x : Operand)
    (ho : o.op = .call { callee := .builtin .append, args := #[s, x], argTypes := #[29, 29] }) (B : Nat) (v : Value) (d : List (Nd × Value)) (r : Nat → Nat) (b : Nat) (hs : a.eval s = v)
    (hown : PT B v d r w) (hx : a.eval x = .slice (some ⟨w.heap.size, 0, none⟩) 1 1) (hu : u.oneCell' = true) (hn : d.length ≤ 1048576) (hB : B ≤ w.heap.size)
    (hk : KidV B w b u t.kids) (hb : ∀ i, i < d.length → r i ≠ b) (hbw : b < w.heap.size) (hoff : v.ownBlock ≠ some b)
    (h : ∀ v' r' w', PT B v' (d ++ [(t, u)]) r' w' → Below B w w' → (∀ i, i < d.length → r' i = r i) → r' d.length = b → wpList Tryz.prog ops Q rest (a.put o.dst v') w') :
    wpList Tryz.prog ops Q (o :: rest) a (w.alloc (.cells #[.int .i64 t.k, .int .i64 t.op, .string t.s, .string t.t, u] 60)) := by
  obtain ⟨i0, hi, hz0, hz1, hz2⟩ := info_parts Tryz.infoNode
  refine wpList_append_lies _ hgd s x 29 ho B 60 i0 _ 5 72 Tryz.underlying29 hi hz0 hz1 hz2 rfl (by decide) v d.length (fl d) hs (hown.own.alloc _) ⟨w.heap.size, 0, none⟩ 1 1 [.int .i64 t.k, .int .i64 t.op, .string t.s, .string t.t, u] hx rfl ?_ ?_ (by decide) (by unfold maxLen; omega) (by omega) (by simp; omega) (w.heap.size + 1) (by simp) ?_
  · intro j q hj
    rw [show ((⟨w.heap.size, 0, none⟩ : Addr).add j) = ⟨w.heap.size, j, none⟩ by unfold Addr.add; split <;> simp_all]
    rw [cell_of_row _ w.heap.size j _ _ _ (heap_alloc_new w _)]
    simpa using hj
  · intro q hq
    simp at hq
    rcases hq with rfl | rfl | rfl | rfl | rfl
    · rfl
    · rfl
    · rfl
    · rfl
    · exact hu
  · intro g cap w' hown' hg hor _
    have hsz := hg.size
    simp at hsz
    have hkeep : ∀ k, k < w.heap.size → v.ownBlock ≠ some k → w'.heap[k]? = w.heap[k]? := fun k hk hne => by
      rw [hg.block k (by simp; omega) (fun e => hne e.symm)]; exact Below.heap_alloc w _ k hk
    have hgne : ∀ k, k < w.heap.size → v.ownBlock ≠ some k → g ≠ k := fun k hk hne e => by
      rcases hor with e2 | e2
      · exact hne (by rw [e2, e])
      · omega
    refine h _ (fun i => if i < d.length then r i else b) w' ⟨?_, fun i hi => ?_, fun i hi => ?_, fun i j hij hj => ?_, fun i hi => ?_⟩ ?_ (fun i hi => if_pos hi) (if_neg (Nat.lt_irrefl _))
    · unfold OwnN
      rw [fl_snoc, List.length_append]
      exact hown'
    · simp at hi
      by_cases he : i < d.length
      · simp only [List.getElem_append_left he, if_pos he]
        exact (hown.kid i he).keep (hkeep _ (hown.lt i he) (hown.off i he))
      · obtain rfl : i = d.length := by omega
        simp only [List.getElem_append_right (Nat.le_refl _), Nat.sub_self, List.getElem_cons_zero, if_neg (Nat.lt_irrefl _)]
        exact hk.keep (hkeep _ hbw hoff)
    · simp at hi
      by_cases he : i < d.length
      · simp only [if_pos he]
        intro e
        injection e with e
        exact hgne _ (hown.lt i he) (hown.off i he) e
      · simp only [if_neg he]
        intro e
        injection e with e
        exact hgne _ hbw hoff e
    · simp at hj
      by_cases he : j < d.length
      · simp only [if_pos he, if_pos (Nat.lt_trans hij he)]
        exact hown.asc i j hij he
      · simp only [if_neg he, if_pos (show i < d.length by omega)]
        exact hb i (by omega)
    · simp at hi
      by_cases he : i < d.length
      · simp only [if_pos he]; have := hown.lt i he; omega
      · simp only [if_neg he]; omega
    · refine ((Below.refl B w).alloc hB _).grown hg (by simp; omega) ?_
      intro k hk
      exact (World.ownsRow.lt hown.own k hk).1
end Go.Proofs.YtiilpnoaocfjgaaGreatDoor.nd

namespace Go.Proofs.YtiilpnoaocfjgaaGreatDoor.mark
open Go.ChangeShapes Go.WideShapes Go.ChangeAt Go.RowKit
open nd
set_option linter.unusedVariables false
set_option maxRecDepth 20000

def mkI (P m : Nat) : List Int := (List.range m).map (fun j => ((P + j : Nat) : Int))
theorem mkI_len (P m : Nat) : (mkI P m).length = m := by simp [mkI]
theorem mkI_get {P m j : Nat} (h : j < m) : (mkI P m)[j]'(by rw [mkI_len]; exact h) = ((P + j : Nat) : Int) := by simp [mkI]
theorem mkI_succ (P m : Nat) : mkI P (m + 1) = mkI P m ++ [((P + m : Nat) : Int)] := by simp [mkI, List.range_succ]
def mkN (P m : Nat) : Nd := ⟨(P : Int), ((P + 1 : Nat) : Int), markF (P + 2), markF (P + 3), mkI (P + 4) m⟩
def mkL : List Nat → Nat → List Nd
  | [], _ => []
  | m :: ms, P => mkN P m :: mkL ms (P + 4 + m)
def endM : List Nat → Nat → Nat
  | [], P => P
  | m :: ms, P => endM ms (P + 4 + m)
theorem endM_eq : ∀ (ms : List Nat) (P : Nat), endM ms P = P + 4 * ms.length + ms.sum := by
  intro ms
  induction ms with
  | nil => intro P; simp [endM]
  | cons m ms ih => intro P; rw [endM, ih]; simp; omega
theorem endM_snoc : ∀ (ms : List Nat) (m P : Nat), endM (ms ++ [m]) P = endM ms P + 4 + m := by
  intro ms m P
  rw [endM_eq, endM_eq]; simp; omega
theorem mkL_snoc : ∀ (ms : List Nat) (m P : Nat), mkL (ms ++ [m]) P = mkL ms P ++ [mkN (endM ms P) m] := by
  intro ms
  induction ms with
  | nil => intro m P; rfl
  | cons x ms ih => intro m P; simp only [List.cons_append, mkL, endM, ih]
theorem mkL_len : ∀ (ms : List Nat) (P : Nat), (mkL ms P).length = ms.length := by
  intro ms
  induction ms with
  | nil => intro P; rfl
  | cons x ms ih => intro P; simp [mkL, ih]
def lens (l : List Nd) : List Nat := l.map (fun n => n.kids.length)
theorem lens_step {l : List Nd} {I : Nat} (h : I < l.length) : lens (l.take (I + 1)) = lens (l.take I) ++ [l[I].kids.length] := by
  unfold lens
  rw [List.take_succ_eq_append_getElem h, List.map_append]
  rfl
theorem lens_sum (l : List Nd) : (lens l).sum ≤ tot l := by
  induction l with
  | nil => simp [lens]
  | cons n l ih =>
    simp only [lens, List.map_cons, List.sum_cons, tot, Nd.sz] at ih ⊢
    omega
theorem end_le (l : List Nd) (I P : Nat) (h : l.length + tot l ≤ 1048576) (hP : P ≤ 1) : endM (lens (l.take I)) P ≤ 6000000 := by
  rw [endM_eq]
  have h1 := lens_sum (l.take I)
  have h2 := tot_le l I
  have h3 : (lens (l.take I)).length ≤ l.length := by simp [lens]; omega
  omega

/-! ### A row of integers, marked -/
theorem grown_set {w w1 : World} {p j : Nat} (u : Value) (h : w.grownBy w1 (some p)) : w.grownBy (w1.setCell ⟨p, j, none⟩ u) (some p) :=
  ⟨h.os, h.tape, h.output, by simp; exact h.size, fun k hk hne => by
    rw [heap_setCell_other w1 ⟨p, j, none⟩ k u (fun e => hne (by rw [e]))]
    exact h.block k hk hne⟩
def RelMi (W : World) (g cap P n : Nat) (k i : Value) (wr : World) : Prop :=
  ∃ I : Nat, I ≤ n ∧ i = .int .i64 (I : Int) ∧ k = .int .i64 ((P + I : Nat) : Int) ∧ IBlk wr g cap (mkI P I) ∧ W.grownBy wr (some g)
set_option maxHeartbeats 1600000 in
theorem mark_ints (g cap n P : Nat) (l : List Int) (w : World) (hb : IBlk w g cap l) (hn : n ≤ cap) (hn2 : n ≤ 1048576) (hP : P ≤ 6000010) :
    Calls Tryz.prog 102 #[.slice (some ⟨g, 0, none⟩) n cap, .int .i64 (P : Int)] w fun e w' => e = .returned (.int .i64 ((P + n : Nat) : Int)) ∧ IBlk w' g cap (mkI P n) ∧ w.grownBy w' (some g) := by
  have HB0 := Lib.hid (show IBlk w g cap (mkI P 0) by
    obtain ⟨c, hc, hs, -, -⟩ := hb
    exact ⟨c, hc, hs, by simp [mkI], fun i hi => by simp [mkI] at hi⟩)
  clear hb
  go_enter Tryz.func102, Tryz.ntmps102
  go_wp2
  go_loopw [1, 5] (fun k i wr => RelMi w g cap P n k i wr) (fun _ i _ => n - (intOf i).toNat)
  case atStart => exact ⟨0, by omega, rfl, by simp, HB0.out, World.grownBy.refl w _⟩
  case round =>
    obtain ⟨I, hI, rfl, rfl, hblk, hgr⟩ := hrel
    have HK := Lib.hid hblk
    have HG := Lib.hid hgr
    clear hblk hgr
    obtain ⟨Q, hQ⟩ : ∃ Q, Q = P + I := ⟨_, rfl⟩
    rw [← hQ]
    have HQ := Lib.hid hQ
    have hQb : Q ≤ 8000000 := by omega
    clear hQ
    by_cases hlt : I < n
    · have hi1 : (I : Int) < (n : Int) := by omega
      obtain ⟨v0, e0⟩ := HK.out.some I (by omega)
      have f0 := HK.out.frozen I
      have HP2 := Lib.hid (show IBlk (wr.setCell ⟨g, I, none⟩ (.int .i64 (Q : Int))) g cap (mkI P (I + 1)) by
        have := HK.out.put (Q : Int) (by rw [mkI_len]; omega)
        rw [mkI_len] at this
        rw [mkI_succ, ← HQ.out]
        exact this)
      have HG1 := Lib.hid (grown_set (j := I) (.int .i64 (Q : Int)) HG.out)
      go_wp2
      go_roundw
      case rel => exact ⟨I + 1, by omega, by go_num, congrArg (Value.int .i64) (by have := HQ.out; omega), HP2.out, HG1.out⟩
      case measure => simp [intOf]; omega
    · obtain rfl : I = n := by omega
      go_wp2
      go_ret
      exact ⟨by rw [← HQ.out]; rfl, HK.out, HG.out⟩
theorem mark_ints0 (a : Option Addr) (cap : Nat) (k : Int) (w : World) :
    Calls Tryz.prog 102 #[.slice a 0 cap, .int .i64 k] w fun e w' => e = .returned (.int .i64 k) ∧ w = w' := by
  go_enter Tryz.func102, Tryz.ntmps102
  go_wp2
  go_loop [1, 5] (fun k' i => k' = .int .i64 k ∧ i = .int .i64 0) (fun _ _ => 0)
  case atStart => exact ⟨rfl, rfl⟩
  case round =>
    obtain ⟨rfl, rfl⟩ := hrel
    go_wp2
    go_ret
    exact ⟨rfl, rfl⟩

/-! ### A tree's fields, set -/
theorem tr_row {B : Nat} {w : World} {g n : Nat} {l : List Nd} {r : Nat → Nat} (h : Tr B w g n l r) {I : Nat} (hI : I < l.length) : ∃ a cap, w.cell? ⟨g, I * 5 + 4, none⟩ = some (.slice a l[I].kids.length cap) ∧ (l[I].kids = [] ∨ a = some ⟨r I, 0, none⟩ ∧ IBlk w (r I) cap l[I].kids ∧ B ≤ r I ∧ r I ≠ g) := by
  obtain ⟨⟨c, hc, hs, hl, hx⟩, -⟩ := h
  obtain ⟨v, ⟨_, _, _, _, h4⟩, a, cap, rfl, hk⟩ := hx I hI
  exact ⟨a, cap, by rw [cell_of_row w g _ _ _ _ hc]; exact h4, hk⟩
theorem tr_setF {B : Nat} {w : World} {g n : Nat} {l : List Nd} {r : Nat → Nat} (h : Tr B w g n l r) {I : Nat} (hI : I < l.length) (j : Nat) (u : Value) (x' : Nd) (hj : j < 5) (hk : x'.kids = l[I].kids)
    (hcc : ∀ c v, C5 c I l[I] v → I * 5 + 5 ≤ c.size → C5 (c.setIfInBounds (I * 5 + j) u) I x' v) : Tr B (w.setCell ⟨g, I * 5 + j, none⟩ u) g n (l.set I x') r := by
  obtain ⟨⟨c, hc, hs, hl, hx⟩, ha, hr⟩ := h
  have keepk : ∀ {r' : Nat} {q : Value} {m : List Int}, Kid B w g r' q m → Kid B (w.setCell ⟨g, I * 5 + j, none⟩ u) g r' q m := by
    rintro r' q m ⟨a, cap, e, h⟩
    refine ⟨a, cap, e, h.imp id ?_⟩
    rintro ⟨e1, e2, e3, e4⟩
    exact ⟨e1, e2.of_block (heap_setCell_other _ _ _ _ e4), e3, e4⟩
  refine ⟨⟨_, heap_setCell_same _ g _ _ _ _ hc, by simpa using hs, by simpa using hl, fun i hi => ?_⟩, fun i j' hij hj' => ha i j' hij (by simpa using hj'), fun i hi => by rw [show (w.setCell ⟨g, I * 5 + j, none⟩ u).heap.size = w.heap.size by simp]; exact hr i (by simpa using hi)⟩
  simp at hi
  obtain ⟨v, h5, hk'⟩ := hx i hi
  by_cases he : I = i
  · subst he
    simp only [List.getElem_set_self]
    exact ⟨v, hcc c v h5 (by omega), by rw [hk]; exact keepk hk'⟩
  · simp only [List.getElem_set_ne he]
    refine ⟨v, ?_, keepk hk'⟩
    obtain ⟨h0, h1, h2, h3, h4⟩ := h5
    unfold C5
    simp only [Array.getElem?_setIfInBounds]
    exact ⟨by rw [if_neg (by omega)]; exact h0, by rw [if_neg (by omega)]; exact h1, by rw [if_neg (by omega)]; exact h2, by rw [if_neg (by omega)]; exact h3, by rw [if_neg (by omega)]; exact h4⟩
theorem tr_setK {B : Nat} {w : World} {g n : Nat} {l : List Nd} {r : Nat → Nat} (h : Tr B w g n l r) {I : Nat} (hI : I < l.length) (P : Int) : Tr B (w.setCell ⟨g, I * 5, none⟩ (.int .i64 P)) g n (l.set I { l[I] with k := P }) r :=
  tr_setF h hI 0 (.int .i64 P) { l[I] with k := P } (by omega) rfl (fun c v h5 hs => by
    obtain ⟨h0, h1, h2, h3, h4⟩ := h5
    unfold C5
    simp only [Array.getElem?_setIfInBounds]
    exact ⟨by rw [if_pos (by first | trivial | omega), if_pos (by first | trivial | omega)], by rw [if_neg (by omega)]; exact h1, by rw [if_neg (by omega)]; exact h2, by rw [if_neg (by omega)]; exact h3, by rw [if_neg (by omega)]; exact h4⟩)
theorem tr_setO {B : Nat} {w : World} {g n : Nat} {l : List Nd} {r : Nat → Nat} (h : Tr B w g n l r) {I : Nat} (hI : I < l.length) (P : Int) : Tr B (w.setCell ⟨g, I * 5 + 1, none⟩ (.int .i64 P)) g n (l.set I { l[I] with op := P }) r :=
  tr_setF h hI 1 (.int .i64 P) { l[I] with op := P } (by omega) rfl (fun c v h5 hs => by
    obtain ⟨h0, h1, h2, h3, h4⟩ := h5
    unfold C5
    simp only [Array.getElem?_setIfInBounds]
    exact ⟨by rw [if_neg (by omega)]; exact h0, by rw [if_pos (by first | trivial | omega), if_pos (by first | trivial | omega)], by rw [if_neg (by omega)]; exact h2, by rw [if_neg (by omega)]; exact h3, by rw [if_neg (by omega)]; exact h4⟩)
theorem tr_setS {B : Nat} {w : World} {g n : Nat} {l : List Nd} {r : Nat → Nat} (h : Tr B w g n l r) {I : Nat} (hI : I < l.length) (s : ByteArray) : Tr B (w.setCell ⟨g, I * 5 + 2, none⟩ (.string s)) g n (l.set I { l[I] with s := s }) r :=
  tr_setF h hI 2 (.string s) { l[I] with s := s } (by omega) rfl (fun c v h5 hs => by
    obtain ⟨h0, h1, h2, h3, h4⟩ := h5
    unfold C5
    simp only [Array.getElem?_setIfInBounds]
    exact ⟨by rw [if_neg (by omega)]; exact h0, by rw [if_neg (by omega)]; exact h1, by rw [if_pos (by first | trivial | omega), if_pos (by first | trivial | omega)], by rw [if_neg (by omega)]; exact h3, by rw [if_neg (by omega)]; exact h4⟩)
theorem tr_setT {B : Nat} {w : World} {g n : Nat} {l : List Nd} {r : Nat → Nat} (h : Tr B w g n l r) {I : Nat} (hI : I < l.length) (s : ByteArray) : Tr B (w.setCell ⟨g, I * 5 + 3, none⟩ (.string s)) g n (l.set I { l[I] with t := s }) r :=
  tr_setF h hI 3 (.string s) { l[I] with t := s } (by omega) rfl (fun c v h5 hs => by
    obtain ⟨h0, h1, h2, h3, h4⟩ := h5
    unfold C5
    simp only [Array.getElem?_setIfInBounds]
    exact ⟨by rw [if_neg (by omega)]; exact h0, by rw [if_neg (by omega)]; exact h1, by rw [if_neg (by omega)]; exact h2, by rw [if_pos (by first | trivial | omega), if_pos (by first | trivial | omega)], by rw [if_neg (by omega)]; exact h4⟩)
/-- The row of node I is written. -/
theorem tr_setKids {B : Nat} {w w' : World} {g n : Nat} {l : List Nd} {r : Nat → Nat} (h : Tr B w g n l r) {I : Nat} (hI : I < l.length) (m : List Int) (hm : m.length = l[I].kids.length) {a : Option Addr} {cap : Nat}
    (hcell : w.cell? ⟨g, I * 5 + 4, none⟩ = some (.slice a l[I].kids.length cap)) (hne : r I ≠ g) (hB : B ≤ r I) (ha : a = some ⟨r I, 0, none⟩) (hg : w.grownBy w' (some (r I))) (hb : IBlk w' (r I) cap m) : Tr B w' g n (l.set I { l[I] with kids := m }) r := by
  have hlt := h.lt
  obtain ⟨⟨c, hc, hs, hl, hx⟩, has, hr⟩ := h
  refine ⟨⟨c, ?_, hs, by simpa using hl, fun i hi => ?_⟩, fun i j' hij hj' => has i j' hij (by simpa using hj'), fun i hi => Nat.lt_of_lt_of_le (hr i (by simpa using hi)) hg.size⟩
  · rw [hg.block g hlt (fun e => by injection e with e; exact hne e.symm)]; exact hc
  simp at hi
  obtain ⟨v, h5, hk'⟩ := hx i hi
  by_cases he : I = i
  · subst he
    simp only [List.getElem_set_self]
    have hv : v = .slice a l[I].kids.length cap := by
      have h4 := h5.2.2.2.2
      rw [cell_of_row w g _ _ _ _ hc, h4] at hcell
      exact Option.some.inj hcell
    refine ⟨v, h5, a, cap, by rw [hv]; simp [hm], .inr ⟨ha, hb, hB, hne⟩⟩
  · simp only [List.getElem_set_ne he]
    obtain ⟨a2, c2, e0, hk2⟩ := hk'
    refine ⟨v, h5, a2, c2, e0, hk2.imp id ?_⟩
    rintro ⟨e1, e2, e3, e4⟩
    have hri : r i ≠ r I := by
      rcases Nat.lt_or_ge I i with h' | h'
      · exact (has I i h' hi).symm
      · exact has i I (by have : I ≠ i := he; omega) hI
    refine ⟨e1, e2.of_block (hg.block (r i) e2.lt (fun e => by injection e with e; exact hri e)), e3, e4⟩
end Go.Proofs.YtiilpnoaocfjgaaGreatDoor.mark

namespace Go.Proofs.YtiilpnoaocfjgaaGreatDoor.mark
open Go.ChangeShapes Go.WideShapes Go.ChangeAt Go.RowKit
open nd
set_option linter.unusedVariables false

theorem mark_textN (P : Nat) (w : World) (hk0 : 0 < P) (hk : P ≤ 8000000) :
    Calls Tryz.prog 101 #[.int .i64 (P : Int)] w fun e w' => e = .returned (.string (markF P)) ∧ Below w.heap.size w w' := mark_text P w hk0 (by omega)

/-- Blocks from S on stand. -/
def Above (S : Nat) (w w' : World) : Prop := ∀ k, S ≤ k → k < w.heap.size → w'.heap[k]? = w.heap[k]?
theorem Above.refl (S : Nat) (w : World) : Above S w w := fun k _ _ => rfl
theorem Above.trans {S : Nat} {a b c : World} (h : Above S a b) (k : Above S b c) (hs : a.heap.size ≤ b.heap.size) : Above S a c := fun j h1 h2 => (k j h1 (Nat.lt_of_lt_of_le h2 hs)).trans (h j h1 h2)
theorem Above.set {S g j : Nat} {w : World} (hg : g < S) (u : Value) : Above S w (w.setCell ⟨g, j, none⟩ u) := fun k h1 _ => heap_setCell_other w ⟨g, j, none⟩ k u (by show k ≠ g; omega)
theorem Above.below {S : Nat} {w w' : World} (h : Below w.heap.size w w') : Above S w w' := fun k _ h2 => h.block k h2
theorem Above.grown {S g : Nat} {w w' : World} (h : w.grownBy w' (some g)) (hg : g < S) : Above S w w' := fun k h1 h2 => h.block k h2 (fun e => by injection e with e; omega)
theorem Tr.above {S : Nat} {w w' : World} {g n : Nat} {l : List Nd} {r : Nat → Nat} (h : Tr S w g n l r) (hf : Above S w w') (hs : w.heap.size ≤ w'.heap.size) (hg : S ≤ g) : Tr S w' g n l r := by
  have hlt := Tr.lt h
  obtain ⟨⟨c, hc, hsz, hl, hx⟩, ha, hr⟩ := h
  refine ⟨⟨c, (hf g hg hlt).trans hc, hsz, hl, fun i hi => ?_⟩, ha, fun i hi => Nat.lt_of_lt_of_le (hr i hi) hs⟩
  obtain ⟨v, h5, a, cap, e, hk⟩ := hx i hi
  refine ⟨v, h5, a, cap, e, hk.imp id ?_⟩
  rintro ⟨e1, e2, e3, e4⟩
  exact ⟨e1, e2.of_block (hf _ e3 e2.lt), e3, e4⟩

structure MS (B S : Nat) (g cap : Nat) (l : List Nd) (r : Nat → Nat) (W wr : World) : Prop where
  tr : Tr B wr g cap l r
  bel : Below B W wr
  abo : Above S W wr
  siz : W.heap.size ≤ wr.heap.size
variable {B S g cap : Nat} {l : List Nd} {r : Nat → Nat} {W w w' : World}
theorem MS.over (h : MS B S g cap l r W w) (hb : Below w.heap.size w w') (hB : B ≤ w.heap.size) : MS B S g cap l r W w' :=
  ⟨h.tr.keep hb (Nat.le_refl _), h.bel.trans (hb.mono hB), h.abo.trans (Above.below hb) h.siz, Nat.le_trans h.siz hb.size⟩
theorem MS.set {l' : List Nd} (h : MS B S g cap l r W w) (hB : B ≤ g) (hS : g < S) (j : Nat) (u : Value) (ht : Tr B (w.setCell ⟨g, j, none⟩ u) g cap l' r) : MS B S g cap l' r W (w.setCell ⟨g, j, none⟩ u) :=
  ⟨ht, h.bel.setCell (p := ⟨g, j, none⟩) hB u, h.abo.trans (Above.set hS u) h.siz, by have := h.siz; simpa using this⟩

section
variable {l1 : List Nd} {I : Nat} {x : Nd} (hB : B ≤ g) (hS : g < S) (hI : I < l1.length)
include hB hS hI
theorem MS.sK (h : MS B S g cap (l1.set I x) r W w) (P : Int) : MS B S g cap (l1.set I { x with k := P }) r W (w.setCell ⟨g, I * 5, none⟩ (.int .i64 P)) := by
  have := h.set hB hS (I * 5) (.int .i64 P) (tr_setK h.tr (I := I) (by simpa using hI) P)
  simpa only [List.getElem_set_self, List.set_set] using this
theorem MS.sO (h : MS B S g cap (l1.set I x) r W w) (P : Int) : MS B S g cap (l1.set I { x with op := P }) r W (w.setCell ⟨g, I * 5 + 1, none⟩ (.int .i64 P)) := by
  have := h.set hB hS (I * 5 + 1) (.int .i64 P) (tr_setO h.tr (I := I) (by simpa using hI) P)
  simpa only [List.getElem_set_self, List.set_set] using this
theorem MS.sS (h : MS B S g cap (l1.set I x) r W w) (s : ByteArray) : MS B S g cap (l1.set I { x with s := s }) r W (w.setCell ⟨g, I * 5 + 2, none⟩ (.string s)) := by
  have := h.set hB hS (I * 5 + 2) (.string s) (tr_setS h.tr (I := I) (by simpa using hI) s)
  simpa only [List.getElem_set_self, List.set_set] using this
theorem MS.sT (h : MS B S g cap (l1.set I x) r W w) (s : ByteArray) : MS B S g cap (l1.set I { x with t := s }) r W (w.setCell ⟨g, I * 5 + 3, none⟩ (.string s)) := by
  have := h.set hB hS (I * 5 + 3) (.string s) (tr_setT h.tr (I := I) (by simpa using hI) s)
  simpa only [List.getElem_set_self, List.set_set] using this
omit hB hS in
theorem MS.row (h : MS B S g cap (l1.set I x) r W w) : ∃ a c, w.cell? ⟨g, I * 5 + 4, none⟩ = some (.slice a x.kids.length c) ∧ (x.kids = [] ∨ a = some ⟨r I, 0, none⟩ ∧ IBlk w (r I) c x.kids ∧ B ≤ r I ∧ r I ≠ g) := by
  have := tr_row h.tr (I := I) (by simpa using hI)
  simpa only [List.getElem_set_self] using this
omit hB hS in
theorem MS.sKids (h : MS B S g cap (l1.set I x) r W w) (m : List Int) (hm : m.length = x.kids.length) {c : Nat} (hcell : w.cell? ⟨g, I * 5 + 4, none⟩ = some (.slice (some ⟨r I, 0, none⟩) x.kids.length c)) (hne : r I ≠ g) (hBr : B ≤ r I) (hSr : r I < S) (hBw : B ≤ w.heap.size) (hg : w.grownBy w' (some (r I))) (hb : IBlk w' (r I) c m) : MS B S g cap (l1.set I { x with kids := m }) r W w' := by
  have := tr_setKids h.tr (I := I) (by simpa using hI) m (by simpa using hm) (a := some ⟨r I, 0, none⟩) (cap := c) (by simpa using hcell) hne hBr rfl hg hb
  simp only [List.getElem_set_self, List.set_set] at this
  exact ⟨this, h.bel.grown hg hBw (fun k e => by cases e; exact hBr), h.abo.trans (Above.grown hg hSr) h.siz, Nat.le_trans h.siz hg.size⟩
end
def RelMn (B S g cap : Nat) (W : World) (l : List Nd) (r : Nat → Nat) (k i : Value) (wr : World) : Prop :=
  ∃ I : Nat, I ≤ l.length ∧ i = .int .i64 (I : Int) ∧ k = .int .i64 (endM (lens (l.take I)) 1 : Int) ∧ MS B S g cap (mkL (lens (l.take I)) 1 ++ l.drop I) r W wr

set_option maxRecDepth 20000 in
set_option maxHeartbeats 3200000 in
theorem mark_nodes (l : List Nd) (w : World) (htot : l.length + tot l ≤ 1048576) (ht : Tr B w g cap l r) (hB : B ≤ g) (hS : g < S) (hSr : ∀ i, i < l.length → r i < S) :
    Calls Tryz.prog 47 #[.slice (some ⟨g, 0, none⟩) l.length cap, .int .i64 1] w fun e w' => e = .returned (.int .i64 (endM (lens l) 1 : Int)) ∧ MS B S g cap (mkL (lens l) 1) r w w' := by
  have HT := Lib.hid (show MS B S g cap l r w w from ⟨ht, Below.refl _ _, Above.refl _ _, Nat.le_refl _⟩)
  have HTOT := Lib.hid htot
  have hcap : l.length ≤ cap := by obtain ⟨⟨_, _, _, h, _⟩, _⟩ := ht; exact h
  have hlb : l.length ≤ 1048576 := by omega
  have HSR := Lib.hid hSr
  clear ht htot hSr
  go_enter Tryz.func47, Tryz.ntmps47
  go_wp2
  go_loopw [1, 5] (fun k i wr => RelMn B S g cap w l r k i wr) (fun _ i _ => l.length - (intOf i).toNat)
  case atStart => exact ⟨0, by omega, rfl, rfl, HT.out⟩
  case round =>
    obtain ⟨I, hI, rfl, rfl, hms⟩ := hrel
    have HE := Lib.hid (end_le l I 1 HTOT.out (Nat.le_refl _))
    obtain ⟨P, hP⟩ : ∃ P, P = endM (lens (l.take I)) 1 := ⟨_, rfl⟩
    have HP := Lib.hid hP
    have hP1 : 1 ≤ P := by rw [hP, endM_eq]; omega
    rw [← hP] at HE ⊢
    have hPb := HE.out
    by_cases hlt : I < l.length
    · obtain ⟨l1, hl1⟩ : ∃ l1, l1 = mkL (lens (l.take I)) 1 ++ l.drop I := ⟨_, rfl⟩
      rw [← hl1] at hms
      have HL1 := Lib.hid hl1
      have hmk : (mkL (lens (l.take I)) 1).length = I := by rw [mkL_len]; simp [lens]; omega
      have hlen1 : l1.length = l.length := by rw [hl1]; simp [hmk]; omega
      have hI1 : I < l1.length := by omega
      have hget : l1[I] = l[I] := by
        simp only [hl1]
        rw [List.getElem_append_right (by omega)]
        simp [hmk]
      obtain ⟨m, hm⟩ : ∃ m, m = l[I].kids.length := ⟨_, rfl⟩
      have hmb : m ≤ 1048576 := by
        have := sz_le hlt
        have := HTOT.out
        unfold Nd.sz at *
        omega
      have HM := Lib.hid hm
      have HFIN := Lib.hid (show l1.set I (mkN P m) = mkL (lens (l.take (I + 1))) 1 ++ l.drop (I + 1) by
        rw [lens_step hlt, mkL_snoc, ← hP, ← hm, hl1, List.set_append_right _ _ (by omega), hmk, Nat.sub_self, List.drop_eq_getElem_cons hlt, List.set_cons_zero, List.append_assoc]
        rfl)
      have HEND := Lib.hid (show endM (lens (l.take (I + 1))) 1 = P + 4 + m by rw [lens_step hlt, endM_snoc, ← hP, ← hm])
      have hi1 : (I : Int) < (l.length : Int) := by omega
      have HI1 := Lib.hid hI1
      obtain ⟨x, hx⟩ : ∃ x, x = l[I] := ⟨_, rfl⟩
      have hms0 : MS B S g cap (l1.set I x) r w wr := by rw [hx, ← hget, List.set_getElem_self]; exact hms
      have hxm : x.kids.length = m := by rw [hx, hm]
      have HXM := Lib.hid hxm
      obtain ⟨v0, e0⟩ := hms.tr.some (I * 5) (by omega)
      obtain ⟨v1, e1⟩ := hms.tr.some (I * 5 + 1) (by omega)
      have f0 := hms.tr.frozen (I * 5)
      have f1 := hms.tr.frozen (I * 5 + 1)
      have M2 := Lib.hid ((hms0.sK hB hS hI1 (P : Int)).sO hB hS hI1 ((P : Int) + 1))
      have HRI := Lib.hid (HSR.out I hlt)
      clear hms hms0 hl1 hlen1 hget hP hm hmk hx hI1 hxm
      go_wp2_with fail
      rw [show (P : Int) + 1 + 1 = ((P + 2 : Nat) : Int) by omega]
      refine (mark_textN (P + 2) _ (by omega) (by omega)).mono ?_
      rintro e w2 ⟨rfl, b2⟩
      have m3 := M2.out.over b2 (Nat.le_trans hB (Nat.le_of_lt (Tr.lt M2.out.tr)))
      obtain ⟨v2, e2⟩ := m3.tr.some (I * 5 + 2) (by omega)
      have f2 := m3.tr.frozen (I * 5 + 2)
      have M4 := Lib.hid (m3.sS hB hS HI1.out (markF (P + 2)))
      clear m3 b2
      go_wp2_with fail
      rw [show (P : Int) + 2 + 1 = ((P + 3 : Nat) : Int) by omega]
      refine (mark_textN (P + 3) _ (by omega) (by omega)).mono ?_
      rintro e w4 ⟨rfl, b4⟩
      have m5 := M4.out.over b4 (Nat.le_trans hB (Nat.le_of_lt (Tr.lt M4.out.tr)))
      obtain ⟨v3, e3⟩ := m5.tr.some (I * 5 + 3) (by omega)
      have f3 := m5.tr.frozen (I * 5 + 3)
      have m6 := m5.sT hB hS HI1.out (markF (P + 3))
      obtain ⟨ar, cr, hcell, hrow⟩ := m6.row HI1.out
      have HC6 := Lib.hid hcell
      simp only [HXM.out] at hcell
      have M6 := Lib.hid m6
      have hBw6 := Nat.le_trans hB (Nat.le_of_lt (Tr.lt m6.tr))
      have HROW := Lib.hid hrow
      clear m5 m6 b4 hrow
      go_wp2_with fail
      rcases HROW.out with h0 | ⟨har, hib, hBr, hne⟩
      · have hm0 : m = 0 := by rw [← HXM.out]; show x.kids.length = 0; rw [show x.kids = [] from h0]; rfl
        have HFX := Lib.hid (show MS B S g cap (l1.set I (mkN P m)) r w (w4.setCell ⟨g, I * 5 + 3, none⟩ (.string (markF (P + 3)))) by
          have := M6.out
          have e : ({ k := (P : Int), op := (P : Int) + 1, s := markF (P + 2), t := markF (P + 3), kids := x.kids } : Nd) = mkN P m := by
            rw [hm0, show x.kids = [] from h0]
            rfl
          rwa [← e])
        rw [hm0]
        refine (mark_ints0 _ _ _ _).mono ?_
        rintro e w6 ⟨rfl, rfl⟩
        clear e2 e3 f2 f3 hcell hBw6
        go_wp2
        go_roundw
        case rel => exact ⟨I + 1, by omega, by go_num, congrArg (Value.int .i64) (by rw [HEND.out, hm0]; omega), by rw [← HFIN.out]; exact HFX.out⟩
        case measure => simp [intOf]; omega
      · have hmc : m ≤ cr := by obtain ⟨_, _, _, h, _⟩ := hib; have h2 : x.kids.length ≤ cr := h; have := HXM.out; omega
        subst har
        rw [show (P : Int) + 3 + 1 = ((P + 4 : Nat) : Int) by omega]
        refine (mark_ints (r I) cr m (P + 4) _ _ hib hmc hmb (by omega)).mono ?_
        rintro e w6 ⟨rfl, k6, g6⟩
        have HFX := Lib.hid (show MS B S g cap (l1.set I (mkN P m)) r w w6 from
          M6.out.sKids HI1.out (mkI (P + 4) m) (by rw [mkI_len]; exact HXM.out.symm) HC6.out hne hBr HRI.out hBw6 g6 k6)
        clear e2 e3 f2 f3 hcell hBw6 hib k6 g6
        go_wp2
        go_roundw
        case rel => exact ⟨I + 1, by omega, by go_num, congrArg (Value.int .i64) (by rw [HEND.out]; omega), by rw [← HFIN.out]; exact HFX.out⟩
        case measure => simp [intOf]; omega
    · obtain rfl : I = l.length := by omega
      have HFX := Lib.hid (show MS B S g cap (mkL (lens l) 1) r w wr by have := hms; rwa [List.take_length, List.drop_length, List.append_nil] at this)
      have HPE := Lib.hid (show (P : Int) = (endM (lens l) 1 : Int) by rw [hP, List.take_length])
      clear hms hP
      go_wp2
      go_ret
      exact ⟨by rw [← HPE.out]; rfl, HFX.out⟩
end Go.Proofs.YtiilpnoaocfjgaaGreatDoor.mark
