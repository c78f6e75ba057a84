/-
  Lemmas over this seat's program for slices of bytes: 'string(b)', '[]byte{..}'.
  The verifier's drawing functions (spec.l1New, l1Byte, l1Below ..): what each answers, as a plain function of the bytes that came in and of the cursor.
  The verifier's drawing functions of chapter 1 (spec.l1New, l1PickInt, l1Num, l1Text, DrawVar, DrawHex, DrawReadVar): what each answers.
  A slice of bytes that came in ('IsRow'), as a drawing function reads it ('Code'); laws.big.
  laws.at: a byte of a code, or one that follows from it: some number below 256.
  Nodes built by append, each with a row of kids of its own ('PT'); the steps of an append.
  impl.shifted and spec.l6Shift: nodes whose kids are so much further on, in memory of their own: contracts.
  impl.Part: the part of a node as a tree of its own, in memory of its own: a contract.
  spec.l6Shift: nodes in new memory whose kids are so much further on: a contract.
  spec.l6Part, spec.Part: contracts.
  spec.l6Make: parts behind each other and a node over them, in memory of their own: a contract.
  The verifier's drawing functions of small strings, exactly: spec.l1Pick, l2Word, l4Num, l4Str, l4Ere; l7Leaf.
  The verifier's drawing functions of trees (chapter 7), as plain functions over any source of numbers and any way to put parts together; two of them in step.
  Two ways of drawing trees in step: every drawing function of chapter 7.
  The sequence behind the end of the code: it reaches every number below 2^64, and a loop that draws until something is small enough ends.
  The sizes of drawn trees behind the end of the code: a reckoning over plain numbers; the loop that draws a small expression ends.
  The reckoning: from each of a stretch of places the loops end soon; so they end from everywhere.
  The reckoning for whole programs.
  The exact drawing functions of trees; behind the end of the code they go in step with the sizes.
  In drawn trees a binary operation has no more than two kids. No program's text is walked here.
  The loops that draw a small expression or program end from every cursor.
  What spec.l6Make answers over drawn trees, as a drawn tree.
  spec.l7Leaf and spec.l7Lvalue by the plain drawing functions.
  The trees that are drawn are small.
  A list of drawn trees that a loop builds by append (spec.l7List), and an operator picked out of a list.
-/
import Derived.Test.YtiilpnoaocfjgaaGreatDoorRows
import Derived.Test.YtiilpnoaocfjgaaGreatDoorBase
import Derived.WalkKit
import Derived.Laws.IdiomStrings
import Derived.Laws.OwnMore
import Derived.ProofKit
import Derived.OpenShut
import Derived.ChangeOld
import Derived.Below
import Derived.WalkSpells
import Derived.WalkLawsBesides
import Derived.BigQuiet
import Derived.Deep.QuietTactic
import Derived.RegionTactic
import Derived.StillTactics
import Derived.Lib.Strings
import Derived.Test.YtiilpnoaocfjgaaGreatDoorOwnI
import Derived.Deep.RegionLaw
import Derived.Test.YtiilpnoaocfjgaaGreatDoorNdEq
import Derived.Test.YtiilpnoaocfjgaaGreatDoorShapeImpl
namespace Go.Proofs.YtiilpnoaocfjgaaGreatDoor
open Go.RowKit
set_option maxRecDepth 20000

theorem Tryz.infoByte : (Tryz.prog.info? 5).map (fun i => (i.zero, i.size, i.bytes)) = some (some (.int .u8 0), 1, 1) := by kernel_rfl

/-- Bytes as the cells of a row. -/
def cellsOf (l : List UInt8) : List Value := l.map (fun b => Value.int .u8 (b.toNat : Int))

theorem cellsOf_snoc (l : List UInt8) (b : UInt8) : cellsOf (l ++ [b]) = cellsOf l ++ [.int .u8 (b.toNat : Int)] := by simp [cellsOf]
theorem cellsOf_length (l : List UInt8) : (cellsOf l).length = l.length := by simp [cellsOf]

/-- 'string(b)', b owned by the call and holding l. -/
theorem conv_own (w : World) (base : Nat) (v : Value) (n : Nat) (l : List UInt8) (hn : n = l.length) (h : w.ownsRow base 5 1 v n (cellsOf l)) :
    (convert 22 9 v).run Tryz.prog w = .ok (.string ⟨l.toArray⟩) w := by
  subst hn
  rcases h.2 with ⟨rfl, hl⟩ | ⟨g, cap, cur, rfl, hb, hg, hnc, hcm, hcs, htake⟩
  · obtain rfl : l = [] := List.length_eq_zero_iff.1 hl
    rw [run_convert_bytes_string w 22 9 5 none 0 0 Tryz.underlying22 Tryz.underlying5 Tryz.underlying9]
    rfl
  · refine run_convert_bytes_back w 22 9 5 ⟨g, 0, none⟩ cap l Tryz.underlying22 Tryz.underlying5 Tryz.underlying9 ?_
    intro j hj
    have := World.ownsRow.cellAt h j (by simpa using hj)
    have e : (⟨g, 0, none⟩ : Addr).add j = ⟨g, j, none⟩ := by
      simp only [Addr.add, Nat.zero_add]
      split
      · next h0 => subst h0; rfl
      · rfl
    rw [e, this]
    simp [cellsOf, hj]

/-- 'string([]byte{x})'. -/
theorem conv_one (w : World) (x : Int) (h0 : 0 ≤ x) (h1 : x < 256) :
    (convert 22 9 (.slice (some ⟨w.heap.size, 0, none⟩) 1 1)).run Tryz.prog (w.alloc (.cells #[.int .u8 x] 5)) = .ok (.string ⟨#[UInt8.ofNat x.toNat]⟩) (w.alloc (.cells #[.int .u8 x] 5)) := by
  refine conv_own _ 0 _ 1 [UInt8.ofNat x.toNat] rfl ?_
  have := World.ownsRow_lit (base := 0) (e := 5) (size := 1) w #[.int .u8 x] 1 (by omega) (by unfold maxLen; omega) rfl
  have e : cellsOf [UInt8.ofNat x.toNat] = [.int .u8 x] := by
    simp [cellsOf]
    omega
  rw [e]
  exact this

/-- 'append(b, x)', b nil or the call's own. -/
theorem wpList_append_byte (w : World) (y : Int) {ops : Array Oper} {rest : List Oper} {o : Oper} {a : Act} {Q : Exit → Act → World → Prop} (hgd : o.guard = none) (s x : Operand)
    (ho : o.op = .call { callee := .builtin .append, args := #[s, x], argTypes := #[22, 22] }) (base : Nat) (v : Value) (n : Nat) (l : List UInt8) (hs : a.eval s = v)
    (hown : w.ownsRow base 5 1 v n (cellsOf l)) (h0 : 0 ≤ y) (h1 : y < 256) (hx : a.eval x = .slice (some ⟨w.heap.size, 0, none⟩) 1 1) (hn : n < 70368744177664) (hbase : base ≤ w.heap.size)
    (h : ∀ v' w', w'.ownsRow base 5 1 v' (n + 1) (cellsOf (l ++ [UInt8.ofNat y.toNat])) → (∀ W0, Below base W0 w → Below base W0 w') → wpList Tryz.prog ops Q rest (a.put o.dst v') w') :
    wpList Tryz.prog ops Q (o :: rest) a (w.alloc (.cells #[.int .u8 y] 5)) := by
  obtain ⟨i0, hi, hz0, hz1, hz2⟩ := info_parts Tryz.infoByte
  have ey : Value.int .u8 ((UInt8.ofNat y.toNat).toNat : Int) = .int .u8 y := by
    congr 1
    simp
    omega
  refine wpList_append_own _ hgd s x 22 ho base 5 i0 (.int .u8 0) 1 1 Tryz.underlying22 hi hz0 hz1 hz2 rfl (by decide) v n (cellsOf l) hs (hown.alloc _) ⟨w.heap.size, 0, none⟩ 1 1 [.int .u8 y] hx rfl ?_ ?_ (by unfold maxLen; omega) (by omega) ?_ ?_
  · intro j u hj
    match j, hj with
    | 0, hj =>
      simp at hj
      subst hj
      simp [Addr.add]
  · intro u hu
    simp at hu
    subst hu
    rfl
  · have : (w.alloc (.cells #[.int .u8 y] 5)).heap.size = w.heap.size + 1 := by simp
    omega
  · intro v' w' hown' hg _
    refine h v' w' (by rw [cellsOf_snoc, ey]; exact hown') fun W0 hb => ?_
    have hb2 : Below base W0 (w.alloc (.cells #[.int .u8 y] 5)) := hb.alloc hbase _
    refine hb2.grown hg (by simp; omega) ?_
    intro k hk
    rcases hown.2 with ⟨rfl, _⟩ | ⟨g, cap, cur, rfl, hb, _⟩
    · cases hk
    · simp [Value.ownBlock] at hk
      omega

/-- '[]byte{}' as it is laid. -/
theorem own_empty (w : World) (base : Nat) (hb : base ≤ w.heap.size) : (w.alloc (.cells #[] 5)).ownsRow base 5 1 (.slice (some ⟨w.heap.size, 0, none⟩) 0 0) 0 (cellsOf []) :=
  World.ownsRow_lit w #[] 0 hb (by unfold maxLen; omega) rfl
end Go.Proofs.YtiilpnoaocfjgaaGreatDoor

namespace Go.Proofs.YtiilpnoaocfjgaaGreatDoor.draw
open Go.ChangeShapes Go.WideShapes Go.ChangeAt Go.RowKit
set_option linter.unusedVariables false

/-! ### The cursor -/
/-- The cursor's block: the bytes, how many are used up, the mixed number. -/
def Cur (w : World) (p : Nat) (a : Option Addr) (len cap : Nat) (s : Nat × Int) : Prop :=
  w.heap[p]? = some (.cells #[.slice a len cap, .int .i64 s.1, .int .i64 s.2] 135 (0, 0))
/-- The bytes that came in, below block B. -/
def Code (B : Nat) (w : World) (a : Option Addr) (len : Nat) (zs : List Int) : Prop :=
  zs.length = len ∧ (∀ n ∈ zs, 0 ≤ n ∧ n < 256) ∧ (len = 0 ∨ ∃ b o, a = some ⟨b, o, none⟩ ∧ b < B ∧ ∀ j, j < len → w.cell? ⟨b, o + j, none⟩ = some (.int .u8 (zs.getD j 0)))

/-- What every drawing function is handed. -/
structure In (B : Nat) (w : World) (p : Nat) (a : Option Addr) (len cap : Nat) (zs : List Int) (s : Nat × Int) : Prop where
  code : Code B w a len zs
  cur : Cur w p a len cap s
  le : B ≤ p
  used : s.1 ≤ len
  small : len ≤ 1048576

theorem In.lt {B p len cap : Nat} {w : World} {a : Option Addr} {zs : List Int} {s : Nat × Int} (h : In B w p a len cap zs s) : p < w.heap.size := by
  rcases Nat.lt_or_ge p w.heap.size with h' | h'
  · exact h'
  · have := h.cur
    unfold Cur at this
    rw [Array.getElem?_eq_none h'] at this
    cases this

theorem grown_trans {a b c : World} {p : Nat} (h1 : a.grownBy b (some p)) (h2 : b.grownBy c (some p)) : a.grownBy c (some p) :=
  ⟨h2.os.trans h1.os, h2.tape.trans h1.tape, h2.output.trans h1.output, Nat.le_trans h1.size h2.size, fun k hk hne => (h2.block k (Nat.lt_of_lt_of_le hk h1.size) hne).trans (h1.block k hk hne)⟩

theorem below_of {B p : Nat} {w w' : World} (h : w.grownBy w' (some p)) (hp : B ≤ p) (hB : B ≤ w.heap.size) : Below B w w' :=
  (Below.refl B w).grown h hB (fun k hk => by cases hk; exact hp)

theorem Code.keep {B len : Nat} {w w' : World} {a : Option Addr} {zs : List Int} (h : Code B w a len zs) (hb : Below B w w') : Code B w' a len zs := by
  refine ⟨h.1, h.2.1, ?_⟩
  rcases h.2.2 with h0 | ⟨b, o, e, hB, hc⟩
  · exact .inl h0
  · exact .inr ⟨b, o, e, hB, fun j hj => (hb.cell (p := ⟨b, o + j, none⟩) hB).trans (hc j hj)⟩

/-! ### One byte -/
theorem i64_mask (k : Nat) (hk : k ≤ 62) (n : Int) : bits .and .i64 n ((2 ^ k - 1 : Nat) : Int) = n % 2 ^ k := by
  have hle : 2 ^ k ≤ 2 ^ 62 := Nat.pow_le_pow_right (by decide) hk
  have hpos : 0 < 2 ^ k := Nat.two_pow_pos k
  have h255 : (BitVec.ofInt 64 ((2 ^ k - 1 : Nat) : Int)).toNat = 2 ^ k - 1 := by
    rw [BitVec.ofInt_natCast, BitVec.toNat_ofNat]
    exact Nat.mod_eq_of_lt (by omega)
  have key : (BitVec.ofInt 64 n &&& BitVec.ofInt 64 ((2 ^ k - 1 : Nat) : Int)).toNat = (n % ((2 ^ 64 : Nat) : Int)).toNat % 2 ^ k := by
    rw [BitVec.toNat_and, BitVec.toNat_ofInt, h255, Nat.and_two_pow_sub_one_eq_mod]
  show IntKind.i64.wrap ((BitVec.ofInt 64 n &&& BitVec.ofInt 64 ((2 ^ k - 1 : Nat) : Int)).toNat : Nat) = n % 2 ^ k
  rw [key]
  have hm : (((n % ((2 ^ 64 : Nat) : Int)).toNat % 2 ^ k : Nat) : Int) = n % 2 ^ k := by
    have h0 : 0 ≤ n % ((2 ^ 64 : Nat) : Int) := Int.emod_nonneg _ (by decide)
    rw [Int.natCast_emod, Int.toNat_of_nonneg h0]
    have hd : ((2 : Int) ^ k) ∣ ((2 ^ 64 : Nat) : Int) := by
      refine ⟨2 ^ (64 - k), ?_⟩
      rw [← Int.pow_add, show k + (64 - k) = 64 by omega]
      rfl
    simpa using Int.emod_emod_of_dvd n hd
  rw [hm]
  have h1 : 0 ≤ n % 2 ^ k := Int.emod_nonneg _ (by have : (0 : Int) < 2 ^ k := Int.pow_pos (by omega); omega)
  have h2 : n % 2 ^ k < 2 ^ k := Int.emod_lt_of_pos _ (Int.pow_pos (by omega))
  have h3 : (2 : Int) ^ k = ((2 ^ k : Nat) : Int) := by simp
  exact wraps_i64 _ h1 (by omega)
theorem i64_and255 (n : Int) : bits .and .i64 n 255 = n % 256 := i64_mask 8 (by decide) n
theorem i64_and30 (n : Int) : bits .and .i64 n 1073741823 = n % 1073741824 := i64_mask 30 (by decide) n

def nh (h : Int) : Int := wrap64 (wrap64 (h * 6364136223846793005) + 1442695040888963407)
def rx (h : Int) : Int := bits .xor .i64 (h / 8589934592) (h / 35184372088832)
def byteF (zs : List Int) (s : Nat × Int) : Int × (Nat × Int) :=
  if s.1 < zs.length then ((rx (nh s.2) + zs.getD s.1 0) % 256, (s.1 + 1, nh s.2)) else (rx (nh s.2) % 256, (s.1, nh s.2))

theorem byteF_bd (zs : List Int) (s : Nat × Int) : 0 ≤ (byteF zs s).1 ∧ (byteF zs s).1 < 256 := by
  unfold byteF rx
  split <;> simp only <;> omega

theorem byteF_yes {zs : List Int} {s : Nat × Int} (h : s.1 < zs.length) : byteF zs s = ((rx (nh s.2) + zs.getD s.1 0) % 256, (s.1 + 1, nh s.2)) := by simp [byteF, h]
theorem byteF_no {zs : List Int} {s : Nat × Int} (h : ¬ s.1 < zs.length) : byteF zs s = (rx (nh s.2) % 256, (s.1, nh s.2)) := by simp [byteF, h]

/-- What a drawing function leaves. -/
def Out (B : Nat) (p : Nat) (a : Option Addr) (len cap : Nat) (zs : List Int) (r : Value) (s' : Nat × Int) (w : World) (e : Ending) (w' : World) : Prop :=
  e = .returned r ∧ In B w' p a len cap zs s' ∧ w.grownBy w' (some p)

theorem grown_set {w w1 : World} {p j : Nat} (u : Value) (h : w.grownBy w1 (some p)) : w.grownBy (w1.setCell ⟨p, j, none⟩ u) (some p) :=
  ⟨h.os, h.tape, h.output, by simp; exact h.size, fun k hk hne => by
    rw [heap_setCell_other w1 ⟨p, j, none⟩ k u (fun e => hne (by rw [e]))]
    exact h.block k hk hne⟩

theorem In.mixed {B p len cap : Nat} {w : World} {a : Option Addr} {zs : List Int} {i : Nat} {h : Int} (H : In B w p a len cap zs (i, h)) (h' : Int) (n : Nat) :
    In B ((w.setCell ⟨p, 2, none⟩ (.int .i64 h')).drewN n) p a len cap zs (i, h') ∧ w.grownBy ((w.setCell ⟨p, 2, none⟩ (.int .i64 h')).drewN n) (some p) := by
  have g : w.grownBy ((w.setCell ⟨p, 2, none⟩ (.int .i64 h')).drewN n) (some p) := by
    have := grown_set (j := 2) (.int .i64 h') (World.grownBy.refl w (some p))
    exact ⟨this.os, this.tape, this.output, this.size, this.block⟩
  refine ⟨⟨H.code.keep (below_of g H.le (Nat.le_of_lt (Nat.lt_of_le_of_lt H.le H.lt))), ?_, H.le, H.used, H.small⟩, g⟩
  exact heap_setCell_same w p 2 _ _ (.int .i64 h') H.cur

theorem In.drewN {B p len cap : Nat} {w : World} {a : Option Addr} {zs : List Int} {s : Nat × Int} (H : In B w p a len cap zs s) (n : Nat) : In B (w.drewN n) p a len cap zs s :=
  ⟨H.code.keep ⟨rfl, rfl, rfl, Nat.le_refl _, fun _ _ => rfl⟩, H.cur, H.le, H.used, H.small⟩
theorem grown_drewN {w w1 : World} {p : Nat} (h : w.grownBy w1 (some p)) (n : Nat) : w.grownBy (w1.drewN n) (some p) := ⟨h.os, h.tape, h.output, h.size, h.block⟩

theorem In.used_up {B p len cap : Nat} {w : World} {a : Option Addr} {zs : List Int} {i : Nat} {h : Int} (H : In B w p a len cap zs (i, h)) (i' : Nat) (hi : i' ≤ len) :
    In B (w.setCell ⟨p, 1, none⟩ (.int .i64 i')) p a len cap zs (i', h) ∧ w.grownBy (w.setCell ⟨p, 1, none⟩ (.int .i64 i')) (some p) := by
  have g : w.grownBy (w.setCell ⟨p, 1, none⟩ (.int .i64 i')) (some p) := grown_set (j := 1) (.int .i64 (i' : Int)) (World.grownBy.refl w (some p))
  refine ⟨⟨H.code.keep (below_of g H.le (Nat.le_of_lt (Nat.lt_of_le_of_lt H.le H.lt))), ?_, H.le, hi, H.small⟩, g⟩
  exact heap_setCell_same w p 1 _ _ (.int .i64 (i' : Int)) H.cur

set_option maxHeartbeats 400000 in
theorem byte_any {B p len cap : Nat} {w : World} {a : Option Addr} {zs : List Int} {s : Nat × Int} (H : In B w p a len cap zs s) :
    Calls Tryz.prog 174 #[.pointer (some ⟨p, 0, none⟩)] w (Out B p a len cap zs (.int .i64 (byteF zs s).1) (byteF zs s).2 w) := by
  obtain ⟨i, h⟩ := s
  have HI := Lib.hid H
  have hcur := H.cur
  have hu := H.used
  have hsm := H.small
  have hzl := H.code.1
  have hc0 : w.cell? ⟨p, 0, none⟩ = some (.slice a len cap) := by rw [cell_of_row w p 0 _ _ _ hcur]; rfl
  have hc1 : w.cell? ⟨p, 1, none⟩ = some (.int .i64 (i : Int)) := by rw [cell_of_row w p 1 _ _ _ hcur]; rfl
  have hc2 : w.cell? ⟨p, 2, none⟩ = some (.int .i64 h) := by rw [cell_of_row w p 2 _ _ _ hcur]; rfl
  have hf : ∀ j, w.frozen? ⟨p, j, none⟩ = false := fun j => frozen_of_row w p j _ _ hcur
  have ha := i64_and255
  simp only at hu
  by_cases hlt : i < len
  · obtain ⟨b, o, rfl, hbB, hcell⟩ : ∃ b o, a = some ⟨b, o, none⟩ ∧ b < B ∧ ∀ j, j < len → w.cell? ⟨b, o + j, none⟩ = some (.int .u8 (zs.getD j 0)) := by
      rcases H.code.2.2 with h0 | h0
      · omega
      · exact h0
    have hcx := hcell i hlt
    have hbp : b ≠ p := by have := H.le; omega
    have HZ := Lib.hid (byteF_yes (zs := zs) (s := (i, h)) (by rw [hzl]; exact hlt))
    have hz : 0 ≤ zs.getD i 0 ∧ zs.getD i 0 < 256 := by
      have : i < zs.length := by omega
      rw [List.getD_eq_getElem?_getD, List.getElem?_eq_getElem this]
      exact H.code.2.1 _ (List.getElem_mem this)
    obtain ⟨z, hzz⟩ : ∃ z, z = zs.getD i 0 := ⟨_, rfl⟩
    have HZZ := Lib.hid hzz
    rw [← hzz] at hcx hz
    have hi0 : (0 : Int) ≤ (i : Int) := by omega
    have hi1 : (i : Int) < (len : Int) := by omega
    clear hcur hcell hzl H hzz
    go_enter Tryz.func174, Tryz.ntmps174
    go_wp2
    go_quiet (fail)
    go_wp2
    go_quiet (fail)
    go_wp2
    go_quiet (fail)
    go_wp2
    go_ret
    exact ⟨by rw [HZ.out, ← HZZ.out]; rfl, by rw [HZ.out]; exact ((HI.out.mixed (nh h) _).1.used_up (i + 1) (by omega)).1, grown_trans (HI.out.mixed (nh h) _).2 ((HI.out.mixed (nh h) _).1.used_up (i + 1) (by omega)).2⟩
  · have HZ := Lib.hid (byteF_no (zs := zs) (s := (i, h)) (by rw [hzl]; exact hlt))
    have hnl : ¬ (i : Int) < (len : Int) := by omega
    clear hcur hzl H
    go_enter Tryz.func174, Tryz.ntmps174
    go_wp2
    go_quiet (fail)
    go_wp2
    go_quiet (fail)
    go_wp2
    go_ret
    exact ⟨by rw [HZ.out]; rfl, by rw [HZ.out]; exact (HI.out.mixed (nh h) _).1.drewN _, grown_drewN (HI.out.mixed (nh h) _).2 _⟩

/-! ### A number below n -/
def belowF (zs : List Int) (n : Int) (s : Nat × Int) : Int × (Nat × Int) :=
  if n ≤ 0 then (0, s) else if n ≤ 256 then ((byteF zs s).1 % n, (byteF zs s).2)
  else
    let x := byteF zs s
    let y := byteF zs x.2
    let z := byteF zs y.2
    let v := byteF zs z.2
    ((x.1 * 16777216 + y.1 * 65536 + z.1 * 256 + v.1) % n, v.2)

theorem belowF_bd (zs : List Int) (n : Int) (s : Nat × Int) (h : 0 < n) : 0 ≤ (belowF zs n s).1 ∧ (belowF zs n s).1 < n := by
  unfold belowF
  rw [if_neg (by omega)]
  split
  · exact ⟨Int.emod_nonneg _ (by omega), Int.emod_lt_of_pos _ h⟩
  · exact ⟨Int.emod_nonneg _ (by omega), Int.emod_lt_of_pos _ h⟩

set_option maxHeartbeats 800000 in
theorem below_any {B p len cap : Nat} {w : World} {a : Option Addr} {zs : List Int} {s : Nat × Int} (n : Int) (H : In B w p a len cap zs s) :
    Calls Tryz.prog 108 #[.pointer (some ⟨p, 0, none⟩), .int .i64 n] w (Out B p a len cap zs (.int .i64 (belowF zs n s).1) (belowF zs n s).2 w) := by
  have HI := Lib.hid H
  clear H
  by_cases h0 : n ≤ 0
  · have HZ := Lib.hid (show belowF zs n s = (0, s) by simp [belowF, h0])
    go_enter Tryz.func108, Tryz.ntmps108
    go_wp2
    go_ret
    exact ⟨by rw [HZ.out]; rfl, by rw [HZ.out]; exact HI.out, World.grownBy.refl _ _⟩
  · have hn : 0 < n := by omega
    by_cases h1 : n ≤ 256
    · have HZ := Lib.hid (show belowF zs n s = ((byteF zs s).1 % n, (byteF zs s).2) by simp [belowF, h0, h1])
      have hb := byteF_bd zs s
      go_enter Tryz.func108, Tryz.ntmps108
      go_wp2_with fail
      refine (byte_any HI.out).mono ?_
      rintro e w1 ⟨rfl, I1, G1⟩
      have HI1 := Lib.hid I1
      clear I1
      go_wp2
      go_ret
      exact ⟨by rw [HZ.out]; rfl, by rw [HZ.out]; exact HI1.out, G1⟩
    · obtain ⟨x, hx⟩ : ∃ x, x = byteF zs s := ⟨_, rfl⟩
      obtain ⟨y, hy⟩ : ∃ y, y = byteF zs x.2 := ⟨_, rfl⟩
      obtain ⟨z, hz⟩ : ∃ z, z = byteF zs y.2 := ⟨_, rfl⟩
      obtain ⟨v, hv⟩ : ∃ v, v = byteF zs z.2 := ⟨_, rfl⟩
      have HZ := Lib.hid (show belowF zs n s = ((x.1 * 16777216 + y.1 * 65536 + z.1 * 256 + v.1) % n, v.2) by subst hv hz hy hx; simp [belowF, h0, h1])
      have b1 := byteF_bd zs s
      have b2 := byteF_bd zs x.2
      have b3 := byteF_bd zs y.2
      have b4 := byteF_bd zs z.2
      rw [← hx] at b1
      rw [← hy] at b2
      rw [← hz] at b3
      rw [← hv] at b4
      have HX := Lib.hid hx
      have HY := Lib.hid hy
      have HZ3 := Lib.hid hz
      have HV := Lib.hid hv
      clear hx hy hz hv
      go_enter Tryz.func108, Tryz.ntmps108
      go_wp2_with fail
      refine (byte_any HI.out).mono ?_
      rintro e w1 ⟨he, I1, G1⟩
      rw [← HX.out] at he I1
      subst he
      have HI1 := Lib.hid I1
      clear I1
      go_wp2_with fail
      refine (byte_any HI1.out).mono ?_
      rintro e w2 ⟨he, I2, G2⟩
      rw [← HY.out] at he I2
      subst he
      have HI2 := Lib.hid I2
      clear I2
      go_wp2_with fail
      refine (byte_any HI2.out).mono ?_
      rintro e w3 ⟨he, I3, G3⟩
      rw [← HZ3.out] at he I3
      subst he
      have HI3 := Lib.hid I3
      clear I3
      go_wp2_with fail
      refine (byte_any HI3.out).mono ?_
      rintro e w4 ⟨he, I4, G4⟩
      rw [← HV.out] at he I4
      subst he
      have HI4 := Lib.hid I4
      clear I4
      go_wp2
      go_ret
      exact ⟨by rw [HZ.out]; rfl, by rw [HZ.out]; exact HI4.out, grown_trans (grown_trans (grown_trans G1 G2) G3) G4⟩
end Go.Proofs.YtiilpnoaocfjgaaGreatDoor.draw

namespace Go.Proofs.YtiilpnoaocfjgaaGreatDoor.draw
open Go.ChangeShapes Go.WideShapes Go.ChangeAt Go.RowKit
set_option linter.unusedVariables false

/-! ### A new cursor -/
def hF (zs : List Int) (len : Nat) : Int := (zs.take 4000).foldl (fun h z => (h * 131 + z + 7) % 1073741824) (10101 + (len : Int))
theorem hF_step (zs : List Int) (len I : Nat) (hI : I < zs.length) :
    (zs.take (I + 1)).foldl (fun h z => (h * 131 + z + 7) % 1073741824) (10101 + (len : Int)) = ((zs.take I).foldl (fun h z => (h * 131 + z + 7) % 1073741824) (10101 + (len : Int)) * 131 + zs.getD I 0 + 7) % 1073741824 := by
  rw [List.take_succ_eq_append_getElem hI, List.foldl_append, List.getD_eq_getElem?_getD, List.getElem?_eq_getElem hI]
  rfl

/-- The loop's relation. -/
def RelNew (zs : List Int) (len : Nat) (h i : Value) : Prop := ∃ (I : Nat) (x : Int), I ≤ len ∧ I ≤ 4000 ∧ i = .int .i64 I ∧ h = .int .i64 x ∧ 0 ≤ x ∧ x < 1099511627776 ∧ x = (zs.take I).foldl (fun h z => (h * 131 + z + 7) % 1073741824) (10101 + (len : Int))

set_option maxHeartbeats 400000 in
theorem new_any {B len cap : Nat} {w : World} {a : Option Addr} {zs : List Int} (hc : Code B w a len zs) (hB : B ≤ w.heap.size) (hl : len ≤ 1048576) :
    Calls Tryz.prog 54 #[.slice a len cap] w fun e w' => e = .returned (.pointer (some ⟨w.heap.size, 0, none⟩)) ∧ In B w' w.heap.size a len cap zs (0, hF zs len) ∧ Below B w w' := by
  have HC := Lib.hid hc
  have hz := hc.1
  have hm := i64_and30
  go_enter Tryz.func54, Tryz.ntmps54
  go_wp2
  go_loop [3, 4] (fun h i => RelNew zs len h i) (fun _ i => (len - (intOf i).toNat))
  case atStart => exact ⟨0, _, by omega, by omega, rfl, rfl, by omega, by omega, rfl⟩
  case round =>
    obtain ⟨I, x, hI, hI4, rfl, rfl, hx0, hx1, hx⟩ := hrel
    have HX := Lib.hid hx
    clear hx
    by_cases hlt : I < len ∧ I < 4000
    · obtain ⟨hll, hl4⟩ := hlt
      obtain ⟨b, o, rfl, hbB, hcell⟩ : ∃ b o, a = some ⟨b, o, none⟩ ∧ b < B ∧ ∀ j, j < len → w.cell? ⟨b, o + j, none⟩ = some (.int .u8 (zs.getD j 0)) := by
        rcases HC.out.2.2 with h0 | h0
        · omega
        · exact h0
      have hcx := hcell I hll
      have hzb : 0 ≤ zs.getD I 0 ∧ zs.getD I 0 < 256 := by
        have : I < zs.length := by omega
        rw [List.getD_eq_getElem?_getD, List.getElem?_eq_getElem this]
        exact HC.out.2.1 _ (List.getElem_mem this)
      have HS := Lib.hid (hF_step zs len I (by omega))
      obtain ⟨z, hzz⟩ : ∃ z, z = zs.getD I 0 := ⟨_, rfl⟩
      have HZZ := Lib.hid hzz
      rw [← hzz] at hcx hzb
      have hi1 : (I : Int) < (len : Int) := by omega
      have hi2 : (I : Int) < 4000 := by omega
      clear hcell hzz hz
      go_wp2
      go_round
      case rel => exact ⟨I + 1, _, by omega, by omega, by go_num, rfl, by omega, by omega, by rw [HS.out, ← HX.out, ← HZZ.out]⟩
      case measure => simp [intOf]; omega
    · have HH := Lib.hid (show x = hF zs len by
        rw [HX.out]
        unfold hF
        congr 1
        by_cases h : I < len
        · rw [show I = 4000 by omega]
        · rw [List.take_of_length_le (by omega), List.take_of_length_le (by omega)])
      have fin : In B (w.alloc (.cells #[.slice a len cap, .int .i64 0, .int .i64 x] 135)) w.heap.size a len cap zs (0, hF zs len) ∧ Below B w (w.alloc (.cells #[.slice a len cap, .int .i64 0, .int .i64 x] 135)) := by
        have hb : Below B w (w.alloc (.cells #[.slice a len cap, .int .i64 0, .int .i64 x] 135)) := (Below.refl B w).alloc hB _
        refine ⟨⟨HC.out.keep hb, ?_, hB, by simp, hl⟩, hb⟩
        rw [← HH.out]
        exact heap_alloc_new w _
      have FIN := Lib.hid fin
      clear fin hz
      by_cases hll : I < len
      · have hi1 : (I : Int) < (len : Int) := by omega
        have hi2 : ¬ (I : Int) < 4000 := by omega
        clear hlt
        go_wp2
        go_ret
        exact ⟨rfl, FIN.out⟩
      · have hi1 : ¬ (I : Int) < (len : Int) := by omega
        clear hlt
        go_wp2
        go_ret
        exact ⟨rfl, FIN.out⟩

/-! ### Picks -/
theorem once_any {B p len cap : Nat} {w : World} {a : Option Addr} {zs : List Int} {s : Nat × Int} (n : Int) (H : In B w p a len cap zs s) :
    Calls Tryz.prog 56 #[.pointer (some ⟨p, 0, none⟩), .int .i64 n] w (Out B p a len cap zs (.bool ((belowF zs n s).1 == 0)) (belowF zs n s).2 w) := by
  have HI := Lib.hid H
  clear H
  go_enter Tryz.func56, Tryz.ntmps56
  go_wp2_with fail
  refine (below_any n HI.out).mono ?_
  rintro e w1 ⟨rfl, I1, G1⟩
  have HI1 := Lib.hid I1
  clear I1
  go_wp2
  go_ret
  exact ⟨rfl, HI1.out, G1⟩

set_option maxHeartbeats 400000 in
theorem pickInt_any {B p len cap : Nat} {w : World} {a : Option Addr} {zs : List Int} {s : Nat × Int} (q n : Nat) (L : List Int) (H : In B w p a len cap zs s) (hq : w.heap[q]? = some (.cells (L.map (Value.int .i64)).toArray 3 (0, 0))) (hL : L.length = n) (hn : 0 < n) (hqp : q ≠ p) (hbig : n ≤ 1000) :
    Calls Tryz.prog 111 #[.pointer (some ⟨p, 0, none⟩), .slice (some ⟨q, 0, none⟩) n n] w (Out B p a len cap zs (.int .i64 (L.getD (belowF zs n s).1.toNat 0)) (belowF zs n s).2 w) := by
  have HI := Lib.hid H
  clear H
  have hb := belowF_bd zs n s (by omega)
  obtain ⟨K, hK⟩ : ∃ K : Nat, (belowF zs n s).1 = K := ⟨(belowF zs n s).1.toNat, by omega⟩
  have HK := Lib.hid hK
  rw [hK] at hb
  have HQ := Lib.hid hq
  clear hq hK
  go_enter Tryz.func111, Tryz.ntmps111
  go_wp2_with fail
  refine (below_any n HI.out).mono ?_
  rintro e w1 ⟨he, I1, G1⟩
  rw [HK.out] at he
  subst he
  have HI1 := Lib.hid I1
  have hq1 : w1.heap[q]? = some (.cells (L.map (Value.int .i64)).toArray 3 (0, 0)) := by
    have hlt : q < w.heap.size := lt_of_block HQ.out
    rw [G1.block q hlt (by simpa using hqp)]
    exact HQ.out
  have hcell : w1.cell? ⟨q, K, none⟩ = some (.int .i64 (L.getD K 0)) := by
    rw [cell_of_row w1 q K _ _ _ hq1]
    have : K < L.length := by omega
    simp [this]
  obtain ⟨z, hz⟩ : ∃ z, z = L.getD K 0 := ⟨_, rfl⟩
  have HZ := Lib.hid hz
  rw [← hz] at hcell
  clear I1 hq1 hz
  go_wp2
  go_ret
  exact ⟨by rw [HK.out, Int.toNat_natCast, ← HZ.out]; rfl, HI1.out, G1⟩

theorem In.keep {B base p len cap : Nat} {w w' : World} {a : Option Addr} {zs : List Int} {s : Nat × Int} (H : In B w p a len cap zs s) (hb : Below base w w') (hp : p < base) : In B w' p a len cap zs s :=
  ⟨H.code.keep (hb.mono (Nat.le_of_lt (Nat.lt_of_le_of_lt H.le hp))), by unfold Cur; rw [hb.block p hp]; exact H.cur, H.le, H.used, H.small⟩

theorem grown_below {w w1 w2 : World} {p base : Nat} (h : w.grownBy w1 (some p)) (hb : Below base w1 w2) (hw : base = w.heap.size) : w.grownBy w2 (some p) :=
  ⟨hb.os.trans h.os, hb.tape.trans h.tape, hb.output.trans h.output, Nat.le_trans h.size hb.size, fun k hk hne => (hb.block k (by omega)).trans (h.block k hk hne)⟩

end Go.Proofs.YtiilpnoaocfjgaaGreatDoor.draw

namespace Go.Proofs.YtiilpnoaocfjgaaGreatDoor.draw
open Go.ChangeShapes Go.WideShapes Go.ChangeAt Go.RowKit
set_option linter.unusedVariables false

/-- A slice of bytes that came in: nil, or a row of 'cap' cells, the numbers zs. -/
def IsRow (k : IntKind) (w : World) (a : Option Addr) (len cap : Nat) (zs : List Int) : Prop :=
  (a = none ∧ len = 0 ∧ cap = 0 ∧ zs = []) ∨
  ∃ x, a = some x ∧ len ≤ cap ∧ cap ≤ maxLen ∧ zs.length = cap ∧ (∀ i, i < zs.length → w.cell? (x.add i) = some (.int k (zs.getD i 0))) ∧ ∀ n ∈ zs, (Lit.int k n).wf = true

theorem code_of {w : World} {a : Option Addr} {len cap : Nat} {zs : List Int} (h : IsRow .u8 w a len cap zs) : Code w.heap.size w a len (zs.take len) := by
  rcases h with ⟨rfl, rfl, rfl, rfl⟩ | ⟨x, rfl, hl, hm, hz, hc, hw⟩
  · exact ⟨rfl, by simp, .inl rfl⟩
  · refine ⟨by simp; omega, ?_, ?_⟩
    · intro n hn
      have := hw n (List.mem_of_mem_take hn)
      simp [Lit.wf, IntKind.min, IntKind.max, IntKind.signed, IntKind.bits] at this
      omega
    · by_cases h0 : len = 0
      · exact .inl h0
      · refine .inr ?_
        obtain ⟨b, o, sp⟩ := x
        have c0 := hc 0 (by omega)
        have hsp : sp = none := by simpa [Addr.add] using World.cell?_spot c0
        subst hsp
        have e : ∀ j, (⟨b, o, none⟩ : Addr).add j = ⟨b, o + j, none⟩ := by
          intro j
          simp only [Addr.add]
          split
          · next h0 => subst h0; rfl
          · rfl
        refine ⟨b, o, rfl, World.block_lt_of_cell? w _ c0, ?_⟩
        intro j hj
        have := hc j (by omega)
        rw [e] at this
        rw [this, List.getD_eq_getElem?_getD, List.getD_eq_getElem?_getD, List.getElem?_take, if_pos hj]

theorem Code.up {B B' len : Nat} {w : World} {a : Option Addr} {zs : List Int} (h : Code B w a len zs) (hB : B ≤ B') : Code B' w a len zs := by
  refine ⟨h.1, h.2.1, ?_⟩
  rcases h.2.2 with h0 | ⟨b, o, e, hb, hc⟩
  · exact .inl h0
  · exact .inr ⟨b, o, e, by omega, hc⟩

theorem big_any (a : Option Addr) (len cap : Nat) (w : World) (hl : (len : Int) ≤ 9223372036854775807) :
    Calls Tryz.prog 14 #[.slice a len cap] w fun e w' => e = .returned (.bool (decide (1048576 < len))) ∧ w = w' := by
  by_cases h : 1048576 < len
  · have h' : (1048576 : Int) < (len : Int) := by omega
    go_enter Tryz.func14, Tryz.ntmps14
    go_wp2
    go_ret
    exact ⟨by simp [h], rfl⟩
  · have h' : ¬ (1048576 : Int) < (len : Int) := by omega
    go_enter Tryz.func14, Tryz.ntmps14
    go_wp2
    go_ret
    exact ⟨by simp, rfl⟩

end Go.Proofs.YtiilpnoaocfjgaaGreatDoor.draw

namespace Go.Proofs.YtiilpnoaocfjgaaGreatDoor.draw
open Go.ChangeShapes Go.WideShapes Go.ChangeAt Go.RowKit
set_option linter.unusedVariables false
set_option linter.unusedSimpArgs false
set_option maxRecDepth 20000
theorem at_code {a : Option Addr} {len cap : Nat} {zs : List Int} (k : Nat) (hk : k ≤ 10) (w : World) (hc : draw.Code w.heap.size w a len zs) (hl : len ≤ 1048576) :
    Calls Tryz.prog 32 #[.slice a len cap, .int .i64 (k : Int)] w fun e w' => (∃ x : Nat, x < 256 ∧ e = .returned (.int .i64 (x : Int))) ∧ w = w' := by
  by_cases h : k < len
  · rcases hc with ⟨h1, h2, h3 | ⟨b, o, rfl, hb, h4⟩⟩
    · omega
    · have c0 := h4 k h
      have hx : 0 ≤ zs.getD k 0 ∧ zs.getD k 0 < 256 := by
        rw [List.getD_eq_getElem?_getD, List.getElem?_eq_getElem (by omega)]
        exact h2 _ (List.getElem_mem (by omega))
      obtain ⟨X, hX⟩ : ∃ X : Nat, zs.getD k 0 = (X : Int) := ⟨(zs.getD k 0).toNat, by omega⟩
      rw [hX] at c0 hx
      have hX2 : X < 256 := by omega
      have hk1 : (k : Int) < (len : Int) := by omega
      have hk0 : (0 : Int) ≤ (k : Int) := by omega
      clear h1 h2 h4 hX hb h
      go_enter Tryz.func32, Tryz.ntmps32
      go_wp2
      go_ret
      refine ⟨⟨X, hX2, ?_⟩, rfl⟩
      first | rfl | (congr 2; unfold IntKind.wrap; simp; omega) | simp
  · have hk1 : ¬ (k : Int) < (len : Int) := by omega
    clear hc
    obtain ⟨X, hX⟩ : ∃ X : Nat, X = (k * 37 + len * 11) % 256 := ⟨_, rfl⟩
    have hX2 : X < 256 := by omega
    have e1 : ((k : Int) * 37 + (len : Int) * 11).tmod 256 = (X : Int) := by rw [Int.tmod_eq_emod_of_nonneg (by omega)]; omega
    have e2 : ((k : Int) * 37 + (len : Int) * 11) % 256 = (X : Int) := by omega
    clear hX
    go_enter Tryz.func32, Tryz.ntmps32
    go_wp2
    go_ret
    refine ⟨⟨X, hX2, ?_⟩, rfl⟩
    first | rfl | (simp [e1, e2]) | (congr 2)
end Go.Proofs.YtiilpnoaocfjgaaGreatDoor.draw

namespace Go.Proofs.YtiilpnoaocfjgaaGreatDoor.nd
open Go.RowKit
set_option linter.unusedVariables false
set_option maxRecDepth 20000

/-- 'append(l, v)' as a step of a region that draws its order. -/
theorem step_append_int {ops : Array Oper} {o : Oper} {a : Act} {w : World} {K : Act → World → Prop} {Q : Exit → Act → World → Prop} {E : Prop} (hgd : o.guard = none) (s x : Operand)
    (ho : o.op = .call { callee := .builtin .append, args := #[s, x], argTypes := #[53, 53] }) (B : Nat) (v : Value) (d : List Int) (z : Int) (hs : a.eval s = v)
    (hown : OwnI B v d w) (gz : Nat) (hx : a.eval x = .slice (some ⟨gz, 0, none⟩) 1 1) (hz : w.heap[gz]? = some (.cells #[.int .i64 z] 3 (0, 0))) (hn : d.length ≤ 1048576) (hB : B ≤ w.heap.size)
    (h : ∀ g cap w', OwnI B (.slice (some ⟨g, 0, none⟩) (d.length + 1) cap) (d ++ [z]) w' → Below B w w' → K (a.put o.dst (.slice (some ⟨g, 0, none⟩) (d.length + 1) cap)) w') :
    if Region.wanted o (yielded ops a.tmps) = true then Oper.wp Tryz.prog o a w K Q else E := by
  obtain ⟨i0, hi, hz0, hz1, hz2⟩ := info_parts Tryz.infoInt
  refine step_append_lies w hgd s x 53 ho B 3 i0 _ 1 8 Tryz.underlying53 hi hz0 hz1 hz2 rfl (by decide) v d.length (ivals d) hs hown ⟨gz, 0, none⟩ 1 1 [.int .i64 z] hx rfl ?_ ?_ (by decide) (by unfold maxLen; omega) (by omega) hB _ rfl ?_
  · intro j u hj
    rw [show ((⟨gz, 0, none⟩ : Addr).add j) = ⟨gz, j, none⟩ by unfold Addr.add; split <;> simp_all]
    rw [cell_of_row _ gz j _ _ _ hz]
    simpa using hj
  · intro u hu
    simp at hu
    rcases hu with rfl <;> rfl
  · intro g cap w' hown' hg _ _
    refine h g cap w' ?_ ?_
    · unfold OwnI
      rw [ivals_snoc, List.length_append]
      exact hown'
    · refine (Below.refl B w).grown hg hB ?_
      intro k hk
      exact (World.ownsRow.lt hown k hk).1

/-- Nodes with the value of their kids' row, as cells. -/
def fl : List (Nd × Value) → List Value
  | [] => []
  | (n, v) :: l => .int .i64 n.k :: .int .i64 n.op :: .string n.s :: .string n.t :: v :: fl l
theorem fl_append (l m : List (Nd × Value)) : fl (l ++ m) = fl l ++ fl m := by
  induction l with
  | nil => rfl
  | cons t l ih => obtain ⟨n, v⟩ := t; simp [fl, ih]
theorem fl_snoc (l : List (Nd × Value)) (n : Nd) (v : Value) : fl (l ++ [(n, v)]) = fl l ++ [.int .i64 n.k, .int .i64 n.op, .string n.s, .string n.t, v] := by
  rw [fl_append]; rfl
theorem fl_get : ∀ (l : List (Nd × Value)) (i : Nat) (h : i < l.length), (fl l)[i * 5]? = some (.int .i64 l[i].1.k) ∧ (fl l)[i * 5 + 1]? = some (.int .i64 l[i].1.op) ∧ (fl l)[i * 5 + 2]? = some (.string l[i].1.s) ∧ (fl l)[i * 5 + 3]? = some (.string l[i].1.t) ∧ (fl l)[i * 5 + 4]? = some l[i].2 := by
  intro l
  induction l with
  | nil => intro i h; simp at h
  | cons t l ih =>
    obtain ⟨n, v⟩ := t
    intro i h
    match i with
    | 0 => exact ⟨rfl, rfl, rfl, rfl, rfl⟩
    | j + 1 =>
      have := ih j (by simpa using h)
      simp only [fl, show (j + 1) * 5 = j * 5 + 1 + 1 + 1 + 1 + 1 by omega, show j * 5 + 1 + 1 + 1 + 1 + 1 + 1 = (j * 5 + 1) + 1 + 1 + 1 + 1 + 1 by omega, show j * 5 + 1 + 1 + 1 + 1 + 1 + 2 = (j * 5 + 2) + 1 + 1 + 1 + 1 + 1 by omega, show j * 5 + 1 + 1 + 1 + 1 + 1 + 3 = (j * 5 + 3) + 1 + 1 + 1 + 1 + 1 by omega, show j * 5 + 1 + 1 + 1 + 1 + 1 + 4 = (j * 5 + 4) + 1 + 1 + 1 + 1 + 1 by omega, List.getElem?_cons_succ, List.getElem_cons_succ]
      exact this
/-- A slice of nodes of the call's own. -/
def OwnN (B : Nat) (v : Value) (z : List (Nd × Value)) (w : World) : Prop := w.ownsRow B 60 5 v z.length (fl z)
/-- A row of kids of its own, at block r. -/
def KidV (B : Nat) (w : World) (r : Nat) (v : Value) (l : List Int) : Prop :=
  (v = .slice none 0 0 ∧ l = []) ∨ ∃ cap, v = .slice (some ⟨r, 0, none⟩) l.length cap ∧ IBlk w r cap l ∧ B ≤ r ∧ cap ≤ maxLen
theorem KidV.form {B : Nat} {w : World} {r : Nat} {v : Value} {l : List Int} (h : KidV B w r v l) : ∃ a cap, v = .slice a l.length cap ∧ (l = [] ∨ a = some ⟨r, 0, none⟩ ∧ IBlk w r cap l ∧ B ≤ r) := by
  rcases h with ⟨h1, h2⟩ | ⟨cap, h1, h2, h3, _⟩
  · exact ⟨none, 0, by rw [h1, h2]; rfl, .inl h2⟩
  · exact ⟨_, cap, h1, .inr ⟨rfl, h2, h3⟩⟩
theorem KidV.keep {B : Nat} {w w' : World} {r : Nat} {v : Value} {l : List Int} (h : KidV B w r v l) (e : w'.heap[r]? = w.heap[r]?) : KidV B w' r v l := by
  rcases h with h | ⟨cap, e1, e2, e3⟩
  · exact .inl h
  · exact .inr ⟨cap, e1, e2.of_block e, e3⟩
/-- .. as a block, with the bound of its capacity. -/
theorem OwnI.blkM {B : Nat} {v : Value} {l : List Int} {w : World} (h : OwnI B v l w) : v = .slice none 0 0 ∧ l = [] ∨ ∃ g cap, v = .slice (some ⟨g, 0, none⟩) l.length cap ∧ B ≤ g ∧ IBlk w g cap l ∧ cap ≤ maxLen := by
  rcases h.blk with h1 | ⟨g, cap, rfl, hg, hb⟩
  · exact .inl h1
  · rcases h.2 with ⟨hv, _⟩ | ⟨g', cap', cur, hv, _, _, _, hm, _⟩
    · cases hv
    · injection hv with _ _ hv
      exact .inr ⟨g, cap, rfl, hg, hb, by rw [hv]; exact hm⟩
theorem KidV.own {B : Nat} {w : World} {r : Nat} {v : Value} {l : List Int} (h : KidV B w r v l) : OwnI B v l w := by
  rcases h with ⟨rfl, rfl⟩ | ⟨cap, rfl, ⟨c, hc, hs, hl, hx⟩, hB, hm⟩
  · exact OwnI.nil B w
  · refine ⟨by rw [ivals_len]; omega, .inr ⟨r, cap, c, rfl, hB, hc, hl, hm, by omega, ?_⟩⟩
    refine List.ext_getElem? (fun i => ?_)
    rw [List.getElem?_take, Nat.mul_one]
    by_cases hi : i < l.length
    · rw [if_pos hi]
      have := hx i hi
      simp only [ivals, List.getElem?_map, List.getElem?_eq_getElem hi, Option.map_some]
      simpa using this
    · rw [if_neg hi]
      simp [ivals, List.getElem?_eq_none (Nat.le_of_not_lt hi)]
theorem KidV.of_own {B : Nat} {w : World} {v : Value} {l : List Int} (h : OwnI B v l w) (S : Nat) (hS : S < w.heap.size) (hB : B ≤ S) (hup : ∀ g, v.ownBlock = some g → S ≤ g) : ∃ r, S ≤ r ∧ r < w.heap.size ∧ KidV B w r v l := by
  rcases h.blkM with ⟨rfl, rfl⟩ | ⟨g, cap, rfl, hg, hb, hm⟩
  · exact ⟨S, Nat.le_refl _, hS, .inl ⟨rfl, rfl⟩⟩
  · exact ⟨g, hup g rfl, hb.lt, .inr ⟨cap, rfl, hb, hg, hm⟩⟩
/-- Nodes of the call's own, each with a row of its own: row i at block r i, no two the same. -/
structure PT (B : Nat) (v : Value) (z : List (Nd × Value)) (r : Nat → Nat) (w : World) : Prop where
  own : OwnN B v z w
  kid : ∀ i (h : i < z.length), KidV B w (r i) z[i].2 z[i].1.kids
  off : ∀ i, i < z.length → v.ownBlock ≠ some (r i)
  asc : ∀ i j, i < j → j < z.length → r i ≠ r j
  lt : ∀ i, i < z.length → r i < w.heap.size
theorem PT.nil (B : Nat) (w : World) : PT B (.slice none 0 0) [] (fun i => i) w :=
  ⟨World.ownsRow_nil _ _ _ _, fun i h => by simp at h, fun i h => by simp at h, fun i j _ h => by simp at h, fun i h => by simp at h⟩
theorem PT.lit {B : Nat} {w : World} (hB : B ≤ w.heap.size) : PT B (.slice (some ⟨w.heap.size, 0, none⟩) 0 0) [] (fun i => i) (w.alloc (.cells #[] 60)) :=
  ⟨World.ownsRow_lit w #[] 0 hB (by unfold maxLen; omega) rfl, fun i h => by simp at h, fun i h => by simp at h, fun i j _ h => by simp at h, fun i h => by simp at h⟩
theorem PT.form {B : Nat} {v : Value} {z : List (Nd × Value)} {r : Nat → Nat} {w : World} (h : PT B v z r w) : ∃ a cap, v = .slice a z.length cap := by
  rcases h.own.2 with ⟨hv, h0⟩ | ⟨g, cap, cur, hv, _⟩
  · exact ⟨none, 0, by rw [hv, h0]⟩
  · exact ⟨_, _, hv⟩
theorem PT.keep {B B' : Nat} {v : Value} {z : List (Nd × Value)} {r : Nat → Nat} {w w' : World} (h : PT B v z r w) (hb : Below B' w w') (hB : w.heap.size ≤ B') : PT B v z r w' := by
  obtain ⟨h1, h2, h3, h4, h5⟩ := h
  refine ⟨⟨h1.1, h1.2.elim .inl (fun ⟨g, cap, cur, hv, hg, hblk, r⟩ => .inr ⟨g, cap, cur, hv, hg, ?_, r⟩)⟩, fun i hi => (h2 i hi).keep (hb.block _ (Nat.lt_of_lt_of_le (h5 i hi) hB)), h3, h4, fun i hi => Nat.lt_of_lt_of_le (h5 i hi) hb.size⟩
  rw [hb.block g (Nat.lt_of_lt_of_le (lt_of_heap hblk) hB)]
  exact hblk
/-- .. as a block. -/
theorem PT.tr {B : Nat} {v : Value} {z : List (Nd × Value)} {r : Nat → Nat} {w : World} (h : PT B v z r w) : (v = .slice none 0 0 ∧ z = []) ∨ ∃ g cap, v = .slice (some ⟨g, 0, none⟩) z.length cap ∧ B ≤ g ∧ Tr B w g cap (z.map (·.1)) r := by
  have hoff := h.off
  rcases h.own.2 with ⟨hv, h1⟩ | ⟨g, cap, cur, hv, hg, hblk, hl, hcm, hcs, htk⟩
  · exact .inl ⟨hv, List.length_eq_zero_iff.1 h1⟩
  · refine .inr ⟨g, cap, hv, hg, ⟨cur, hblk, hcs, by simpa using hl, fun i hi => ?_⟩, fun i j hij hj => h.asc i j hij (by simpa using hj), fun i hi => h.lt i (by simpa using hi)⟩
    have hi' : i < z.length := by simpa using hi
    have hc : ∀ (j : Nat) (u : Value), (fl z)[j]? = some u → cur[j]? = some u := by
      intro j u hj
      rw [← htk, List.getElem?_take] at hj
      split at hj
      · simpa using hj
      · cases hj
    obtain ⟨x0, x1, x2, x3, x4⟩ := fl_get z i hi'
    refine ⟨z[i].2, ⟨by simpa using hc _ _ x0, by simpa using hc _ _ x1, by simpa using hc _ _ x2, by simpa using hc _ _ x3, hc _ _ x4⟩, ?_⟩
    obtain ⟨a, c2, e0, hk⟩ := (h.kid i hi').form
    simp only [List.getElem_map]
    refine ⟨a, c2, e0, hk.imp id ?_⟩
    rintro ⟨e1, e2, e3⟩
    refine ⟨e1, e2, e3, fun e => hoff i hi' ?_⟩
    rw [hv, e]
    rfl
theorem PT.lies {B : Nat} {z : List (Nd × Value)} {r : Nat → Nat} {w : World} {a : Option Addr} {n cap : Nat} (h : PT B (.slice a n cap) z r w) : Lies w.heap.size w a (z.map (·.1)) := by
  rcases h.tr with ⟨_, h1⟩ | ⟨g, c, hv, _, h1⟩
  · exact .inl (by rw [h1]; rfl)
  · injection hv with hv _ _
    subst hv
    exact Tr.lies h1
/-- 'append(out, n)' of a node with a row of its own. -/
theorem wpList_append_node (w : World) (t : Nd) (u : Value) {ops : Array Oper} {rest : List Oper} {o : Oper} {a : Act} {Q : Exit → Act → World → Prop} (hgd : o.guard = none) (s x : Operand)
    (ho : o.op = .call { callee := .builtin .append, args := #[s, x], argTypes := #[29, 29] }) (B : Nat) (v : Value) (d : List (Nd × Value)) (r : Nat → Nat) (b : Nat) (hs : a.eval s = v)
    (hown : PT B v d r w) (hx : a.eval x = .slice (some ⟨w.heap.size, 0, none⟩) 1 1) (hu : u.oneCell' = true) (hn : d.length ≤ 1048576) (hB : B ≤ w.heap.size)
    (hk : KidV B w b u t.kids) (hb : ∀ i, i < d.length → r i ≠ b) (hbw : b < w.heap.size) (hoff : v.ownBlock ≠ some b)
    (h : ∀ v' r' w', PT B v' (d ++ [(t, u)]) r' w' → Below B w w' → (∀ i, i < d.length → r' i = r i) → r' d.length = b → wpList Tryz.prog ops Q rest (a.put o.dst v') w') :
    wpList Tryz.prog ops Q (o :: rest) a (w.alloc (.cells #[.int .i64 t.k, .int .i64 t.op, .string t.s, .string t.t, u] 60)) := by
  obtain ⟨i0, hi, hz0, hz1, hz2⟩ := info_parts Tryz.infoNode
  refine wpList_append_lies _ hgd s x 29 ho B 60 i0 _ 5 72 Tryz.underlying29 hi hz0 hz1 hz2 rfl (by decide) v d.length (fl d) hs (hown.own.alloc _) ⟨w.heap.size, 0, none⟩ 1 1 [.int .i64 t.k, .int .i64 t.op, .string t.s, .string t.t, u] hx rfl ?_ ?_ (by decide) (by unfold maxLen; omega) (by omega) (by simp; omega) (w.heap.size + 1) (by simp) ?_
  · intro j q hj
    rw [show ((⟨w.heap.size, 0, none⟩ : Addr).add j) = ⟨w.heap.size, j, none⟩ by unfold Addr.add; split <;> simp_all]
    rw [cell_of_row _ w.heap.size j _ _ _ (heap_alloc_new w _)]
    simpa using hj
  · intro q hq
    simp at hq
    rcases hq with rfl | rfl | rfl | rfl | rfl
    · rfl
    · rfl
    · rfl
    · rfl
    · exact hu
  · intro g cap w' hown' hg hor _
    have hsz := hg.size
    simp at hsz
    have hkeep : ∀ k, k < w.heap.size → v.ownBlock ≠ some k → w'.heap[k]? = w.heap[k]? := fun k hk hne => by
      rw [hg.block k (by simp; omega) (fun e => hne e.symm)]; exact Below.heap_alloc w _ k hk
    have hgne : ∀ k, k < w.heap.size → v.ownBlock ≠ some k → g ≠ k := fun k hk hne e => by
      rcases hor with e2 | e2
      · exact hne (by rw [e2, e])
      · omega
    refine h _ (fun i => if i < d.length then r i else b) w' ⟨?_, fun i hi => ?_, fun i hi => ?_, fun i j hij hj => ?_, fun i hi => ?_⟩ ?_ (fun i hi => if_pos hi) (if_neg (Nat.lt_irrefl _))
    · unfold OwnN
      rw [fl_snoc, List.length_append]
      exact hown'
    · simp at hi
      by_cases he : i < d.length
      · simp only [List.getElem_append_left he, if_pos he]
        exact (hown.kid i he).keep (hkeep _ (hown.lt i he) (hown.off i he))
      · obtain rfl : i = d.length := by omega
        simp only [List.getElem_append_right (Nat.le_refl _), Nat.sub_self, List.getElem_cons_zero, if_neg (Nat.lt_irrefl _)]
        exact hk.keep (hkeep _ hbw hoff)
    · simp at hi
      by_cases he : i < d.length
      · simp only [if_pos he]
        intro e
        injection e with e
        exact hgne _ (hown.lt i he) (hown.off i he) e
      · simp only [if_neg he]
        intro e
        injection e with e
        exact hgne _ hbw hoff e
    · simp at hj
      by_cases he : j < d.length
      · simp only [if_pos he, if_pos (Nat.lt_trans hij he)]
        exact hown.asc i j hij he
      · simp only [if_neg he, if_pos (show i < d.length by omega)]
        exact hb i (by omega)
    · simp at hi
      by_cases he : i < d.length
      · simp only [if_pos he]; have := hown.lt i he; omega
      · simp only [if_neg he]; omega
    · refine ((Below.refl B w).alloc hB _).grown hg (by simp; omega) ?_
      intro k hk
      exact (World.ownsRow.lt hown.own k hk).1
end Go.Proofs.YtiilpnoaocfjgaaGreatDoor.nd

namespace Go.Proofs.YtiilpnoaocfjgaaGreatDoor.nd
open Go.ChangeShapes Go.WideShapes Go.ChangeAt Go.RowKit
set_option linter.unusedVariables false

def shK (by_ : Int) (l : List Int) : List Int := l.map (fun k => wrap64 (k + by_))
theorem shK_len (x : Int) (l : List Int) : (shK x l).length = l.length := by simp [shK]
theorem shK_step (x : Int) {l : List Int} {J : Nat} (h : J < l.length) : shK x (l.take (J + 1)) = shK x (l.take J) ++ [wrap64 (l[J] + x)] := by
  unfold shK
  rw [List.take_succ_eq_append_getElem h, List.map_append]
  rfl
def shN (x : Int) (n : Nd) : Nd := { n with kids := shK x n.kids }

def RelSi (B : Nat) (W : World) (x : Int) (l : List Int) (v i : Value) (wr : World) : Prop :=
  ∃ J : Nat, J ≤ l.length ∧ OwnI B v (shK x (l.take J)) wr ∧ i = .int .i64 (J : Int) ∧ Below B W wr
end Go.Proofs.YtiilpnoaocfjgaaGreatDoor.nd

namespace Go.Proofs.YtiilpnoaocfjgaaGreatDoor.nd
open Go.ChangeShapes Go.WideShapes Go.ChangeAt Go.RowKit
set_option linter.unusedVariables false

/-- The nodes from S to I, their kids counted from S on. -/
def partS (l : List Nd) (S I : Nat) : List Nd := ((l.drop S).take (I + 1 - S)).map (shN (-(S : Int)))
def partF (l : List Nd) (i : Int) : List Nd := if shape l = true ∧ 0 ≤ i ∧ i < l.length then partS l ((stO l).getD i.toNat 0) i.toNat else []
theorem partS_len {l : List Nd} {S I : Nat} (h : I < l.length) (hS : S ≤ I) : (partS l S I).length = I + 1 - S := by simp [partS]; omega
theorem partS_get {l : List Nd} {S I J : Nat} (h : I < l.length) (hS : S ≤ I) (hJ : J < I + 1 - S) : (partS l S I)[J]'(by rw [partS_len h hS]; exact hJ) = shN (-(S : Int)) (l[S + J]'(by omega)) := by
  simp [partS]
theorem partS_step {l : List Nd} {S I J : Nat} (h : I < l.length) (hS : S ≤ I) (hJ : J < I + 1 - S) : (partS l S I).take (J + 1) = (partS l S I).take J ++ [shN (-(S : Int)) (l[S + J]'(by omega))] := by
  rw [List.take_succ_eq_append_getElem (by rw [partS_len h hS]; exact hJ), partS_get h hS hJ]
theorem part_yes {l : List Nd} {I : Nat} (h : shape l = true) (hI : I < l.length) : partF l (I : Int) = partS l ((stO l).getD I 0) I := by
  unfold partF
  rw [if_pos ⟨h, by omega, by omega⟩]
  simp
theorem part_no {l : List Nd} {i : Int} (h : startOf l i = -1) : partF l i = [] := by
  unfold partF
  rw [if_neg]
  rintro ⟨h1, h2, h3⟩
  obtain ⟨I, rfl⟩ : ∃ I : Nat, i = I := ⟨i.toNat, by omega⟩
  rw [start_yes h1 (by omega)] at h
  omega

/-- What a function that makes a list of nodes answers. -/
def PtOut (l : List Nd) (w : World) (e : Ending) (w' : World) : Prop :=
  ∃ v z r, e = .returned v ∧ z.map (·.1) = l ∧ PT w.heap.size v z r w' ∧ Below w.heap.size w w'
theorem make_nodes0 (n : Nat) (hn : n ≤ 1048576) (w : World) :
    (Instr.makeSlice 29 (.int .i64 0) (.int .i64 (n : Int))).run Tryz.prog w = .ok (.slice (some ⟨w.heap.size, 0, none⟩) 0 n) (w.alloc (.cells (madeCells #[.int .i64 0, .int .i64 0, .string ⟨#[]⟩, .string ⟨#[]⟩, .slice none 0 0] (n * 5)) 60)) := by
  obtain ⟨i, hi, hz⟩ := Option.map_eq_some_iff.1 Tryz.infoNode
  simp only [Prod.mk.injEq] at hz
  obtain ⟨hz0, hs, hb⟩ := hz
  have := run_make (P := Tryz.prog) w 29 60 i _ Tryz.underlying29 hi hz0 .i64 .i64 0 n (by omega) (by omega) (by rw [hb]; omega) (by omega)
  rw [hs] at this
  exact this
theorem PT.made {B : Nat} {w : World} (n : Nat) (hn : n ≤ 1048576) (hB : B ≤ w.heap.size) : PT B (.slice (some ⟨w.heap.size, 0, none⟩) 0 n) [] (fun i => i) (w.alloc (.cells (madeCells #[.int .i64 0, .int .i64 0, .string ⟨#[]⟩, .string ⟨#[]⟩, .slice none 0 0] (n * 5)) 60)) :=
  ⟨⟨rfl, .inr ⟨w.heap.size, n, _, rfl, hB, heap_alloc_new w _, Nat.zero_le _, by unfold maxLen; omega, by simp [madeCells], by simp [fl]⟩⟩, fun i h => by simp at h, fun i h => by simp at h, fun i j _ h => by simp at h, fun i h => by simp at h⟩
theorem one_slice (a : Option Addr) (n c : Nat) : (Value.slice a n c).oneCell' = true := rfl

theorem wrap_k (x : Int) (h1 : -2000000 ≤ x) (h2 : x ≤ 2000000) : IntKind.i64.wrap x = x := by rw [IntKind.wrap_i64]; omega
theorem wrap_w (x : Int) (h1 : -2000000 ≤ x) (h2 : x ≤ 2000000) : wrap64 x = x := by unfold wrap64; omega
theorem part_facts {S I m cap : Nat} (hSI : S ≤ I) (hI : I < 1048576) (hm : m = I + 1 - S) (hic : I + 1 ≤ cap) :
    (I : Int) + 1 - (S : Int) = (m : Int) ∧ ¬ (S : Int) < 0 ∧ S + m = I + 1 ∧ (0 : Int) ≤ (S : Int) ∧ (S : Int) ≤ (I : Int) + 1 ∧ (I : Int) + 1 ≤ (cap : Int) ∧ ¬ cap = S ∧ S < cap :=
  ⟨by omega, by omega, by omega, by omega, by omega, by omega, by omega, by omega⟩
theorem part_wraps {S I m : Nat} (hS : S ≤ 1048576) (hI : I < 1048576) (hm : m ≤ 1048576) :
    IntKind.i64.wrap (-(S : Int)) = -(S : Int) ∧ wrap64 (-(S : Int)) = -(S : Int) ∧ IntKind.i64.wrap ((I : Int) + 1) = (I : Int) + 1 ∧ wrap64 ((I : Int) + 1) = (I : Int) + 1 ∧ IntKind.i64.wrap (m : Int) = (m : Int) ∧ wrap64 (m : Int) = (m : Int) :=
  ⟨wrap_k _ (by omega) (by omega), wrap_w _ (by omega) (by omega), wrap_k _ (by omega) (by omega), wrap_w _ (by omega) (by omega), wrap_k _ (by omega) (by omega), wrap_w _ (by omega) (by omega)⟩
def RelPa (B : Nat) (W : World) (q : List Nd) (v j : Value) (wr : World) : Prop :=
  ∃ (J : Nat) (z : List (Nd × Value)) (r : Nat → Nat), J ≤ q.length ∧ PT B v z r wr ∧ z.map (·.1) = q.take J ∧ j = .int .i64 (J : Int) ∧ Below B W wr

end Go.Proofs.YtiilpnoaocfjgaaGreatDoor.nd

namespace Go.Proofs.YtiilpnoaocfjgaaGreatDoor.nd
open Go.ChangeShapes Go.WideShapes Go.ChangeAt Go.RowKit
set_option linter.unusedVariables false

theorem cell4 {w : World} {g : Nat} {v0 v1 v2 v3 v4 : Value} {e : TypeId} (h : w.heap[g]? = some (.cells #[v0, v1, v2, v3, v4] e (0, 0))) : w.cell? ⟨g, 4, none⟩ = some v4 := by rw [cell_of_row _ _ 4 _ _ _ h]; rfl
theorem cell_past {w : World} {b o : Nat} {v : Value} (z : Obj) (h : w.cell? ⟨b, o, none⟩ = some v) : (w.alloc z).cell? ⟨b, o, none⟩ = some v :=
  (((Below.refl w.heap.size w).alloc (Nat.le_refl _) z).cell (p := ⟨b, o, none⟩) (World.block_lt_of_cell? w _ h)).trans h
theorem wrap_eq (z : Int) : IntKind.i64.wrap z = wrap64 z := by rw [IntKind.wrap_i64]; unfold wrap64; omega
def RelSs (B : Nat) (W : World) (q : List Nd) (v j : Value) (wr : World) : Prop :=
  ∃ (J : Nat) (z : List (Nd × Value)) (r : Nat → Nat), J ≤ q.length ∧ PT B v z r wr ∧ z.map (·.1) = q.take J ∧ j = .int .i64 (J : Int) ∧ Below B W wr ∧ ∀ i, i < z.length → B ≤ r i
/-- .. no row lies below what was there. -/
def PgOut (l : List Nd) (w : World) (e : Ending) (w' : World) : Prop :=
  ∃ v z r, e = .returned v ∧ z.map (·.1) = l ∧ PT w.heap.size v z r w' ∧ Below w.heap.size w w' ∧ ∀ i, i < z.length → w.heap.size ≤ r i
/-- What the inner loop holds: the node's box at g, its kids so far. -/
def RelSk (g : Nat) (W : World) (t : Nd) (x : Int) (k : Value) (wr : World) : Prop :=
  ∃ (K : Nat) (v : Value), K ≤ t.kids.length ∧ k = .int .i64 (K : Int) ∧ OwnI (g + 1) v (shK x (t.kids.take K)) wr ∧ wr.heap[g]? = some (.cells #[.int .i64 t.k, .int .i64 t.op, .string t.s, .string t.t, v] 60 (0, 0)) ∧ Below g W wr

set_option maxRecDepth 20000 in
set_option maxHeartbeats 3200000 in
theorem spec_shift2 (l : List Nd) (x : Int) (a : Option Addr) (cap : Nat) (w : World) (hn : l.length ≤ 1048576) (hk : ∀ t ∈ l, t.kids.length ≤ 1048576) (hc : Lies w.heap.size w a l) :
    Calls Tryz.prog 279 #[.slice a l.length cap, .int .i64 x] w (PgOut (l.map (shN x)) w) := by
  have HC := Lib.hid hc
  have HK := Lib.hid hk
  have HPT0 := Lib.hid (PT.lit (Nat.le_refl w.heap.size))
  clear hc hk
  go_enter Tryz.func279, Tryz.ntmps279
  go_wp2
  go_loopw [5, 6] (fun v j wr => RelSs w.heap.size w (l.map (shN x)) v j wr) (fun _ j _ => l.length - (intOf j).toNat)
  case atStart => exact ⟨0, [], _, by omega, HPT0.out, by simp, rfl, (Below.refl _ _).alloc (Nat.le_refl _) _, fun i hi => by simp at hi⟩
  case round =>
    obtain ⟨J, z, r, hJ, hpt, hz, rfl, hbel, hge⟩ := hrel
    have HGE := Lib.hid hge
    clear hge
    have HPT := Lib.hid hpt
    have HZ := Lib.hid hz
    have HB := Lib.hid hbel
    rw [List.length_map] at hJ
    have hzl : z.length = J := by
      have := congrArg List.length hz
      rw [List.length_map, List.length_take, List.length_map] at this
      omega
    have HZL := Lib.hid hzl
    obtain ⟨av, cv, rfl⟩ := hpt.form
    clear hpt hz hbel hzl
    by_cases hlt : J < l.length
    · obtain ⟨b, o, rfl, hb, hcell⟩ := lies_at HC.out hlt
      obtain ⟨ak, ck, h5, hik⟩ := hcell J hlt
      have HCW := Lib.hid h5
      obtain ⟨c0, c1, c2, c3, c4⟩ := h5.keep HB.out hb
      have HKK := Lib.hid (HK.out l[J] (List.getElem_mem hlt))
      have HSTEP := Lib.hid (show (l.map (shN x)).take (J + 1) = (l.map (shN x)).take J ++ [shN x l[J]] by
        rw [List.take_succ_eq_append_getElem (by simpa using hlt), List.getElem_map])
      obtain ⟨t, ht⟩ : ∃ t, t = l[J] := ⟨_, rfl⟩
      rw [← ht] at c0 c1 c2 c3 c4 hik HSTEP HKK HCW
      have HIK := Lib.hid hik
      have hkl := HKK.out
      have hj1 : (J : Int) < (l.length : Int) := by omega
      have hj0 : (0 : Int) ≤ (J : Int) := by omega
      clear ht h5 hik hcell
      obtain ⟨wo, hwo⟩ : ∃ wo, wo = wr := ⟨_, rfl⟩
      rw [← hwo] at c0 c1 c2 c3 c4 HB HPT ⊢
      clear hwo
      go_wp2
      obtain ⟨g, hg⟩ : ∃ g, g = wo.heap.size := ⟨_, rfl⟩
      have HG := Lib.hid hg
      rw [← hg]
      clear hg
      go_loopw [8] (fun k wr => RelSk g wo t x k wr) (fun k _ => t.kids.length - (intOf k).toNat)
      case atStart =>
        have hsz : (wo.alloc (.cells #[.int .i64 t.k, .int .i64 t.op, .string t.s, .string t.t, .slice (some ⟨g + 1, 0, none⟩) 0 0] 60)).heap.size = g + 1 := by simp [HG.out]
        have ho := OwnI.lit (B := g + 1) (w := wo.alloc (.cells #[.int .i64 t.k, .int .i64 t.op, .string t.s, .string t.t, .slice (some ⟨g + 1, 0, none⟩) 0 0] 60)) (by rw [hsz]; exact Nat.le_refl _)
        rw [hsz] at ho
        refine ⟨0, _, by omega, rfl, ho, ?_, by rw [HG.out]; exact ((Below.refl _ _).alloc (Nat.le_refl _) _).alloc (by simp) _⟩
        rw [Below.heap_alloc _ _ _ (by rw [hsz]; omega), HG.out]
        exact heap_alloc_new wo _
      case round =>
        obtain ⟨K, v, hK, rfl, hown, hbox, hbel⟩ := hrel
        have HOWN := Lib.hid hown
        have HBOX := Lib.hid hbox
        have HBW := Lib.hid hbel
        obtain ⟨uv, uc, rfl⟩ := hown.form
        have hwg : w.heap.size ≤ g := by rw [HG.out]; exact HB.out.size
        have hbg : b < g := by omega
        have q4 := (HBW.out.cell (p := ⟨b, o + J * 5 + 4, none⟩) (show b < g by omega)).trans c4
        have b4 : wr.cell? ⟨g, 4, none⟩ = some (.slice uv (shK x (t.kids.take K)).length uc) := by rw [cell_of_row _ _ 4 _ _ _ hbox]; rfl
        have f4 : wr.frozen? ⟨g, 4, none⟩ = false := frozen_of_row _ _ 4 _ _ hbox
        have HWG := Lib.hid hwg
        clear hown hbox hbel hwg hbg
        by_cases hkt : K < t.kids.length
        · have HKL := Lib.hid (shK_step x hkt)
          obtain ⟨bk, ok, rfl, hbk, hkc⟩ := ints_at HIK.out hkt
          have d0 := (HBW.out.cell (p := ⟨bk, ok + K, none⟩) (show bk < g by have := HWG.out; omega)).trans ((HB.out.cell (p := ⟨bk, ok + K, none⟩) hbk).trans (hkc K hkt))
          obtain ⟨y, hy⟩ : ∃ y, y = t.kids[K] := ⟨_, rfl⟩
          rw [← hy] at d0 HKL
          have hk1 : (K : Int) < (t.kids.length : Int) := by omega
          have hk0 : (0 : Int) ≤ (K : Int) := by omega
          have HO := Lib.hid (fun W' (hb : Below wr.heap.size wr W') => HOWN.out.keep hb (Nat.le_refl _))
          have HIL := Lib.hid (show (shK x (t.kids.take K)).length ≤ 1048576 by rw [shK_len, List.length_take]; omega)
          have HGL := Lib.hid (lt_of_heap HBOX.out)
          have B4 : ∀ z, (wr.alloc z).cell? ⟨g, 4, none⟩ = some (.slice uv (shK x (t.kids.take K)).length uc) := fun z => cell_past z b4
          clear hy hkc
          go_wp2
          go_region_law (first | (refine step_append_int (by rfl) _ _ (by rfl) (g + 1) _ _ (IntKind.i64.wrap (y + x)) (by rfl) (HO.out _ (by first | exact (Below.refl _ wr).alloc (Nat.le_refl _) _ | exact ((Below.refl _ wr).alloc (Nat.le_refl _) _).drew | exact ((Below.refl _ wr).drew).alloc (Nat.le_refl _) _)) wr.heap.size (by rfl) (by exact heap_alloc_new wr _) HIL.out (by simp; exact Nat.le_of_lt HGL.out) ?_; intro g2 cap2 w3 own3 b3; have hbox3 : w3.heap[g]? = some (.cells #[.int .i64 t.k, .int .i64 t.op, .string t.s, .string t.t, .slice uv (shK x (t.kids.take K)).length uc] 60 (0, 0)) := (b3.block g (Nat.lt_succ_self g)).trans ((Below.heap_alloc wr _ g HGL.out).trans HBOX.out); have x4 : w3.cell? ⟨g, 4, none⟩ = some (.slice uv (shK x (t.kids.take K)).length uc) := cell4 hbox3; have y4 : w3.frozen? ⟨g, 4, none⟩ = false := frozen_of_row _ _ 4 _ _ hbox3))
          all_goals
            go_wp2
            go_roundw
            case rel =>
              have hbe : Below g wo (w3.setCell ⟨g, 4, none⟩ (.slice (some ⟨g2, 0, none⟩) ((shK x (t.kids.take K)).length + 1) cap2)) :=
                (HBW.out.trans ((((Below.refl wr.heap.size wr).alloc (Nat.le_refl _) _).drew.mono (Nat.le_of_lt HGL.out)).trans (b3.mono (Nat.le_succ g)))).setCell (p := ⟨g, 4, none⟩) (Nat.le_refl _) _
              rw [wrap_eq, ← HKL.out] at own3
              have ho := ownsRow_setCell_below own3 (a := ⟨g, 4, none⟩) (Nat.lt_succ_self g) (.slice (some ⟨g2, 0, none⟩) ((shK x (t.kids.take K)).length + 1) cap2)
              exact ⟨K + 1, _, by omega, by go_num, ho, heap_setCell_same w3 g 4 _ _ _ hbox3, hbe⟩
            case measure => simp [intOf]; omega
        · have hKt : K = t.kids.length := by omega
          have HO := Lib.hid (show OwnI (g + 1) (.slice uv t.kids.length uc) (shK x t.kids) wr by have := HOWN.out; rwa [List.take_of_length_le (by omega), shK_len] at this)
          have e4 : (shK x (t.kids.take K)).length = t.kids.length := by rw [shK_len, List.length_take]; omega
          rw [e4] at b4 HBOX
          have b0 : wr.cell? ⟨g, 0, none⟩ = some (.int .i64 t.k) := by rw [cell_of_row _ _ 0 _ _ _ HBOX.out]; rfl
          have b1 : wr.cell? ⟨g, 1, none⟩ = some (.int .i64 t.op) := by rw [cell_of_row _ _ 1 _ _ _ HBOX.out]; rfl
          have b2 : wr.cell? ⟨g, 2, none⟩ = some (.string t.s) := by rw [cell_of_row _ _ 2 _ _ _ HBOX.out]; rfl
          have b3 : wr.cell? ⟨g, 3, none⟩ = some (.string t.t) := by rw [cell_of_row _ _ 3 _ _ _ HBOX.out]; rfl
          have hg0 : g + 1 ≤ wr.heap.size := lt_of_heap HBOX.out
          have hwr : w.heap.size ≤ wr.heap.size := Nat.le_trans HWG.out (by omega)
          have HWR := Lib.hid hwr
          have hup : ∀ q, (Value.slice uv t.kids.length uc).ownBlock = some q → g ≤ q := fun q hq => Nat.le_of_succ_le (World.ownsRow.lt HO.out q hq).1
          obtain ⟨bk, hbk1, hbk2, hkv⟩ := KidV.of_own (HO.out.up (Nat.le_succ_of_le HWG.out)) g hg0 HWG.out hup
          have HPT2 := Lib.hid (HPT.out.keep HBW.out (by rw [HG.out]; exact Nat.le_refl _))
          have hoff : (Value.slice av z.length cv).ownBlock ≠ some bk := fun e => by
            have := (World.ownsRow.lt HPT.out.own bk e).2
            have := HG.out
            omega
          have hrb : ∀ i, i < z.length → r i ≠ bk := fun i hi => Nat.ne_of_lt (Nat.lt_of_lt_of_le (HPT.out.lt i hi) (by have := HG.out; omega))
          have HZLE := Lib.hid (show z.length ≤ 1048576 by rw [HZL.out]; omega)
          have HKV := Lib.hid (show KidV w.heap.size wr bk (.slice uv t.kids.length uc) (shN x t).kids from hkv)
          have HOFF := Lib.hid hoff
          have HRB := Lib.hid hrb
          have HBK := Lib.hid hbk2
          have HBK1 := Lib.hid (Nat.le_trans HWG.out hbk1)
          have hk1 : ¬ (K : Int) < (t.kids.length : Int) := by omega
          have HBB := Lib.hid (HB.out.trans (HBW.out.mono HWG.out))
          clear hg0 hwr hup hkv hoff hrb hbk1 hbk2 e4 hKt
          go_wp2_with (refine wpList_append_node _ (shN x t) _ rfl _ _ rfl w.heap.size _ z r bk rfl HPT2.out rfl rfl HZLE.out HWR.out HKV.out HRB.out HBK.out HOFF.out ?_; intro v' r' w4 pt4 b4' rr1 rr2)
          go_roundw
          case rel =>
            refine ⟨J + 1, _, r', by rw [List.length_map]; omega, pt4, ?_, by go_num, HBB.out.trans b4', fun i hi => ?_⟩
            · rw [List.map_append, HZ.out, HSTEP.out]
              rfl
            · simp at hi
              by_cases he : i < z.length
              · rw [rr1 i he]; exact HGE.out i he
              · rw [show i = z.length by omega, rr2]; exact HBK1.out
          case measure => simp [intOf]; omega
    · obtain rfl : J = l.length := by omega
      go_wp2
      go_ret
      exact ⟨_, z, r, rfl, by rw [HZ.out, List.take_of_length_le (by simp)], HPT.out, HB.out, HGE.out⟩

theorem spec_shift (l : List Nd) (x : Int) (a : Option Addr) (cap : Nat) (w : World) (hn : l.length ≤ 1048576) (hk : ∀ t ∈ l, t.kids.length ≤ 1048576) (hc : Lies w.heap.size w a l) :
    Calls Tryz.prog 279 #[.slice a l.length cap, .int .i64 x] w (PtOut (l.map (shN x)) w) :=
  (spec_shift2 l x a cap w hn hk hc).mono fun e w' ⟨v, z, r, h1, h2, h3, h4, _⟩ => ⟨v, z, r, h1, h2, h3, h4⟩
end Go.Proofs.YtiilpnoaocfjgaaGreatDoor.nd

namespace Go.Proofs.YtiilpnoaocfjgaaGreatDoor.nd
open Go.ChangeShapes Go.WideShapes Go.ChangeAt Go.RowKit
set_option linter.unusedVariables false

theorem KidV.down {B B' : Nat} {w : World} {r : Nat} {v : Value} {l : List Int} (h : KidV B w r v l) (hB : B' ≤ B) : KidV B' w r v l := by
  rcases h with h | ⟨cap, e1, e2, e3⟩
  · exact .inl h
  · exact .inr ⟨cap, e1, e2, Nat.le_trans hB e3.1, e3.2⟩
theorem PT.up {B B' : Nat} {v : Value} {z : List (Nd × Value)} {r : Nat → Nat} {w : World} (h : PT B v z r w) (hB : B' ≤ B) : PT B' v z r w :=
  ⟨⟨h.own.1, h.own.2.elim .inl (fun ⟨g, cap, cur, hv, hg, r⟩ => .inr ⟨g, cap, cur, hv, Nat.le_trans hB hg, r⟩)⟩, fun i hi => (h.kid i hi).down hB, h.off, h.asc, h.lt⟩
/-- A part of a list of nodes, where it lies. -/
theorem Lies.sub {B : Nat} {w : World} {b o : Nat} {l : List Nd} (h : Lies B w (some ⟨b, o, none⟩) l) (S m : Nat) (hm : S + m ≤ l.length) : Lies B w (some ⟨b, o + S * 5, none⟩) ((l.drop S).take m) := by
  by_cases h0 : m = 0
  · exact .inl (by rw [h0]; simp)
  obtain ⟨b', o', e, hb, hc⟩ := lies_at h (I := S) (by omega)
  injection e with e
  injection e with e1 e2 _
  subst e1 e2
  refine .inr ⟨b, o + S * 5, rfl, hb, fun i hi => ?_⟩
  simp at hi
  have := hc (S + i) (by omega)
  rw [show o + S * 5 + i * 5 = o + (S + i) * 5 by omega]
  simpa using this
/-- What the region holds. -/
structure LP (W3 : World) (w : World) : Prop where
  bel : Below W3.heap.size W3 w
  le : W3.heap.size ≤ w.heap.size
theorem lp_start {W3 w : World} {b o : Nat} {S : Nat} (h : w.cell? ⟨b, o, none⟩ = some (.int .i64 (S : Int))) (hl : LP W3 w) : w.cell? ⟨b, o, none⟩ = some (.int .i64 (S : Int)) ∧ LP W3 w := ⟨h, hl⟩
theorem lp_drew {W3 w : World} {b o : Nat} {S : Nat} (h : w.cell? ⟨b, o, none⟩ = some (.int .i64 (S : Int)) ∧ LP W3 w) : w.drew.cell? ⟨b, o, none⟩ = some (.int .i64 (S : Int)) ∧ LP W3 w.drew := ⟨h.1, h.2.bel.drew, h.2.le⟩
theorem lp_keep {W3 w w1 : World} {b o : Nat} {S : Nat} (hb : b < W3.heap.size) (h : w.cell? ⟨b, o, none⟩ = some (.int .i64 (S : Int)) ∧ LP W3 w) (hk : Below w.heap.size w w1) : w1.cell? ⟨b, o, none⟩ = some (.int .i64 (S : Int)) ∧ LP W3 w1 :=
  ⟨(hk.cell (p := ⟨b, o, none⟩) (Nat.lt_of_lt_of_le hb h.2.le)).trans h.1, h.2.bel.trans (hk.mono h.2.le), Nat.le_trans h.2.le hk.size⟩

end Go.Proofs.YtiilpnoaocfjgaaGreatDoor.nd

namespace Go.Proofs.YtiilpnoaocfjgaaGreatDoor.nd
open Go.ChangeShapes Go.WideShapes Go.ChangeAt Go.RowKit
set_option linter.unusedVariables false

def makeGo : List (List Nd) → List Nd → List Int → List Nd × List Int
  | [], out, ks => (out, ks)
  | q :: ps, out, ks => makeGo ps (out ++ q.map (shN (out.length : Int))) (ks ++ [((out ++ q.map (shN (out.length : Int))).length : Int) - 1])
def makeT (n : Nd) (ps : List (List Nd)) : List Nd := (makeGo ps [] []).1 ++ [{ n with kids := (makeGo ps [] []).2 }]
theorem makeGo_snoc : ∀ (ps : List (List Nd)) (q : List Nd) (out : List Nd) (ks : List Int), makeGo (ps ++ [q]) out ks = ((makeGo ps out ks).1 ++ q.map (shN ((makeGo ps out ks).1.length : Int)), (makeGo ps out ks).2 ++ [(((makeGo ps out ks).1 ++ q.map (shN ((makeGo ps out ks).1.length : Int))).length : Int) - 1]) := by
  intro ps
  induction ps with
  | nil => intro q out ks; rfl
  | cons x ps ih => intro q out ks; simp only [List.cons_append, makeGo]; rw [ih]
theorem makeGo_klen : ∀ (ps : List (List Nd)) (out : List Nd) (ks : List Int), (makeGo ps out ks).2.length = ks.length + ps.length := by
  intro ps
  induction ps with
  | nil => intro out ks; simp [makeGo]
  | cons x ps ih => intro out ks; simp only [makeGo]; rw [ih]; simp; omega
def sumL : List (List Nd) → Nat
  | [] => 0
  | q :: ps => q.length + sumL ps
theorem makeGo_len : ∀ (ps : List (List Nd)) (out : List Nd) (ks : List Int), (makeGo ps out ks).1.length = out.length + sumL ps := by
  intro ps
  induction ps with
  | nil => intro out ks; simp [makeGo, sumL]
  | cons x ps ih => intro out ks; simp only [makeGo]; rw [ih]; simp [sumL]; omega

/-- Lists of nodes, behind a slice of slices. -/
def Parts (B : Nat) (w : World) (a : Option Addr) (ps : List (List Nd)) : Prop :=
  ps = [] ∨ ∃ b o, a = some ⟨b, o, none⟩ ∧ b < B ∧ ∀ i (h : i < ps.length), ∃ ai ci, w.cell? ⟨b, o + i, none⟩ = some (.slice ai ps[i].length ci) ∧ Lies B w ai ps[i]
theorem parts_at {B : Nat} {w : World} {a : Option Addr} {ps : List (List Nd)} {I : Nat} (h : Parts B w a ps) (hI : I < ps.length) : ∃ b o, a = some ⟨b, o, none⟩ ∧ b < B ∧ ∀ i (h : i < ps.length), ∃ ai ci, w.cell? ⟨b, o + i, none⟩ = some (.slice ai ps[i].length ci) ∧ Lies B w ai ps[i] := by
  rcases h with h | h
  · rw [h] at hI; simp at hI
  · exact h
theorem Parts.keep {B B' : Nat} {w w' : World} {a : Option Addr} {ps : List (List Nd)} (h : Parts B w a ps) (hb : Below B' w w') (hB : B ≤ B') : Parts B w' a ps := by
  rcases h with h | ⟨b, o, rfl, hlt, hc⟩
  · exact .inl h
  · refine .inr ⟨b, o, rfl, hlt, fun i hi => ?_⟩
    obtain ⟨ai, ci, hc1, hl⟩ := hc i hi
    exact ⟨ai, ci, (hb.cell (p := ⟨b, o + i, none⟩) (Nat.lt_of_lt_of_le hlt hB)).trans hc1, hl.keep hb hB⟩

/-- 'append(ks, v)', where the new row lies. -/
theorem wpList_append_int2 (w : World) (z : Int) {ops : Array Oper} {rest : List Oper} {o : Oper} {a : Act} {Q : Exit → Act → World → Prop} (hgd : o.guard = none) (s x : Operand)
    (ho : o.op = .call { callee := .builtin .append, args := #[s, x], argTypes := #[53, 53] }) (B : Nat) (v : Value) (d : List Int) (hs : a.eval s = v)
    (hown : OwnI B v d w) (hx : a.eval x = .slice (some ⟨w.heap.size, 0, none⟩) 1 1) (hn : d.length ≤ 1048576) (hB : B ≤ w.heap.size)
    (h : ∀ g cap w', OwnI B (.slice (some ⟨g, 0, none⟩) (d.length + 1) cap) (d ++ [z]) w' → Below B w w' → w.grownBy w' v.ownBlock → (v.ownBlock = some g ∨ w.heap.size ≤ g) → wpList Tryz.prog ops Q rest (a.put o.dst (.slice (some ⟨g, 0, none⟩) (d.length + 1) cap)) w') :
    wpList Tryz.prog ops Q (o :: rest) a (w.alloc (.cells #[.int .i64 z] 3)) := by
  obtain ⟨i0, hi, hz0, hz1, hz2⟩ := info_parts Tryz.infoInt
  refine wpList_append_lies _ hgd s x 53 ho B 3 i0 _ 1 8 Tryz.underlying53 hi hz0 hz1 hz2 rfl (by decide) v d.length (ivals d) hs (hown.alloc _) ⟨w.heap.size, 0, none⟩ 1 1 [.int .i64 z] hx rfl ?_ ?_ (by decide) (by unfold maxLen; omega) (by omega) (by simp; omega) (w.heap.size + 1) (by simp) ?_
  · intro j u hj
    rw [show ((⟨w.heap.size, 0, none⟩ : Addr).add j) = ⟨w.heap.size, j, none⟩ by unfold Addr.add; split <;> simp_all]
    rw [cell_of_row _ w.heap.size j _ _ _ (heap_alloc_new w _)]
    simpa using hj
  · intro u hu
    simp at hu
    rcases hu with rfl <;> rfl
  · intro g cap w' hown' hg hor _
    refine h g cap w' ?_ ?_ ?_ (hor.imp id (fun h => by omega))
    · unfold OwnI
      rw [ivals_snoc, List.length_append]
      exact hown'
    · refine ((Below.refl B w).alloc hB _).grown hg (by simp; omega) ?_
      intro k hk
      exact (World.ownsRow.lt hown k hk).1
    · exact ⟨hg.os, hg.tape, hg.output, by have := hg.size; simp at this; omega, fun k hk hne => by rw [hg.block k (by simp; omega) hne]; exact Below.heap_alloc w _ k hk⟩

theorem fl_one {B : Nat} {w : World} {r : Nat → Nat} : ∀ (z : List (Nd × Value)), (∀ i (h : i < z.length), KidV B w (r i) z[i].2 z[i].1.kids) → ∀ u ∈ fl z, u.oneCell' = true := by
  intro z h u hu
  have hv : ∀ t ∈ z, t.2.oneCell' = true := fun t ht => by
    obtain ⟨i, hi, rfl⟩ := List.mem_iff_getElem.1 ht
    obtain ⟨a, c, e, _⟩ := (h i hi).form
    rw [e]; rfl
  clear h
  induction z with
  | nil => cases hu
  | cons t z ih =>
    obtain ⟨n, v⟩ := t
    simp only [fl, List.mem_cons] at hu
    rcases hu with rfl | rfl | rfl | rfl | rfl | hu
    · rfl
    · rfl
    · rfl
    · rfl
    · exact hv (n, u) (List.mem_cons_self ..)
    · exact ih hu (fun t ht => hv t (List.mem_cons_of_mem _ ht))
theorem fl_len (z : List (Nd × Value)) : (fl z).length = z.length * 5 := by
  induction z with
  | nil => rfl
  | cons t z ih => obtain ⟨n, v⟩ := t; simp [fl, ih]; omega
/-- 'append(out, more...)' of nodes of one's own that were made behind the first ones. -/
theorem wpList_append_pt (w : World) {ops : Array Oper} {rest : List Oper} {o : Oper} {a : Act} {Q : Exit → Act → World → Prop} (hgd : o.guard = none) (s x : Operand)
    (ho : o.op = .call { callee := .builtin .append, args := #[s, x], argTypes := #[29, 29] }) (B S : Nat) (v : Value) (d : List (Nd × Value)) (r : Nat → Nat) (hs : a.eval s = v)
    (hown : PT B v d r w) (g2 c2 : Nat) (d2 : List (Nd × Value)) (r2 : Nat → Nat) (hown2 : PT S (.slice (some ⟨g2, 0, none⟩) d2.length c2) d2 r2 w) (hx : a.eval x = .slice (some ⟨g2, 0, none⟩) d2.length c2) (h0 : 0 < d2.length) (hn : d.length + d2.length ≤ 1048576) (hB : B ≤ w.heap.size) (hBS : B ≤ S)
    (hap : ∀ i j, i < d.length → j < d2.length → r i ≠ r2 j) (hoff : ∀ j, j < d2.length → v.ownBlock ≠ some (r2 j))
    (h : ∀ g cap w' r', PT B (.slice (some ⟨g, 0, none⟩) (d.length + d2.length) cap) (d ++ d2) r' w' → (∀ i, i < d.length → r' i = r i) → (∀ j, j < d2.length → r' (d.length + j) = r2 j) → Below B w w' → w.grownBy w' v.ownBlock → (v.ownBlock = some g ∨ w.heap.size ≤ g) → wpList Tryz.prog ops Q rest (a.put o.dst (.slice (some ⟨g, 0, none⟩) (d.length + d2.length) cap)) w') :
    wpList Tryz.prog ops Q (o :: rest) a w := by
  obtain ⟨i0, hi, hz0, hz1, hz2⟩ := info_parts Tryz.infoNode
  refine wpList_append_lies _ hgd s x 29 ho B 60 i0 _ 5 72 Tryz.underlying29 hi hz0 hz1 hz2 rfl (by decide) v d.length (fl d) hs hown.own ⟨g2, 0, none⟩ d2.length c2 (fl d2) hx (fl_len d2) ?_ (fl_one d2 hown2.kid) h0 (by unfold maxLen; omega) (by omega) hB w.heap.size rfl ?_
  · intro j q hj
    rw [show ((⟨g2, 0, none⟩ : Addr).add j) = ⟨g2, j, none⟩ by unfold Addr.add; split <;> simp_all]
    rw [World.ownsRow.cellAt hown2.own j (by
      have := (List.getElem?_eq_some_iff.1 hj).1
      rw [fl_len] at this
      exact this)]
    exact hj
  · intro g cap w' hown' hg hor _
    have hsz := hg.size
    have hkeep : ∀ k, k < w.heap.size → v.ownBlock ≠ some k → w'.heap[k]? = w.heap[k]? := fun k hk hne => hg.block k hk (fun e => hne e.symm)
    have hgne : ∀ k, k < w.heap.size → v.ownBlock ≠ some k → g ≠ k := fun k hk hne e => by
      rcases hor with e2 | e2
      · exact hne (by rw [e2, e])
      · omega
    refine h g cap w' (fun i => if i < d.length then r i else r2 (i - d.length)) ⟨?_, fun i hi => ?_, fun i hi => ?_, fun i j hij hj => ?_, fun i hi => ?_⟩ (fun i hi => if_pos hi) (fun j hj => by simp only [if_neg (show ¬ d.length + j < d.length by omega), Nat.add_sub_cancel_left]) ?_ hg (hor.imp id (fun e => by omega))
    · unfold OwnN
      rw [fl_append, List.length_append]
      exact hown'
    · simp at hi
      by_cases he : i < d.length
      · simp only [List.getElem_append_left he, if_pos he]
        exact (hown.kid i he).keep (hkeep _ (hown.lt i he) (hown.off i he))
      · have hj : i - d.length < d2.length := by omega
        simp only [List.getElem_append_right (show d.length ≤ i by omega), if_neg he]
        exact ((hown2.kid _ hj).keep (hkeep _ (hown2.lt _ hj) (hoff _ hj))).down hBS
    · simp at hi
      by_cases he : i < d.length
      · simp only [if_pos he]
        intro e; injection e with e
        exact hgne _ (hown.lt i he) (hown.off i he) e
      · have hj : i - d.length < d2.length := by omega
        simp only [if_neg he]
        intro e; injection e with e
        exact hgne _ (hown2.lt _ hj) (hoff _ hj) e
    · simp at hj
      by_cases he : j < d.length
      · simp only [if_pos he, if_pos (Nat.lt_trans hij he)]
        exact hown.asc i j hij he
      · by_cases hi2 : i < d.length
        · simp only [if_neg he, if_pos hi2]
          exact hap i _ hi2 (by omega)
        · simp only [if_neg he, if_neg hi2]
          exact hown2.asc _ _ (by omega) (by omega)
    · simp at hi
      by_cases he : i < d.length
      · simp only [if_pos he]; have := hown.lt i he; omega
      · simp only [if_neg he]; have := hown2.lt (i - d.length) (by omega); omega
    · refine (Below.refl B w).grown hg hB ?_
      intro k hk
      exact (World.ownsRow.lt hown.own k hk).1

/-- What the loop of l6Make holds: the node's box at g0, out at gv, the kids so far at gu. -/
structure MK (g0 : Nat) (n : Nd) (gv cv : Nat) (z : List (Nd × Value)) (r : Nat → Nat) (gu cu : Nat) (ks : List Int) (w : World) : Prop where
  out : PT (g0 + 1) (.slice (some ⟨gv, 0, none⟩) z.length cv) z r w
  kids : OwnI (g0 + 1) (.slice (some ⟨gu, 0, none⟩) ks.length cu) ks w
  box : w.heap[g0]? = some (.cells #[.int .i64 n.k, .int .i64 n.op, .string n.s, .string n.t, .slice (some ⟨gu, 0, none⟩) ks.length cu] 60 (0, 0))
  ne : gv ≠ gu
  row : ∀ i, i < z.length → r i ≠ gu
  gt : ∀ i, i < z.length → g0 < r i
theorem PT.kept {B q : Nat} {v : Value} {z : List (Nd × Value)} {r : Nat → Nat} {w w' : World} (h : PT B v z r w) (hg : w.grownBy w' (some q)) (hv : v.ownBlock ≠ some q) (hr : ∀ i, i < z.length → r i ≠ q) : PT B v z r w' := by
  refine ⟨World.ownsRow.kept h.own hg (.inr hv), fun i hi => (h.kid i hi).keep (hg.block _ (h.lt i hi) (fun e => by injection e with e; exact hr i hi e)), h.off, h.asc, fun i hi => Nat.lt_of_lt_of_le (h.lt i hi) hg.size⟩
theorem OwnI.kept {B q : Nat} {v : Value} {l : List Int} {w w' : World} (h : OwnI B v l w) (hg : w.grownBy w' (some q)) (hv : v.ownBlock ≠ some q) : OwnI B v l w' := World.ownsRow.kept h hg (.inr hv)
theorem grown_one (w : World) (g j : Nat) (u : Value) : w.grownBy (w.setCell ⟨g, j, none⟩ u) (some g) :=
  ⟨rfl, rfl, rfl, by simp, fun k _ hne => heap_setCell_other w ⟨g, j, none⟩ k u (fun e => hne (by rw [e]))⟩
section
variable {g0 gv cv gu cu : Nat} {n : Nd} {z z2 : List (Nd × Value)} {r r2 r' : Nat → Nat} {ks : List Int} {w w' : World}
theorem MK.over (h : MK g0 n gv cv z r gu cu ks w) (hb : Below w.heap.size w w') : MK g0 n gv cv z r gu cu ks w' :=
  ⟨h.out.keep hb (Nat.le_refl _), h.kids.keep hb (Nat.le_refl _), (hb.block g0 (lt_of_heap h.box)).trans h.box, h.ne, h.row, h.gt⟩
theorem MK.gu_lt (h : MK g0 n gv cv z r gu cu ks w) : g0 < gu ∧ gu < w.heap.size := ⟨(World.ownsRow.lt h.kids gu rfl).1, (World.ownsRow.lt h.kids gu rfl).2⟩
theorem MK.gv_lt (h : MK g0 n gv cv z r gu cu ks w) : g0 < gv ∧ gv < w.heap.size := ⟨(World.ownsRow.lt h.out.own gv rfl).1, (World.ownsRow.lt h.out.own gv rfl).2⟩
theorem MK.app {g c w0 : Nat} (h : MK g0 n gv cv z r gu cu ks w) (hg : w.grownBy w' (some gv)) (hp : PT (g0 + 1) (.slice (some ⟨g, 0, none⟩) (z.length + z2.length) c) (z ++ z2) r' w') (hr : ∀ i, i < z.length → r' i = r i) (hr2 : ∀ j, j < z2.length → r' (z.length + j) = r2 j)
    (hge : ∀ j, j < z2.length → w0 ≤ r2 j) (hgu : gu < w0) (hor : gv = g ∨ w.heap.size ≤ g) : MK g0 n g c (z ++ z2) r' gu cu ks w' := by
  have hu := h.gu_lt
  have hv := h.gv_lt
  have hrow : ∀ i, i < (z ++ z2).length → r' i ≠ gu ∧ g0 < r' i := fun i hi => by
    simp at hi
    by_cases he : i < z.length
    · rw [hr i he]; exact ⟨h.row i he, h.gt i he⟩
    · obtain ⟨j, rfl⟩ : ∃ j, i = z.length + j := ⟨i - z.length, by omega⟩
      have hj : j < z2.length := by omega
      have := hge j hj
      rw [hr2 j hj]
      omega
  refine ⟨by rw [List.length_append]; exact hp, h.kids.kept hg (fun e => by simp [Value.ownBlock] at e; exact h.ne e.symm), ?_, ?_, fun i hi => (hrow i hi).1, fun i hi => (hrow i hi).2⟩
  · rw [hg.block g0 (by omega) (fun e => by injection e with e; omega)]; exact h.box
  · rcases hor with e | e
    · rw [← e]; exact h.ne
    · omega
theorem MK.kid {gu' cu' : Nat} {x : Int} (h : MK g0 n gv cv z r gu cu ks w) (ho : OwnI (g0 + 1) (.slice (some ⟨gu', 0, none⟩) (ks.length + 1) cu') (ks ++ [x]) w') (hg : w.grownBy w' (some gu)) (hor : gu = gu' ∨ w.heap.size ≤ gu') :
    MK g0 n gv cv z r gu' cu' (ks ++ [x]) (w'.setCell ⟨g0, 4, none⟩ (.slice (some ⟨gu', 0, none⟩) (ks.length + 1) cu')) := by
  have hu := h.gu_lt
  have hv := h.gv_lt
  have hp := (h.out.kept hg (fun e => by simp [Value.ownBlock] at e; exact h.ne e) h.row).kept (grown_one w' g0 4 (.slice (some ⟨gu', 0, none⟩) (ks.length + 1) cu')) (fun e => by simp [Value.ownBlock] at e; omega) (fun i hi => by have := h.gt i hi; omega)
  have hbox : w'.heap[g0]? = some (.cells #[.int .i64 n.k, .int .i64 n.op, .string n.s, .string n.t, .slice (some ⟨gu, 0, none⟩) ks.length cu] 60 (0, 0)) := by
    rw [hg.block g0 (by omega) (fun e => by injection e with e; omega)]; exact h.box
  refine ⟨hp, ?_, ?_, ?_, fun i hi => ?_, h.gt⟩
  · rw [List.length_append]; exact ownsRow_setCell_below ho (a := ⟨g0, 4, none⟩) (Nat.lt_succ_self g0) _
  · rw [List.length_append]; exact heap_setCell_same w' g0 4 _ _ _ hbox
  · rcases hor with e | e
    · rw [← e]; exact h.ne
    · omega
  · rcases hor with e | e
    · rw [← e]; exact h.row i hi
    · have := h.out.lt i hi; omega
end
def RelMk (g0 : Nat) (W : World) (n : Nd) (ps : List (List Nd)) (v k : Value) (wr : World) : Prop :=
  ∃ (J gv cv : Nat) (z : List (Nd × Value)) (r : Nat → Nat) (gu cu : Nat) (ks : List Int), J ≤ ps.length ∧ k = .int .i64 (J : Int) ∧ v = .slice (some ⟨gv, 0, none⟩) z.length cv ∧ MK g0 n gv cv z r gu cu ks wr ∧ (z.map (·.1), ks) = makeGo (ps.take J) [] [] ∧ Below g0 W wr

theorem sum_take (ps : List (List Nd)) : ∀ J, sumL (ps.take J) ≤ sumL ps := by
  induction ps with
  | nil => intro J; simp [sumL]
  | cons q ps ih =>
    intro J
    cases J with
    | zero => simp [sumL]
    | succ J => simp only [List.take_succ_cons, sumL]; have := ih J; omega
theorem sum_get (ps : List (List Nd)) : ∀ J (h : J < ps.length), sumL (ps.take J) + ps[J].length ≤ sumL ps := by
  induction ps with
  | nil => intro J h; simp at h
  | cons q ps ih =>
    intro J h
    cases J with
    | zero => simp [sumL]
    | succ J =>
      simp only [List.take_succ_cons, sumL, List.getElem_cons_succ]
      have := ih J (by simpa using h)
      omega

set_option maxRecDepth 20000 in
set_option maxHeartbeats 3200000 in
theorem make_any (n : Nd) (ps : List (List Nd)) (a : Option Addr) (cap : Nat) (w : World) (hps : Parts w.heap.size w a ps) (hne : ∀ q ∈ ps, 0 < q.length) (hsum : sumL ps ≤ 100000) (hlen : ps.length ≤ 1000) (hk : ∀ q ∈ ps, ∀ t ∈ q, t.kids.length ≤ 1048576) :
    Calls Tryz.prog 198 #[.agg #[.int .i64 n.k, .int .i64 n.op, .string n.s, .string n.t, .slice none 0 0], .slice a ps.length cap] w (PgOut (makeT n ps) w) := by
  have HPS := Lib.hid hps
  have HNE := Lib.hid hne
  have HSUM := Lib.hid hsum
  have HK := Lib.hid hk
  clear hps hne hsum hk
  go_enter Tryz.func198, Tryz.ntmps198
  go_wp2
  obtain ⟨g0, hg0⟩ : ∃ g0, g0 = w.heap.size := ⟨_, rfl⟩
  have HG0 := Lib.hid hg0
  have hM0 : MK g0 n (g0 + 1) 0 [] (fun i => i) (g0 + 1 + 1) 0 [] (((w.alloc (.cells #[.int .i64 n.k, .int .i64 n.op, .string n.s, .string n.t, .slice (some ⟨g0 + 1 + 1, 0, none⟩) 0 0] 60)).alloc (.cells #[] 60)).alloc (.cells #[] 3)) := by
    have hs1 : (w.alloc (.cells #[.int .i64 n.k, .int .i64 n.op, .string n.s, .string n.t, .slice (some ⟨g0 + 1 + 1, 0, none⟩) 0 0] 60)).heap.size = g0 + 1 := by simp [hg0]
    have hs2 : ((w.alloc (.cells #[.int .i64 n.k, .int .i64 n.op, .string n.s, .string n.t, .slice (some ⟨g0 + 1 + 1, 0, none⟩) 0 0] 60)).alloc (.cells #[] 60)).heap.size = g0 + 1 + 1 := by simp [hg0]
    have h1 := PT.lit (B := g0 + 1) (w := w.alloc (.cells #[.int .i64 n.k, .int .i64 n.op, .string n.s, .string n.t, .slice (some ⟨g0 + 1 + 1, 0, none⟩) 0 0] 60)) (by rw [hs1]; exact Nat.le_refl _)
    rw [hs1] at h1
    have h2 := OwnI.lit (B := g0 + 1) (w := (w.alloc (.cells #[.int .i64 n.k, .int .i64 n.op, .string n.s, .string n.t, .slice (some ⟨g0 + 1 + 1, 0, none⟩) 0 0] 60)).alloc (.cells #[] 60)) (by rw [hs2]; omega)
    rw [hs2] at h2
    refine ⟨h1.keep ((Below.refl _ _).alloc (Nat.le_refl _) _) (Nat.le_refl _), h2, ?_, by omega, fun i hi => by simp at hi, fun i hi => by simp at hi⟩
    rw [Below.heap_alloc _ _ _ (by rw [hs2]; omega), Below.heap_alloc _ _ _ (by rw [hs1]; omega), hg0]
    exact heap_alloc_new w _
  have HM0 := Lib.hid hM0
  have HBL0 := Lib.hid (below_three w (.cells #[.int .i64 n.k, .int .i64 n.op, .string n.s, .string n.t, .slice (some ⟨g0 + 1 + 1, 0, none⟩) 0 0] 60) (.cells #[] 60) (.cells #[] 3))
  rw [← hg0] at HBL0 ⊢
  clear hg0 hM0
  go_loopw [5, 6] (fun v k wr => RelMk g0 w n ps v k wr) (fun _ k _ => ps.length - (intOf k).toNat)
  case atStart => exact ⟨0, g0 + 1, 0, [], _, g0 + 1 + 1, 0, [], by omega, rfl, rfl, HM0.out, rfl, HBL0.out⟩
  case round =>
    obtain ⟨J, gv, cv, z, r, gu, cu, ks, hJ, rfl, rfl, hmk, hgo, hbel⟩ := hrel
    have HMK := Lib.hid hmk
    have HB := Lib.hid hbel
    have hz1 : z.map (·.1) = (makeGo (ps.take J) [] []).1 := congrArg Prod.fst hgo
    have hk1 : ks = (makeGo (ps.take J) [] []).2 := congrArg Prod.snd hgo
    have hzl : z.length = sumL (ps.take J) := by
      have := congrArg List.length hz1
      rw [List.length_map, makeGo_len] at this
      simpa using this
    have hkl : ks.length = J := by
      rw [hk1, makeGo_klen]; simp; omega
    have hs1 := sum_take ps J
    have hzb : z.length ≤ 100000 := by rw [hzl]; exact Nat.le_trans hs1 HSUM.out
    have HZ1 := Lib.hid hz1
    have HK1 := Lib.hid hk1
    have HKL := Lib.hid hkl
    have HZL := Lib.hid hzl
    have hbox := hmk.box
    have b4 : wr.cell? ⟨g0, 4, none⟩ = some (.slice (some ⟨gu, 0, none⟩) ks.length cu) := by rw [cell_of_row _ _ 4 _ _ _ hbox]; rfl
    have hg0w : g0 < wr.heap.size := lt_of_heap hbox
    have HGW := Lib.hid hg0w
    clear hmk hbel hgo hz1 hk1 hzl hkl hs1 hg0w
    by_cases hlt : J < ps.length
    · have hsg := sum_get ps J hlt
      obtain ⟨b, o, rfl, hb, hc⟩ := parts_at HPS.out hlt
      obtain ⟨aj, cj, hcell, hlies⟩ := hc J hlt
      have hbg : b < g0 := by rw [HG0.out]; exact hb
      have c0 := (HB.out.cell (p := ⟨b, o + J, none⟩) hbg).trans hcell
      have hq0 := HNE.out ps[J] (List.getElem_mem hlt)
      have HQK := Lib.hid (HK.out ps[J] (List.getElem_mem hlt))
      have HTK := Lib.hid (List.take_succ_eq_append_getElem hlt)
      obtain ⟨q, hq⟩ : ∃ q, q = ps[J] := ⟨_, rfl⟩
      rw [← hq] at c0 hlies hq0 HQK HTK hsg
      have HLIES := Lib.hid (show Lies w.heap.size wr aj q from hlies.keep HB.out (by rw [HG0.out]; exact Nat.le_refl _))
      have hqz : z.length + q.length ≤ 100000 := by rw [HZL.out]; exact Nat.le_trans hsg HSUM.out
      have HQZ := Lib.hid hqz
      have HQ0 := Lib.hid hq0
      have hj1 : (J : Int) < (ps.length : Int) := by omega
      have hj0 : (0 : Int) ≤ (J : Int) := by omega
      clear hq hc hcell hlies hsg hb hbg
      go_wp2_with fail
      refine (spec_shift2 q (z.length : Int) aj cj _ (by omega) HQK.out (HLIES.out.up (by have := HGW.out; have := HG0.out; omega))).mono ?_
      rintro e w2 ⟨v2, z2, r2, rfl, hz2, pt2, b2, ge2⟩
      have hz2l : z2.length = q.length := by have := congrArg List.length hz2; simpa using this
      have M2 := Lib.hid (HMK.out.over b2)
      rcases pt2.tr with ⟨_, h0⟩ | ⟨g2, c2, rfl, hg2, _⟩
      · rw [h0] at hz2l; simp at hz2l; omega
      have hz2p : 0 < z2.length := by omega
      have hzz : z.length + z2.length ≤ 1048576 := by omega
      have hgw2 : g0 + 1 ≤ w2.heap.size := by have := HGW.out; have := b2.size; omega
      have hgS : g0 + 1 ≤ wr.heap.size := HGW.out
      have hap : ∀ i j, i < z.length → j < z2.length → r i ≠ r2 j := fun i j hi hj => by
        have := HMK.out.out.lt i hi
        have := ge2 j hj
        omega
      have hoff : ∀ j, j < z2.length → (Value.slice (some ⟨gv, 0, none⟩) z.length cv).ownBlock ≠ some (r2 j) := fun j hj e => by
        have h1 := HMK.out.gv_lt.2
        have h2 := ge2 j hj
        simp [Value.ownBlock] at e
        omega
      have PT2 := Lib.hid pt2
      have HGE := Lib.hid ge2
      have HP0 := Lib.hid hz2p
      have HZZ := Lib.hid hzz
      have HW2 := Lib.hid hgw2
      have HGS := Lib.hid hgS
      have HAP := Lib.hid hap
      have HOF := Lib.hid hoff
      have HZ2 := Lib.hid hz2
      have HZ2L := Lib.hid hz2l
      have HB2 := Lib.hid (HB.out.trans (b2.mono (Nat.le_of_lt HGW.out)))
      have HKB := Lib.hid (show ks.length ≤ 1048576 by rw [HKL.out]; omega)
      have hzv : z.length + z2.length ≤ 100000 := by omega
      clear pt2 ge2 hz2p hzz hgw2 hgS hap hoff hz2 hz2l hg2 b2 b4 hbox hqz hq0 c0
      go_wp2_with (first | (refine wpList_append_pt _ rfl _ _ rfl (g0 + 1) wr.heap.size (.slice (some ⟨gv, 0, none⟩) z.length cv) z r rfl M2.out.out g2 c2 z2 r2 PT2.out rfl HP0.out HZZ.out HW2.out HGS.out HAP.out HOF.out ?_; intro g3 c3 w3 r3 pt3 rr1 rr2 b3 gr3 or3; have M3 := Lib.hid (M2.out.app gr3 pt3 rr1 rr2 HGE.out HMK.out.gu_lt.2 (or3.imp (fun e => by simpa [Value.ownBlock] using e) id)); have x4 : w3.cell? ⟨g0, 4, none⟩ = some (.slice (some ⟨gu, 0, none⟩) ks.length cu) := cell4 M3.out.box; have HW3 := Lib.hid (show g0 + 1 ≤ w3.heap.size from lt_of_heap M3.out.box); have HB3 := Lib.hid (HB2.out.trans (b3.mono (Nat.le_succ g0)))) | (refine wpList_append_int2 _ _ rfl _ _ rfl (g0 + 1) (.slice (some ⟨gu, 0, none⟩) ks.length cu) ks rfl M3.out.kids rfl HKB.out HW3.out ?_; intro g4 c4 w4 own4 b4 gr4 or4; have M4 := Lib.hid (M3.out.kid own4 gr4 (or4.imp (fun e => by simpa [Value.ownBlock] using e) id)); have hb4 : w4.heap[g0]? = some (.cells #[.int .i64 n.k, .int .i64 n.op, .string n.s, .string n.t, .slice (some ⟨gu, 0, none⟩) ks.length cu] 60 (0, 0)) := (b4.block g0 (Nat.lt_succ_self g0)).trans M3.out.box; have y4 : w4.cell? ⟨g0, 4, none⟩ = some (.slice (some ⟨gu, 0, none⟩) ks.length cu) := cell4 hb4; have f4 : w4.frozen? ⟨g0, 4, none⟩ = false := frozen_of_row _ _ 4 _ _ hb4))
      go_roundw
      case rel =>
        have hbe := ((HB3.out.trans (b4.mono (Nat.le_succ g0))).setCell (p := ⟨g0, 4, none⟩) (Nat.le_refl _) (.slice (some ⟨g4, 0, none⟩) (ks.length + 1) c4))
        have hlen1 : (makeGo (ps.take J) [] []).1.length = z.length := by rw [← HZ1.out, List.length_map]
        refine ⟨J + 1, g3, c3, z ++ z2, r3, g4, c4, _, by omega, by go_num, by rw [List.length_append], M4.out, ?_, hbe⟩
        rw [HTK.out, makeGo_snoc, List.map_append, HZ2.out, ← HZ1.out, ← HK1.out, List.length_map]
        refine Prod.ext rfl ?_
        refine congrArg (fun x => ks ++ [x]) ?_
        rw [List.length_append, List.length_map, List.length_map, HZ2L.out]
        omega
      case measure => simp [intOf]; omega
    · obtain rfl : J = ps.length := by omega
      have hkv : KidV (g0 + 1) wr gu (.slice (some ⟨gu, 0, none⟩) ks.length cu) ks := by
        rcases HMK.out.kids.blkM with ⟨h, _⟩ | ⟨g, c, h, hg, hb, hm⟩
        · cases h
        · injection h with h1 _ h3
          injection h1 with h1
          injection h1 with h1 _ _
          subst h1 h3
          exact .inr ⟨_, rfl, hb, hg, hm⟩
      have HKV := Lib.hid (show KidV (g0 + 1) wr gu (.slice (some ⟨gu, 0, none⟩) ks.length cu) ({ n with kids := ks } : Nd).kids from hkv)
      have HZB := Lib.hid (show z.length ≤ 1048576 by omega)
      have HGS := Lib.hid (show g0 + 1 ≤ wr.heap.size from HGW.out)
      have HGU := Lib.hid HMK.out.gu_lt.2
      have HOF := Lib.hid (show (Value.slice (some ⟨gv, 0, none⟩) z.length cv).ownBlock ≠ some gu from fun e => by simp [Value.ownBlock] at e; exact HMK.out.ne e)
      have b0 : wr.cell? ⟨g0, 0, none⟩ = some (.int .i64 n.k) := by rw [cell_of_row _ _ 0 _ _ _ hbox]; rfl
      have b1 : wr.cell? ⟨g0, 1, none⟩ = some (.int .i64 n.op) := by rw [cell_of_row _ _ 1 _ _ _ hbox]; rfl
      have b2 : wr.cell? ⟨g0, 2, none⟩ = some (.string n.s) := by rw [cell_of_row _ _ 2 _ _ _ hbox]; rfl
      have b3 : wr.cell? ⟨g0, 3, none⟩ = some (.string n.t) := by rw [cell_of_row _ _ 3 _ _ _ hbox]; rfl
      have hj1 : ¬ (ps.length : Int) < (ps.length : Int) := by omega
      clear hkv hbox
      go_wp2_with (refine wpList_append_node _ ({ n with kids := ks } : Nd) _ rfl _ _ rfl (g0 + 1) (.slice (some ⟨gv, 0, none⟩) z.length cv) z r gu rfl HMK.out.out rfl rfl HZB.out HGS.out HKV.out HMK.out.row HGU.out HOF.out ?_; intro v' r' w4 pt4 b4' rr1 rr2)
      go_ret
      have HG := HG0.out
      refine ⟨_, _, r', rfl, ?_, pt4.up (by omega), by rw [← HG]; exact HB.out.trans (b4'.mono (Nat.le_succ g0)), fun i hi => ?_⟩
      rotate_left
      · rw [← HG]
        simp at hi
        by_cases he : i < z.length
        · rw [rr1 i he]; exact Nat.le_of_lt (HMK.out.gt i he)
        · rw [show i = z.length by omega, rr2]; exact Nat.le_of_lt HMK.out.gu_lt.1
      rw [List.map_append, HZ1.out, List.take_length, HK1.out, List.take_length]
      rfl
end Go.Proofs.YtiilpnoaocfjgaaGreatDoor.nd

namespace Go.Proofs.YtiilpnoaocfjgaaGreatDoor.draw
open Go.ChangeShapes Go.WideShapes Go.ChangeAt Go.RowKit
open nd
set_option linter.unusedVariables false

abbrev St := Nat × Int
def strCells (l : List ByteArray) : Array Value := (l.map Value.string).toArray
theorem lt_of_blk {w : World} {g : Nat} {o : Obj} (h : w.heap[g]? = some o) : g < w.heap.size := lt_of_heap h
/-- A pick. -/
def pickS (L : List ByteArray) (zs : List Int) (s : St) : ByteArray := L.getD (belowF zs L.length s).1.toNat ⟨#[]⟩
theorem pick_str {B p len cap : Nat} {w : World} {a : Option Addr} {zs : List Int} {s : Nat × Int} (q n : Nat) (L : List ByteArray) (H : In B w p a len cap zs s) (hq : w.heap[q]? = some (.cells (strCells L) 9 (0, 0))) (hL : L.length = n) (hn : 0 < n) (hqp : q ≠ p) (hn2 : n ≤ 1000) :
    Calls Tryz.prog 179 #[.pointer (some ⟨p, 0, none⟩), .slice (some ⟨q, 0, none⟩) n n] w (Out B p a len cap zs (.string (pickS L zs s)) (belowF zs n s).2 w) := by
  have HI := Lib.hid H
  clear H
  have hb := belowF_bd zs n s (by omega)
  obtain ⟨K, hK⟩ : ∃ K : Nat, (belowF zs n s).1 = K := ⟨(belowF zs n s).1.toNat, by omega⟩
  have HK := Lib.hid hK
  rw [hK] at hb
  have HQ := Lib.hid hq
  have HP := Lib.hid (show pickS L zs s = L.getD K ⟨#[]⟩ by unfold pickS; rw [hL, hK]; rfl)
  clear hq hK
  go_enter Tryz.func179, Tryz.ntmps179
  go_wp2_with fail
  refine (below_any n HI.out).mono ?_
  rintro e w1 ⟨he, I1, G1⟩
  rw [HK.out] at he
  subst he
  have HI1 := Lib.hid I1
  have hq1 : w1.heap[q]? = some (.cells (strCells L) 9 (0, 0)) := by
    have hlt : q < w.heap.size := lt_of_blk HQ.out
    rw [G1.block q hlt (by simpa using hqp)]
    exact HQ.out
  have hKL : K < L.length := by omega
  have hcell : w1.cell? ⟨q, K, none⟩ = some (.string (L.getD K ⟨#[]⟩)) := by
    rw [cell_of_row w1 q K _ _ _ hq1]
    simp [strCells, hKL]
  obtain ⟨z, hz⟩ : ∃ z, z = L.getD K ⟨#[]⟩ := ⟨_, rfl⟩
  rw [← hz] at hcell HP
  clear I1 hq1 hz
  go_wp2
  go_ret
  exact ⟨by rw [HP.out]; rfl, HI1.out, G1⟩
theorem pick_lit {B p len cap : Nat} {w : World} {a : Option Addr} {zs : List Int} {s : Nat × Int} (n : Nat) (L : List ByteArray) (H : In B w p a len cap zs s) (hL : L.length = n) (hn : 0 < n) (hn2 : n ≤ 1000) :
    Calls Tryz.prog 179 #[.pointer (some ⟨p, 0, none⟩), .slice (some ⟨w.heap.size, 0, none⟩) n n] (w.alloc (.cells (strCells L) 9)) (fun e w' => Out B p a len cap zs (.string (pickS L zs s)) (belowF zs n s).2 w e w' ∧ w.heap.size < w'.heap.size) := by
  have hlt := H.lt
  refine (pick_str w.heap.size n L (H.keep ((Below.refl w.heap.size w).alloc (Nat.le_refl _) _) hlt) (heap_alloc_new w _) hL hn (by omega) hn2).mono ?_
  rintro e w' ⟨he, hI, hG⟩
  exact ⟨⟨he, hI, grown_trans (World.grownBy_alloc w _ _) hG⟩, by have := hG.size; simp at this; omega⟩
def l2WordL : List ByteArray := [⟨#[120]⟩, ⟨#[121]⟩, ⟨#[110]⟩, ⟨#[105]⟩, ⟨#[97, 114, 114]⟩, ⟨#[78, 82]⟩, ⟨#[70, 83]⟩, ⟨#[116, 111, 116, 97, 108]⟩, ⟨#[97, 49]⟩, ⟨#[95, 116]⟩, ⟨#[99, 111, 117, 110, 116]⟩]
theorem x_l2Word {B p len cap : Nat} {w : World} {a : Option Addr} {zs : List Int} {s : Nat × Int} (H : In B w p a len cap zs s) :
    Calls Tryz.prog 178 #[.pointer (some ⟨p, 0, none⟩)] w (fun e w' => Out B p a len cap zs (.string (pickS l2WordL zs s)) (belowF zs 11 s).2 w e w' ∧ w.heap.size < w'.heap.size) := by
  have HI := Lib.hid H
  clear H
  go_enter Tryz.func178, Tryz.ntmps178
  go_wp2_with fail
  refine (pick_lit 11 l2WordL HI.out rfl (by decide) (by decide)).mono ?_
  rintro e w1 ⟨⟨rfl, I1, G1⟩, Z1⟩
  have HI1 := Lib.hid I1
  clear I1
  go_wp2
  go_ret
  exact ⟨⟨rfl, HI1.out, G1⟩, Z1⟩
def l4NumL : List ByteArray := [⟨#[48]⟩, ⟨#[49]⟩, ⟨#[52, 50]⟩, ⟨#[51, 46, 53]⟩, ⟨#[46, 53]⟩, ⟨#[55, 46]⟩, ⟨#[49, 101, 51]⟩, ⟨#[50, 69, 45, 52]⟩, ⟨#[49, 48, 46, 50, 53, 101, 43, 49]⟩]
theorem x_l4Num {B p len cap : Nat} {w : World} {a : Option Addr} {zs : List Int} {s : Nat × Int} (H : In B w p a len cap zs s) :
    Calls Tryz.prog 175 #[.pointer (some ⟨p, 0, none⟩)] w (fun e w' => Out B p a len cap zs (.string (pickS l4NumL zs s)) (belowF zs 9 s).2 w e w' ∧ w.heap.size < w'.heap.size) := by
  have HI := Lib.hid H
  clear H
  go_enter Tryz.func175, Tryz.ntmps175
  go_wp2_with fail
  refine (pick_lit 9 l4NumL HI.out rfl (by decide) (by decide)).mono ?_
  rintro e w1 ⟨⟨rfl, I1, G1⟩, Z1⟩
  have HI1 := Lib.hid I1
  clear I1
  go_wp2
  go_ret
  exact ⟨⟨rfl, HI1.out, G1⟩, Z1⟩
def l4StrL : List ByteArray := [⟨#[34, 34]⟩, ⟨#[34, 97, 34]⟩, ⟨#[34, 120, 32, 121, 34]⟩, ⟨#[34, 113, 92, 34, 113, 34]⟩, ⟨#[34, 92, 110, 34]⟩, ⟨#[34, 35, 110, 111, 34]⟩, ⟨#[34, 47, 34]⟩]
theorem x_l4Str {B p len cap : Nat} {w : World} {a : Option Addr} {zs : List Int} {s : Nat × Int} (H : In B w p a len cap zs s) :
    Calls Tryz.prog 176 #[.pointer (some ⟨p, 0, none⟩)] w (fun e w' => Out B p a len cap zs (.string (pickS l4StrL zs s)) (belowF zs 7 s).2 w e w' ∧ w.heap.size < w'.heap.size) := by
  have HI := Lib.hid H
  clear H
  go_enter Tryz.func176, Tryz.ntmps176
  go_wp2_with fail
  refine (pick_lit 7 l4StrL HI.out rfl (by decide) (by decide)).mono ?_
  rintro e w1 ⟨⟨rfl, I1, G1⟩, Z1⟩
  have HI1 := Lib.hid I1
  clear I1
  go_wp2
  go_ret
  exact ⟨⟨rfl, HI1.out, G1⟩, Z1⟩
def l4EreL : List ByteArray := [⟨#[47, 97, 47]⟩, ⟨#[47, 94, 120, 43, 36, 47]⟩, ⟨#[47, 97, 92, 47, 98, 47]⟩, ⟨#[47, 61, 47]⟩, ⟨#[47, 32, 47]⟩, ⟨#[47, 91, 48, 45, 57, 93, 47]⟩]
theorem x_l4Ere {B p len cap : Nat} {w : World} {a : Option Addr} {zs : List Int} {s : Nat × Int} (H : In B w p a len cap zs s) :
    Calls Tryz.prog 177 #[.pointer (some ⟨p, 0, none⟩)] w (fun e w' => Out B p a len cap zs (.string (pickS l4EreL zs s)) (belowF zs 6 s).2 w e w' ∧ w.heap.size < w'.heap.size) := by
  have HI := Lib.hid H
  clear H
  go_enter Tryz.func177, Tryz.ntmps177
  go_wp2_with fail
  refine (pick_lit 6 l4EreL HI.out rfl (by decide) (by decide)).mono ?_
  rintro e w1 ⟨⟨rfl, I1, G1⟩, Z1⟩
  have HI1 := Lib.hid I1
  clear I1
  go_wp2
  go_ret
  exact ⟨⟨rfl, HI1.out, G1⟩, Z1⟩

/-- A tree of one's own from S on, no part of which lies in the cursor's block p. -/
def TR (p S : Nat) (v : Value) (q : List Nd) (w : World) : Prop := p < S ∧ ∃ z r, z.map (·.1) = q ∧ PT S v z r w ∧ ∀ i (h : i < z.length), z[i].2 ≠ .slice none 0 0 → r i ≠ p
theorem pt_kept2 {B q : Nat} {v : Value} {z : List (Nd × Value)} {r : Nat → Nat} {w w' : World} (h : PT B v z r w) (hg : w.grownBy w' (some q)) (hv : v.ownBlock ≠ some q) (hr : ∀ i (h : i < z.length), z[i].2 ≠ .slice none 0 0 → r i ≠ q) : PT B v z r w' :=
  ⟨World.ownsRow.kept h.own hg (.inr hv), fun i hi => by
    rcases h.kid i hi with hk | ⟨cap, e1, e2, e3⟩
    · exact .inl hk
    · exact .inr ⟨cap, e1, e2.of_block (hg.block _ (h.lt i hi) (by simpa using hr i hi (by rw [e1]; simp))), e3⟩, h.off, h.asc, fun i hi => Nat.lt_of_lt_of_le (h.lt i hi) hg.size⟩
theorem TR.form {p S : Nat} {v : Value} {q : List Nd} {w : World} (h : TR p S v q w) : ∃ a c, v = .slice a q.length c := by
  obtain ⟨_, z, r, hz, hp, _⟩ := h
  obtain ⟨a, c, e⟩ := hp.form
  exact ⟨a, c, by rw [e, ← hz, List.length_map]⟩
theorem TR.lies {p S n c : Nat} {a : Option Addr} {q : List Nd} {w : World} (h : TR p S (.slice a n c) q w) : Lies w.heap.size w a q := by
  obtain ⟨_, z, r, hz, hp, _⟩ := h
  rw [← hz]
  exact hp.lies
theorem TR.over {p S : Nat} {v : Value} {q : List Nd} {w w' : World} (h : TR p S v q w) (hb : Below w.heap.size w w') : TR p S v q w' := by
  obtain ⟨h0, z, r, hz, hp, hr⟩ := h
  exact ⟨h0, z, r, hz, hp.keep hb (Nat.le_refl _), hr⟩
theorem TR.grown {p S : Nat} {v : Value} {q : List Nd} {w w' : World} (h : TR p S v q w) (hg : w.grownBy w' (some p)) : TR p S v q w' := by
  obtain ⟨h0, z, r, hz, hp, hr⟩ := h
  refine ⟨h0, z, r, hz, pt_kept2 hp hg (fun e => ?_) hr, hr⟩
  have := (World.ownsRow.lt hp.own p e).1
  omega
theorem TR.down {p S S' : Nat} {v : Value} {q : List Nd} {w : World} (h : TR p S v q w) (hS : S' ≤ S) (hp : p < S') : TR p S' v q w := by
  obtain ⟨h0, z, r, hz, hpt, hr⟩ := h
  exact ⟨hp, z, r, hz, hpt.up hS, hr⟩
/-- What a function that draws a tree answers: the tree q, in memory of its own; the cursor at s'. -/
def TOut (B p : Nat) (a : Option Addr) (len cap : Nat) (zs : List Int) (q : List Nd) (s' : St) (w : World) (e : Ending) (w' : World) : Prop :=
  ∃ v, e = .returned v ∧ TR p w.heap.size v q w' ∧ In B w' p a len cap zs s' ∧ w.grownBy w' (some p)
/-- One node without kids. -/
theorem PT.one {B g0 : Nat} {w : World} (hB : B ≤ w.heap.size) (hg : g0 < w.heap.size) (n : Nd) (hk : n.kids = []) : PT B (.slice (some ⟨w.heap.size, 0, none⟩) 1 1) [(n, .slice none 0 0)] (fun _ => g0) (w.alloc (.cells #[.int .i64 n.k, .int .i64 n.op, .string n.s, .string n.t, .slice none 0 0] 60)) := by
  refine ⟨World.ownsRow_lit w _ 1 hB (by unfold maxLen; omega) rfl, fun i hi => ?_, fun i hi e => ?_, fun i j hij hj => ?_, fun i hi => ?_⟩
  · simp at hi
    subst hi
    exact .inl ⟨rfl, hk⟩
  · injection e with e
    simp at e
    omega
  · simp at hj; omega
  · simp; omega
def leaf (k : Int) (x : ByteArray) : List Nd := [⟨k, 0, x, ⟨#[]⟩, []⟩]
/-- spec.l7Leaf. -/
def leafT (zs : List Int) (s : St) : List Nd × St :=
  let b := belowF zs 7 s
  match b.1.toNat with
  | 0 => (leaf 2 (pickS l4NumL zs b.2), (belowF zs 9 b.2).2)
  | 1 => (leaf 3 (pickS l4StrL zs b.2), (belowF zs 7 b.2).2)
  | 2 => if (belowF zs 2 b.2).1 = 0 then (leaf 4 (pickS l4EreL zs (belowF zs 2 b.2).2), (belowF zs 6 (belowF zs 2 b.2).2).2) else (leaf 1 (pickS l2WordL zs (belowF zs 2 b.2).2), (belowF zs 11 (belowF zs 2 b.2).2).2)
  | _ => (leaf 1 (pickS l2WordL zs b.2), (belowF zs 11 b.2).2)
theorem TOut.leaf0 {B p len cap : Nat} {a : Option Addr} {zs : List Int} {s' : St} {w w1 : World} (k : Int) (x : ByteArray) (hI : In B w1 p a len cap zs s') (hp : p < w.heap.size) (hG : w.grownBy w1 (some p)) :
    TOut B p a len cap zs (leaf k x) s' w (.returned (.slice (some ⟨w1.heap.size, 0, none⟩) 1 1)) (w1.alloc (.cells #[.int .i64 k, .int .i64 0, .string x, .string ⟨#[]⟩, .slice none 0 0] 60)) :=
  ⟨_, rfl, ⟨hp, _, _, rfl, PT.one hG.size (Nat.lt_of_lt_of_le hp hG.size) ⟨k, 0, x, ⟨#[]⟩, []⟩ rfl, fun i hi h => by simp at hi; subst hi; exact absurd rfl h⟩, hI.keep ((Below.refl w1.heap.size w1).alloc (Nat.le_refl _) _) hI.lt, grown_below hG ((Below.refl w.heap.size w1).alloc hG.size _) rfl⟩
theorem TOut.leaf {B p len cap : Nat} {a : Option Addr} {zs : List Int} {s' : St} {w w1 : World} (k : Int) (x : ByteArray) (hI : In B w1 p a len cap zs s') (hp : p < w.heap.size) (hZ : w.heap.size < w1.heap.size) (hG : w.grownBy w1 (some p)) :
    TOut B p a len cap zs (leaf k x) s' w (.returned (.slice (some ⟨w1.heap.size, 0, none⟩) 1 1)) (w1.alloc (.cells #[.int .i64 k, .int .i64 0, .string x, .string ⟨#[]⟩, .slice none 0 0] 60)) := TOut.leaf0 k x hI hp hG
set_option maxHeartbeats 3200000 in
theorem leaf_any {B p len cap : Nat} {w : World} {a : Option Addr} {zs : List Int} {s : Nat × Int} (H : In B w p a len cap zs s) :
    Calls Tryz.prog 230 #[.pointer (some ⟨p, 0, none⟩)] w (TOut B p a len cap zs (leafT zs s).1 (leafT zs s).2 w) := by
  have HI := Lib.hid H
  clear H
  have hb := belowF_bd zs 7 s (by omega)
  obtain ⟨K, hK⟩ : ∃ K : Nat, (belowF zs 7 s).1 = K := ⟨(belowF zs 7 s).1.toNat, by omega⟩
  have HK := Lib.hid hK
  rw [hK] at hb
  rcases (show K = 0 ∨ K = 1 ∨ K = 2 ∨ K = 3 ∨ K = 4 ∨ K = 5 ∨ K = 6 by omega) with rfl | rfl | rfl | rfl | rfl | rfl | rfl
  · have HQ := Lib.hid (show leafT zs s = (leaf 2 (pickS l4NumL zs (belowF zs 7 s).2), (belowF zs 9 (belowF zs 7 s).2).2) by simp only [leafT, hK]; rfl)
    clear hK
    go_enter Tryz.func230, Tryz.ntmps230
    go_wp2_with fail
    refine (below_any 7 HI.out).mono ?_
    rintro e w1 ⟨he, I1, G1⟩
    rw [HK.out] at he
    subst he
    go_wp2_with fail
    refine (x_l4Num I1).mono ?_
    rintro e w2 ⟨⟨rfl, I2, G2⟩, Z2⟩
    go_wp2
    go_ret
    rw [HQ.out]
    exact TOut.leaf 2 _ I2 HI.out.lt (Nat.lt_of_le_of_lt G1.size Z2) (grown_trans G1 G2)
  · have HQ := Lib.hid (show leafT zs s = (leaf 3 (pickS l4StrL zs (belowF zs 7 s).2), (belowF zs 7 (belowF zs 7 s).2).2) by simp only [leafT, hK]; rfl)
    clear hK
    go_enter Tryz.func230, Tryz.ntmps230
    go_wp2_with fail
    refine (below_any 7 HI.out).mono ?_
    rintro e w1 ⟨he, I1, G1⟩
    rw [HK.out] at he
    subst he
    go_wp2_with fail
    refine (x_l4Str I1).mono ?_
    rintro e w2 ⟨⟨rfl, I2, G2⟩, Z2⟩
    go_wp2
    go_ret
    rw [HQ.out]
    exact TOut.leaf 3 _ I2 HI.out.lt (Nat.lt_of_le_of_lt G1.size Z2) (grown_trans G1 G2)
  · obtain ⟨c, hc⟩ : ∃ c, c = belowF zs 2 (belowF zs 7 s).2 := ⟨_, rfl⟩
    have HC := Lib.hid hc
    have hif : leafT zs s = (if c.1 = 0 then (leaf 4 (pickS l4EreL zs c.2), (belowF zs 6 c.2).2) else (leaf 1 (pickS l2WordL zs c.2), (belowF zs 11 c.2).2)) := by simp only [leafT, hK, hc]; rfl
    by_cases hc0 : c.1 = 0
    · have HQ := Lib.hid (show leafT zs s = (leaf 4 (pickS l4EreL zs c.2), (belowF zs 6 c.2).2) from hif.trans (if_pos hc0))
      have hcb : (c.1 == 0) = true := by rw [hc0]; rfl
      clear hK hif hc0 hc
      go_enter Tryz.func230, Tryz.ntmps230
      go_wp2_with fail
      refine (below_any 7 HI.out).mono ?_
      rintro e w1 ⟨he, I1, G1⟩
      rw [HK.out] at he
      subst he
      go_wp2_with fail
      refine (once_any 2 I1).mono ?_
      rintro e w2 ⟨he, I2, G2⟩
      rw [← HC.out, hcb] at he
      rw [← HC.out] at I2
      subst he
      go_wp2_with fail
      refine (x_l4Ere I2).mono ?_
      rintro e w3 ⟨⟨rfl, I3, G3⟩, Z3⟩
      go_wp2
      go_ret
      rw [HQ.out]
      exact TOut.leaf 4 _ I3 HI.out.lt (Nat.lt_of_le_of_lt (grown_trans G1 G2).size Z3) (grown_trans (grown_trans G1 G2) G3)
    · have HQ := Lib.hid (show leafT zs s = (leaf 1 (pickS l2WordL zs c.2), (belowF zs 11 c.2).2) from hif.trans (if_neg hc0))
      have hcb : (c.1 == 0) = false := by simpa using hc0
      clear hK hif hc0 hc
      go_enter Tryz.func230, Tryz.ntmps230
      go_wp2_with fail
      refine (below_any 7 HI.out).mono ?_
      rintro e w1 ⟨he, I1, G1⟩
      rw [HK.out] at he
      subst he
      go_wp2_with fail
      refine (once_any 2 I1).mono ?_
      rintro e w2 ⟨he, I2, G2⟩
      rw [← HC.out, hcb] at he
      rw [← HC.out] at I2
      subst he
      go_wp2_with fail
      refine (x_l2Word I2).mono ?_
      rintro e w3 ⟨⟨rfl, I3, G3⟩, Z3⟩
      go_wp2
      go_ret
      rw [HQ.out]
      exact TOut.leaf 1 _ I3 HI.out.lt (Nat.lt_of_le_of_lt (grown_trans G1 G2).size Z3) (grown_trans (grown_trans G1 G2) G3)
  · have HQ := Lib.hid (show leafT zs s = (leaf 1 (pickS l2WordL zs (belowF zs 7 s).2), (belowF zs 11 (belowF zs 7 s).2).2) by simp only [leafT, hK]; rfl)
    clear hK
    go_enter Tryz.func230, Tryz.ntmps230
    go_wp2_with fail
    refine (below_any 7 HI.out).mono ?_
    rintro e w1 ⟨he, I1, G1⟩
    rw [HK.out] at he
    subst he
    go_wp2_with fail
    refine (x_l2Word I1).mono ?_
    rintro e w2 ⟨⟨rfl, I2, G2⟩, Z2⟩
    go_wp2
    go_ret
    rw [HQ.out]
    exact TOut.leaf 1 _ I2 HI.out.lt (Nat.lt_of_le_of_lt G1.size Z2) (grown_trans G1 G2)
  · have HQ := Lib.hid (show leafT zs s = (leaf 1 (pickS l2WordL zs (belowF zs 7 s).2), (belowF zs 11 (belowF zs 7 s).2).2) by simp only [leafT, hK]; rfl)
    clear hK
    go_enter Tryz.func230, Tryz.ntmps230
    go_wp2_with fail
    refine (below_any 7 HI.out).mono ?_
    rintro e w1 ⟨he, I1, G1⟩
    rw [HK.out] at he
    subst he
    go_wp2_with fail
    refine (x_l2Word I1).mono ?_
    rintro e w2 ⟨⟨rfl, I2, G2⟩, Z2⟩
    go_wp2
    go_ret
    rw [HQ.out]
    exact TOut.leaf 1 _ I2 HI.out.lt (Nat.lt_of_le_of_lt G1.size Z2) (grown_trans G1 G2)
  · have HQ := Lib.hid (show leafT zs s = (leaf 1 (pickS l2WordL zs (belowF zs 7 s).2), (belowF zs 11 (belowF zs 7 s).2).2) by simp only [leafT, hK]; rfl)
    clear hK
    go_enter Tryz.func230, Tryz.ntmps230
    go_wp2_with fail
    refine (below_any 7 HI.out).mono ?_
    rintro e w1 ⟨he, I1, G1⟩
    rw [HK.out] at he
    subst he
    go_wp2_with fail
    refine (x_l2Word I1).mono ?_
    rintro e w2 ⟨⟨rfl, I2, G2⟩, Z2⟩
    go_wp2
    go_ret
    rw [HQ.out]
    exact TOut.leaf 1 _ I2 HI.out.lt (Nat.lt_of_le_of_lt G1.size Z2) (grown_trans G1 G2)
  · have HQ := Lib.hid (show leafT zs s = (leaf 1 (pickS l2WordL zs (belowF zs 7 s).2), (belowF zs 11 (belowF zs 7 s).2).2) by simp only [leafT, hK]; rfl)
    clear hK
    go_enter Tryz.func230, Tryz.ntmps230
    go_wp2_with fail
    refine (below_any 7 HI.out).mono ?_
    rintro e w1 ⟨he, I1, G1⟩
    rw [HK.out] at he
    subst he
    go_wp2_with fail
    refine (x_l2Word I1).mono ?_
    rintro e w2 ⟨⟨rfl, I2, G2⟩, Z2⟩
    go_wp2
    go_ret
    rw [HQ.out]
    exact TOut.leaf 1 _ I2 HI.out.lt (Nat.lt_of_le_of_lt G1.size Z2) (grown_trans G1 G2)
end Go.Proofs.YtiilpnoaocfjgaaGreatDoor.draw

namespace Go.Proofs.YtiilpnoaocfjgaaGreatDoor.draw
open nd
set_option linter.unusedVariables false

/-- A source of numbers below a bound, and a node over parts. -/
structure Gen (σ T : Type) where
  bl : Nat → σ → Nat × σ
  nd : Nd → List T → T
section
variable {σ T : Type} (g : Gen σ T)
def pkG (L : List ByteArray) (s : σ) : ByteArray × σ := (L.getD (g.bl L.length s).1 ⟨#[]⟩, (g.bl L.length s).2)
def piG (L : List Int) (s : σ) : Int × σ := (L.getD (g.bl L.length s).1 0, (g.bl L.length s).2)
def nodeS (k : Int) (x : ByteArray) : Nd := ⟨k, 0, x, ⟨#[]⟩, []⟩
def nodeO (k o : Int) : Nd := ⟨k, o, ⟨#[]⟩, ⟨#[]⟩, []⟩
def wordG (s : σ) : T × σ := (g.nd (nodeS 1 (pkG g l2WordL s).1) [], (pkG g l2WordL s).2)
def leafG (s : σ) : T × σ :=
  let b := g.bl 7 s
  match b.1 with
  | 0 => (g.nd (nodeS 2 (pkG g l4NumL b.2).1) [], (pkG g l4NumL b.2).2)
  | 1 => (g.nd (nodeS 3 (pkG g l4StrL b.2).1) [], (pkG g l4StrL b.2).2)
  | 2 => if (g.bl 2 b.2).1 = 0 then (g.nd (nodeS 4 (pkG g l4EreL (g.bl 2 b.2).2).1) [], (pkG g l4EreL (g.bl 2 b.2).2).2) else wordG g (g.bl 2 b.2).2
  | _ => wordG g b.2
def timesG {T : Type} (E : σ → T × σ) : Nat → σ → List T × σ
  | 0, s => ([], s)
  | n + 1, s => ((E s).1 :: (timesG E n (E s).2).1, (timesG E n (E s).2).2)
def listG {T : Type} (g : Gen σ T) (E : σ → T × σ) (least most : Nat) (s : σ) : List T × σ := timesG E (least + (g.bl (most - least + 1) s).1) (g.bl (most - least + 1) s).2
def lvalG (E1 E2 : σ → T × σ) (s : σ) : T × σ :=
  let b := g.bl 4 s
  match b.1 with
  | 0 => (g.nd (nodeS 5 (pkG g l2WordL b.2).1) [(E1 (pkG g l2WordL b.2).2).1], (E1 (pkG g l2WordL b.2).2).2)
  | 1 => (g.nd (nodeO 6 0) [(E2 b.2).1], (E2 b.2).2)
  | _ => wordG g b.2
def l7FnL : List ByteArray := [⟨#[108, 101, 110, 103, 116, 104]⟩, ⟨#[115, 117, 98, 115, 116, 114]⟩, ⟨#[105, 110, 100, 101, 120]⟩, ⟨#[105, 110, 116]⟩, ⟨#[116, 111, 117, 112, 112, 101, 114]⟩]
def l7BinL : List Int := [60, 57, 58, 59, 55, 56, 56, 99, 99, 99, 63, 48, 47, 50, 62, 62, 49, 67, 46, 45, 44]
def stepG (E1 E2 E3 : σ → T × σ) (s : σ) : T × σ :=
  let i := g.bl 2 s
  let b := g.bl 16 i.2
  match b.1 with
  | 0 => leafG g b.2
  | 1 => lvalG g E1 E2 b.2
  | 2 => (g.nd (nodeO 6 0) [(E1 b.2).1], (E1 b.2).2)
  | 3 => let x := pkG g l2WordL b.2; let l := listG g E1 0 3 x.2; (g.nd (nodeS 7 x.1) l.1, l.2)
  | 4 => let x := pkG g l7FnL b.2; let l := listG g E2 0 3 x.2; (g.nd (nodeS 8 x.1) l.1, l.2)
  | 5 => let v := lvalG g E2 E3 b.2; (g.nd (nodeO 9 (51 + (i.1 : Int))) [v.1], v.2)
  | 6 => let v := lvalG g E2 E3 b.2; (g.nd (nodeO 10 (51 + (i.1 : Int))) [v.1], v.2)
  | 7 => let o := piG g [56, 55, 61] b.2; let e := E1 o.2; (g.nd (nodeO 11 o.1) [e.1], e.2)
  | 8 => let o := piG g [56, 55, 61] b.2; let e := E1 o.2; (g.nd (nodeO 11 o.1) [e.1], e.2)
  | 9 => let x := pkG g l2WordL b.2; let l := listG g E1 1 2 x.2; (g.nd (nodeS 13 x.1) l.1, l.2)
  | 10 => let e := E1 b.2; let e2 := E1 e.2; let e3 := E1 e2.2; (g.nd (nodeO 14 0) [e.1, e2.1, e3.1], e3.2)
  | 11 => let o := piG g [54, 38, 43] b.2; let v := lvalG g E2 E3 o.2; let e := E1 v.2; (g.nd (nodeO 15 o.1) [v.1, e.1], e.2)
  | _ => let o := piG g l7BinL b.2; let e := E1 o.2; let e2 := E1 e.2; (g.nd (nodeO 12 o.1) [e.1, e2.1], e2.2)
/-- Expressions of depth d, d - 1 and d - 2. -/
def exprs : Nat → (σ → T × σ) × (σ → T × σ) × (σ → T × σ)
  | 0 => (leafG g, leafG g, leafG g)
  | d + 1 => (stepG g (exprs d).1 (exprs d).2.1 (exprs d).2.2, (exprs d).1, (exprs d).2.1)
def exprG (d : Nat) (s : σ) : T × σ := (exprs g d).1 s
def maybeG (E : σ → T × σ) (s : σ) : T × σ := if (g.bl 3 s).1 = 0 then (g.nd (nodeO 16 0) [], (g.bl 3 s).2) else E (g.bl 3 s).2
def l7OutL : List ByteArray := [⟨#[62]⟩, ⟨#[62, 62]⟩, ⟨#[124]⟩]
def l7NoteL : List ByteArray := [⟨#[35]⟩, ⟨#[35, 32, 110, 111, 116, 101]⟩, ⟨#[35, 120, 32, 61, 32, 49]⟩]
def simpleG (E0 E1 : σ → T × σ) (s : σ) : T × σ :=
  let b := g.bl 9 s
  let pr := fun (u : σ) =>
    let o := g.bl 2 u
    let l := listG g E0 o.1 3 o.2
    let c := g.bl 3 l.2
    if c.1 = 0 then
      let x := pkG g l7OutL c.2
      let e := E1 x.2
      (g.nd ⟨21, (o.1 : Int), ⟨#[]⟩, x.1, []⟩ (l.1 ++ [e.1]), e.2)
    else (g.nd (nodeO 21 (o.1 : Int)) l.1, c.2)
  match b.1 with
  | 0 => pr b.2
  | 1 => pr b.2
  | 2 => let o := piG g [22, 25, 26] b.2; (g.nd (nodeO o.1 0) [], o.2)
  | 3 => let o := piG g [23, 24] b.2; let l := listG g E0 0 1 o.2; (g.nd (nodeO o.1 0) l.1, l.2)
  | 4 => let x := pkG g l2WordL b.2; let l := listG g E1 0 2 x.2; (g.nd (nodeS 27 x.1) l.1, l.2)
  | 5 => if (g.bl 2 b.2).1 = 0 then (let x := pkG g l7NoteL (g.bl 2 b.2).2; (g.nd (nodeS 34 x.1) [], x.2)) else (let e := E0 (g.bl 2 b.2).2; (g.nd (nodeO 20 0) [e.1], e.2))
  | _ => let e := E0 b.2; (g.nd (nodeO 20 0) [e.1], e.2)
def blockG (S : σ → T × σ) (s : σ) : T × σ := (g.nd (nodeO 33 0) (timesG S (g.bl 3 s).1 (g.bl 3 s).2).1, (timesG S (g.bl 3 s).1 (g.bl 3 s).2).2)
def compG (A1 A2 B : σ → T × σ) (s : σ) : T × σ :=
  let b := g.bl 6 s
  match b.1 with
  | 0 => let e := A1 b.2; let k := B e.2; (g.nd (nodeO 28 0) [e.1, k.1], k.2)
  | 1 => let e := A1 b.2; let k := B e.2; let j := B k.2; (g.nd (nodeO 28 0) [e.1, k.1, j.1], j.2)
  | 2 => let e := A1 b.2; let k := B e.2; (g.nd (nodeO 29 0) [e.1, k.1], k.2)
  | 3 => let k := B b.2; let e := A1 k.2; (g.nd (nodeO 30 0) [k.1, e.1], e.2)
  | 4 => let x := maybeG g A2 b.2; let y := maybeG g A1 x.2; let z := maybeG g A1 y.2; let k := B z.2; (g.nd (nodeO 31 0) [x.1, y.1, z.1, k.1], k.2)
  | _ => if (g.bl 2 b.2).1 = 0 then B (g.bl 2 b.2).2 else (let x := pkG g l2WordL (g.bl 2 b.2).2; let y := pkG g l2WordL x.2; let k := B y.2; (g.nd ⟨32, 0, x.1, y.1, []⟩ [k.1], k.2))
def stmtG : Nat → σ → T × σ
  | 0, s => simpleG g (exprG g 0) (exprG g 0) s
  | d + 1, s => if (g.bl 3 s).1 = 0 then compG g (exprG g 1) (exprG g 2) (blockG g (stmtG d)) (g.bl 3 s).2 else simpleG g (exprG g (min (d + 1) 2)) (exprG g (min (d + 1) 2 - 1)) (g.bl 3 s).2
def l7NameL : List ByteArray := [⟨#[102]⟩, ⟨#[103]⟩, ⟨#[109, 97, 120]⟩]
def l7TopL : List ByteArray := [⟨#[35, 32, 116, 111, 112]⟩, ⟨#[35]⟩]
def itemG (s : σ) : T × σ :=
  let d := 1 + (g.bl 2 s).1
  let b := g.bl 8 (g.bl 2 s).2
  let E := exprG g d
  let B := blockG g (stmtG g d)
  match b.1 with
  | 0 => let o := g.bl 2 b.2; let k := B o.2; (g.nd (nodeO (40 + (o.1 : Int)) 0) [k.1], k.2)
  | 1 => let e := E b.2; (g.nd (nodeO 42 1) [e.1], e.2)
  | 2 => let k := B b.2; (g.nd (nodeO 42 2) [k.1], k.2)
  | 3 => let e := exprG g 1 b.2; let f := exprG g 1 e.2; (g.nd (nodeO 43 1) [e.1, f.1], f.2)
  | 4 => let e := exprG g 1 b.2; let f := exprG g 1 e.2; let k := B f.2; (g.nd (nodeO 43 3) [e.1, f.1, k.1], k.2)
  | 5 => let n := g.bl 3 b.2; let l := timesG (wordG g) n.1 n.2; let x := pkG g l7NameL l.2; let k := B x.2; (g.nd (nodeS 44 x.1) (l.1 ++ [k.1]), k.2)
  | 6 => let x := pkG g l7TopL b.2; (g.nd (nodeS 34 x.1) [], x.2)
  | _ => let e := E b.2; let k := B e.2; (g.nd (nodeO 42 3) [e.1, k.1], k.2)
/-- One round of the loops. -/
def progG (s : σ) : T × σ := (g.nd (nodeO 45 0) (timesG (itemG g) (g.bl 4 s).1 (g.bl 4 s).2).1, (timesG (itemG g) (g.bl 4 s).1 (g.bl 4 s).2).2)
def someG (s : σ) : T × σ := exprG g (1 + (g.bl 4 s).1) (g.bl 4 s).2
end

/-! ### Two in step -/
section
variable {σ T σ' T' : Type} {g : Gen σ T} {g' : Gen σ' T'} {R : σ → σ' → Prop} {Q : T → T' → Prop}
def InStep (R : σ → σ' → Prop) (Q : T → T' → Prop) (x : T × σ) (y : T' × σ') : Prop := Q x.1 y.1 ∧ R x.2 y.2
inductive All2 (Q : T → T' → Prop) : List T → List T' → Prop
  | nil : All2 Q [] []
  | cons {a b l k} : Q a b → All2 Q l k → All2 Q (a :: l) (b :: k)
theorem All2.snoc {l : List T} {k : List T'} (h : All2 Q l k) {a : T} {b : T'} (hq : Q a b) : All2 Q (l ++ [a]) (k ++ [b]) := by
  induction h with
  | nil => exact .cons hq .nil
  | cons h1 _ ih => exact .cons h1 ih
def Fn (R : σ → σ' → Prop) (Q : T → T' → Prop) (E : σ → T × σ) (E' : σ' → T' × σ') : Prop := ∀ s u, R s u → InStep R Q (E s) (E' u)
structure Step (g : Gen σ T) (g' : Gen σ' T') (R : σ → σ' → Prop) (Q : T → T' → Prop) : Prop where
  bl : ∀ n s u, 0 < n → n ≤ 256 → R s u → (g.bl n s).1 = (g'.bl n u).1 ∧ R (g.bl n s).2 (g'.bl n u).2
  nd : ∀ n l k, All2 Q l k → Q (g.nd n l) (g'.nd n k)
variable (H : Step g g' R Q)
include H
theorem Step.pk {L : List ByteArray} (h0 : 0 < L.length) (h1 : L.length ≤ 256) {s : σ} {u : σ'} (h : R s u) : (pkG g L s).1 = (pkG g' L u).1 ∧ R (pkG g L s).2 (pkG g' L u).2 := by
  obtain ⟨e, r⟩ := H.bl _ s u h0 h1 h
  exact ⟨by unfold pkG; rw [e], r⟩
theorem Step.pi {L : List Int} (h0 : 0 < L.length) (h1 : L.length ≤ 256) {s : σ} {u : σ'} (h : R s u) : (piG g L s).1 = (piG g' L u).1 ∧ R (piG g L s).2 (piG g' L u).2 := by
  obtain ⟨e, r⟩ := H.bl _ s u h0 h1 h
  exact ⟨by unfold piG; rw [e], r⟩
theorem Step.word : Fn R Q (wordG g) (wordG g') := by
  intro s u h
  obtain ⟨e, r⟩ := H.pk (L := l2WordL) (by decide) (by decide) h
  unfold wordG
  rw [e]
  exact ⟨H.nd _ _ _ .nil, r⟩
omit H in
theorem times_two {E : σ → T × σ} {E' : σ' → T' × σ'} (hE : Fn R Q E E') : ∀ n s u, R s u → All2 Q (timesG E n s).1 (timesG E' n u).1 ∧ R (timesG E n s).2 (timesG E' n u).2 := by
  intro n
  induction n with
  | zero => intro s u h; exact ⟨.nil, h⟩
  | succ n ih =>
    intro s u h
    obtain ⟨q, r⟩ := hE s u h
    obtain ⟨q2, r2⟩ := ih _ _ r
    exact ⟨.cons q q2, r2⟩
theorem Step.list {E : σ → T × σ} {E' : σ' → T' × σ'} (hE : Fn R Q E E') (least most : Nat) (hm : most ≤ 200) {s : σ} {u : σ'} (h : R s u) : All2 Q (listG g E least most s).1 (listG g' E' least most u).1 ∧ R (listG g E least most s).2 (listG g' E' least most u).2 := by
  obtain ⟨e, r⟩ := H.bl (most - least + 1) s u (by omega) (by omega) h
  unfold listG
  rw [e]
  exact times_two hE _ _ _ r
end
end Go.Proofs.YtiilpnoaocfjgaaGreatDoor.draw

namespace Go.Proofs.YtiilpnoaocfjgaaGreatDoor.draw
open nd
set_option linter.unusedVariables false
section
variable {σ T σ' T' : Type} {g : Gen σ T} {g' : Gen σ' T'} {R : σ → σ' → Prop} {Q : T → T' → Prop}
theorem All2.one {a : T} {b : T'} (h : Q a b) : All2 Q [a] [b] := .cons h .nil
theorem All2.two {a c : T} {b d : T'} (h : Q a b) (h2 : Q c d) : All2 Q [a, c] [b, d] := .cons h (.cons h2 .nil)
theorem All2.three {a c e : T} {b d f : T'} (h : Q a b) (h2 : Q c d) (h3 : Q e f) : All2 Q [a, c, e] [b, d, f] := .cons h (.cons h2 (.cons h3 .nil))
theorem All2.four {a c e x : T} {b d f y : T'} (h : Q a b) (h2 : Q c d) (h3 : Q e f) (h4 : Q x y) : All2 Q [a, c, e, x] [b, d, f, y] := .cons h (.cons h2 (.cons h3 (.cons h4 .nil)))
variable (H : Step g g' R Q)
include H
theorem Step.node {n n' : Nd} {l : List T} {k : List T'} {s : σ} {u : σ'} (hn : n = n') (hl : All2 Q l k) (hr : R s u) : InStep R Q (g.nd n l, s) (g'.nd n' k, u) := by
  subst hn
  exact ⟨H.nd _ _ _ hl, hr⟩
theorem Step.leaf : Fn R Q (leafG g) (leafG g') := by
  intro s u h
  obtain ⟨e, r⟩ := H.bl 7 s u (by decide) (by decide) h
  unfold leafG
  dsimp only
  rw [e]
  generalize (g'.bl 7 u).1 = b
  rcases b with _ | _ | _ | b
  · obtain ⟨e1, r1⟩ := H.pk (L := l4NumL) (by decide) (by decide) r
    exact H.node (congrArg (nodeS 2) e1) .nil r1
  · obtain ⟨e1, r1⟩ := H.pk (L := l4StrL) (by decide) (by decide) r
    exact H.node (congrArg (nodeS 3) e1) .nil r1
  · obtain ⟨e1, r1⟩ := H.bl 2 _ _ (by decide) (by decide) r
    obtain ⟨e2, r2⟩ := H.pk (L := l4EreL) (by decide) (by decide) r1
    (try dsimp only)
    rw [e1]
    by_cases hc : (g'.bl 2 (g'.bl 7 u).2).1 = 0
    · rw [if_pos hc, if_pos hc]
      exact H.node (congrArg (nodeS 4) e2) .nil r2
    · rw [if_neg hc, if_neg hc]
      exact H.word _ _ r1
  · exact H.word _ _ r
theorem Step.lval {E1 E2 : σ → T × σ} {F1 F2 : σ' → T' × σ'} (h1 : Fn R Q E1 F1) (h2 : Fn R Q E2 F2) : Fn R Q (lvalG g E1 E2) (lvalG g' F1 F2) := by
  intro s u h
  obtain ⟨e, r⟩ := H.bl 4 s u (by decide) (by decide) h
  unfold lvalG
  dsimp only
  rw [e]
  generalize (g'.bl 4 u).1 = b
  rcases b with _ | _ | b
  · obtain ⟨e1, r1⟩ := H.pk (L := l2WordL) (by decide) (by decide) r
    obtain ⟨q2, r2⟩ := h1 _ _ r1
    exact H.node (congrArg (nodeS 5) e1) (.one q2) r2
  · obtain ⟨q2, r2⟩ := h2 _ _ r
    exact H.node rfl (.one q2) r2
  · exact H.word _ _ r
theorem Step.step {E1 E2 E3 : σ → T × σ} {F1 F2 F3 : σ' → T' × σ'} (h1 : Fn R Q E1 F1) (h2 : Fn R Q E2 F2) (h3 : Fn R Q E3 F3) : Fn R Q (stepG g E1 E2 E3) (stepG g' F1 F2 F3) := by
  intro s u h
  obtain ⟨ei, ri⟩ := H.bl 2 s u (by decide) (by decide) h
  obtain ⟨e, r⟩ := H.bl 16 _ _ (by decide) (by decide) ri
  unfold stepG
  dsimp only
  rw [e, ei]
  generalize (g'.bl 16 (g'.bl 2 u).2).1 = b
  rcases b with _ | _ | _ | _ | _ | _ | _ | _ | _ | _ | _ | _ | b
  · exact H.leaf _ _ r
  · exact H.lval h1 h2 _ _ r
  · obtain ⟨q2, r2⟩ := h1 _ _ r
    exact H.node rfl (.one q2) r2
  · obtain ⟨e1, r1⟩ := H.pk (L := l2WordL) (by decide) (by decide) r
    obtain ⟨q2, r2⟩ := H.list h1 0 3 (by decide) r1
    exact H.node (congrArg (nodeS 7) e1) q2 r2
  · obtain ⟨e1, r1⟩ := H.pk (L := l7FnL) (by decide) (by decide) r
    obtain ⟨q2, r2⟩ := H.list h2 0 3 (by decide) r1
    exact H.node (congrArg (nodeS 8) e1) q2 r2
  · obtain ⟨q2, r2⟩ := H.lval h2 h3 _ _ r
    exact H.node rfl (.one q2) r2
  · obtain ⟨q2, r2⟩ := H.lval h2 h3 _ _ r
    exact H.node rfl (.one q2) r2
  · obtain ⟨e1, r1⟩ := H.pi (L := [56, 55, 61]) (by decide) (by decide) r
    obtain ⟨q2, r2⟩ := h1 _ _ r1
    exact H.node (congrArg (nodeO 11) e1) (.one q2) r2
  · obtain ⟨e1, r1⟩ := H.pi (L := [56, 55, 61]) (by decide) (by decide) r
    obtain ⟨q2, r2⟩ := h1 _ _ r1
    exact H.node (congrArg (nodeO 11) e1) (.one q2) r2
  · obtain ⟨e1, r1⟩ := H.pk (L := l2WordL) (by decide) (by decide) r
    obtain ⟨q2, r2⟩ := H.list h1 1 2 (by decide) r1
    exact H.node (congrArg (nodeS 13) e1) q2 r2
  · obtain ⟨q1, r1⟩ := h1 _ _ r
    obtain ⟨q2, r2⟩ := h1 _ _ r1
    obtain ⟨q3, r3⟩ := h1 _ _ r2
    exact H.node rfl (.three q1 q2 q3) r3
  · obtain ⟨e1, r1⟩ := H.pi (L := [54, 38, 43]) (by decide) (by decide) r
    obtain ⟨q2, r2⟩ := H.lval h2 h3 _ _ r1
    obtain ⟨q3, r3⟩ := h1 _ _ r2
    exact H.node (congrArg (nodeO 15) e1) (.two q2 q3) r3
  · obtain ⟨e1, r1⟩ := H.pi (L := l7BinL) (by decide) (by decide) r
    obtain ⟨q2, r2⟩ := h1 _ _ r1
    obtain ⟨q3, r3⟩ := h1 _ _ r2
    exact H.node (congrArg (nodeO 12) e1) (.two q2 q3) r3
theorem Step.exprs : ∀ d, Fn R Q (exprs g d).1 (exprs g' d).1 ∧ Fn R Q (exprs g d).2.1 (exprs g' d).2.1 ∧ Fn R Q (exprs g d).2.2 (exprs g' d).2.2 := by
  intro d
  induction d with
  | zero => exact ⟨H.leaf, H.leaf, H.leaf⟩
  | succ d ih => exact ⟨H.step ih.1 ih.2.1 ih.2.2, ih.1, ih.2.1⟩
theorem Step.expr (d : Nat) : Fn R Q (exprG g d) (exprG g' d) := (H.exprs d).1
theorem Step.maybe {E : σ → T × σ} {F : σ' → T' × σ'} (h1 : Fn R Q E F) : Fn R Q (maybeG g E) (maybeG g' F) := by
  intro s u h
  obtain ⟨e, r⟩ := H.bl 3 s u (by decide) (by decide) h
  unfold maybeG
  rw [e]
  by_cases hc : (g'.bl 3 u).1 = 0
  · rw [if_pos hc, if_pos hc]
    exact H.node rfl .nil r
  · rw [if_neg hc, if_neg hc]
    exact h1 _ _ r
theorem Step.simple {E0 E1 : σ → T × σ} {F0 F1 : σ' → T' × σ'} (h0 : Fn R Q E0 F0) (h1 : Fn R Q E1 F1) : Fn R Q (simpleG g E0 E1) (simpleG g' F0 F1) := by
  intro s u h
  obtain ⟨e, r⟩ := H.bl 9 s u (by decide) (by decide) h
  have pr : ∀ (x : σ) (y : σ'), R x y → InStep R Q
      (if (g.bl 3 (listG g E0 (g.bl 2 x).1 3 (g.bl 2 x).2).2).1 = 0 then
        (g.nd ⟨21, ((g.bl 2 x).1 : Int), ⟨#[]⟩, (pkG g l7OutL (g.bl 3 (listG g E0 (g.bl 2 x).1 3 (g.bl 2 x).2).2).2).1, []⟩ ((listG g E0 (g.bl 2 x).1 3 (g.bl 2 x).2).1 ++ [(E1 (pkG g l7OutL (g.bl 3 (listG g E0 (g.bl 2 x).1 3 (g.bl 2 x).2).2).2).2).1]), (E1 (pkG g l7OutL (g.bl 3 (listG g E0 (g.bl 2 x).1 3 (g.bl 2 x).2).2).2).2).2)
       else (g.nd (nodeO 21 ((g.bl 2 x).1 : Int)) (listG g E0 (g.bl 2 x).1 3 (g.bl 2 x).2).1, (g.bl 3 (listG g E0 (g.bl 2 x).1 3 (g.bl 2 x).2).2).2))
      (if (g'.bl 3 (listG g' F0 (g'.bl 2 y).1 3 (g'.bl 2 y).2).2).1 = 0 then
        (g'.nd ⟨21, ((g'.bl 2 y).1 : Int), ⟨#[]⟩, (pkG g' l7OutL (g'.bl 3 (listG g' F0 (g'.bl 2 y).1 3 (g'.bl 2 y).2).2).2).1, []⟩ ((listG g' F0 (g'.bl 2 y).1 3 (g'.bl 2 y).2).1 ++ [(F1 (pkG g' l7OutL (g'.bl 3 (listG g' F0 (g'.bl 2 y).1 3 (g'.bl 2 y).2).2).2).2).1]), (F1 (pkG g' l7OutL (g'.bl 3 (listG g' F0 (g'.bl 2 y).1 3 (g'.bl 2 y).2).2).2).2).2)
       else (g'.nd (nodeO 21 ((g'.bl 2 y).1 : Int)) (listG g' F0 (g'.bl 2 y).1 3 (g'.bl 2 y).2).1, (g'.bl 3 (listG g' F0 (g'.bl 2 y).1 3 (g'.bl 2 y).2).2).2)) := by
    intro x y hxy
    obtain ⟨e1, r1⟩ := H.bl 2 x y (by decide) (by decide) hxy
    rw [e1]
    obtain ⟨q2, r2⟩ := H.list h0 (g'.bl 2 y).1 3 (by decide) r1
    obtain ⟨e3, r3⟩ := H.bl 3 _ _ (by decide) (by decide) r2
    rw [e3]
    by_cases hc : (g'.bl 3 (listG g' F0 (g'.bl 2 y).1 3 (g'.bl 2 y).2).2).1 = 0
    · rw [if_pos hc, if_pos hc]
      obtain ⟨e4, r4⟩ := H.pk (L := l7OutL) (by decide) (by decide) r3
      obtain ⟨q5, r5⟩ := h1 _ _ r4
      exact H.node (congrArg (fun z => (⟨21, ((g'.bl 2 y).1 : Int), ⟨#[]⟩, z, []⟩ : Nd)) e4) (q2.snoc q5) r5
    · rw [if_neg hc, if_neg hc]
      exact H.node rfl q2 r3
  unfold simpleG
  dsimp only
  rw [e]
  generalize (g'.bl 9 u).1 = b
  rcases b with _ | _ | _ | _ | _ | _ | b
  · exact pr _ _ r
  · exact pr _ _ r
  · obtain ⟨e1, r1⟩ := H.pi (L := [22, 25, 26]) (by decide) (by decide) r
    exact H.node (congrArg (fun z => nodeO z 0) e1) .nil r1
  · obtain ⟨e1, r1⟩ := H.pi (L := [23, 24]) (by decide) (by decide) r
    obtain ⟨q2, r2⟩ := H.list h0 0 1 (by decide) r1
    exact H.node (congrArg (fun z => nodeO z 0) e1) q2 r2
  · obtain ⟨e1, r1⟩ := H.pk (L := l2WordL) (by decide) (by decide) r
    obtain ⟨q2, r2⟩ := H.list h1 0 2 (by decide) r1
    exact H.node (congrArg (nodeS 27) e1) q2 r2
  · obtain ⟨e1, r1⟩ := H.bl 2 _ _ (by decide) (by decide) r
    (try dsimp only)
    rw [e1]
    by_cases hc : (g'.bl 2 (g'.bl 9 u).2).1 = 0
    · rw [if_pos hc, if_pos hc]
      obtain ⟨e2, r2⟩ := H.pk (L := l7NoteL) (by decide) (by decide) r1
      exact H.node (congrArg (nodeS 34) e2) .nil r2
    · rw [if_neg hc, if_neg hc]
      obtain ⟨q2, r2⟩ := h0 _ _ r1
      exact H.node rfl (.one q2) r2
  · obtain ⟨q2, r2⟩ := h0 _ _ r
    exact H.node rfl (.one q2) r2
theorem Step.block {S : σ → T × σ} {S' : σ' → T' × σ'} (h1 : Fn R Q S S') : Fn R Q (blockG g S) (blockG g' S') := by
  intro s u h
  obtain ⟨e, r⟩ := H.bl 3 s u (by decide) (by decide) h
  unfold blockG
  rw [e]
  obtain ⟨q, r2⟩ := times_two h1 (g'.bl 3 u).1 _ _ r
  exact H.node rfl q r2
theorem Step.comp {A1 A2 B : σ → T × σ} {A1' A2' B' : σ' → T' × σ'} (h1 : Fn R Q A1 A1') (h2 : Fn R Q A2 A2') (hb : Fn R Q B B') : Fn R Q (compG g A1 A2 B) (compG g' A1' A2' B') := by
  intro s u h
  obtain ⟨e, r⟩ := H.bl 6 s u (by decide) (by decide) h
  unfold compG
  dsimp only
  rw [e]
  generalize (g'.bl 6 u).1 = b
  rcases b with _ | _ | _ | _ | _ | b
  · obtain ⟨q1, r1⟩ := h1 _ _ r
    obtain ⟨q2, r2⟩ := hb _ _ r1
    exact H.node rfl (.two q1 q2) r2
  · obtain ⟨q1, r1⟩ := h1 _ _ r
    obtain ⟨q2, r2⟩ := hb _ _ r1
    obtain ⟨q3, r3⟩ := hb _ _ r2
    exact H.node rfl (.three q1 q2 q3) r3
  · obtain ⟨q1, r1⟩ := h1 _ _ r
    obtain ⟨q2, r2⟩ := hb _ _ r1
    exact H.node rfl (.two q1 q2) r2
  · obtain ⟨q1, r1⟩ := hb _ _ r
    obtain ⟨q2, r2⟩ := h1 _ _ r1
    exact H.node rfl (.two q1 q2) r2
  · obtain ⟨q1, r1⟩ := H.maybe h2 _ _ r
    obtain ⟨q2, r2⟩ := H.maybe h1 _ _ r1
    obtain ⟨q3, r3⟩ := H.maybe h1 _ _ r2
    obtain ⟨q4, r4⟩ := hb _ _ r3
    exact H.node rfl (.four q1 q2 q3 q4) r4
  · obtain ⟨e1, r1⟩ := H.bl 2 _ _ (by decide) (by decide) r
    (try dsimp only)
    rw [e1]
    by_cases hc : (g'.bl 2 (g'.bl 6 u).2).1 = 0
    · rw [if_pos hc, if_pos hc]
      exact hb _ _ r1
    · rw [if_neg hc, if_neg hc]
      obtain ⟨e2, r2⟩ := H.pk (L := l2WordL) (by decide) (by decide) r1
      obtain ⟨e3, r3⟩ := H.pk (L := l2WordL) (by decide) (by decide) r2
      obtain ⟨q4, r4⟩ := hb _ _ r3
      exact H.node (by rw [e2, e3]) (.one q4) r4
theorem Step.stmt : ∀ d, Fn R Q (stmtG g d) (stmtG g' d) := by
  intro d
  induction d with
  | zero => exact H.simple (H.expr 0) (H.expr 0)
  | succ d ih =>
    intro s u h
    obtain ⟨e, r⟩ := H.bl 3 s u (by decide) (by decide) h
    unfold stmtG
    rw [e]
    by_cases hc : (g'.bl 3 u).1 = 0
    · rw [if_pos hc, if_pos hc]
      exact H.comp (H.expr 1) (H.expr 2) (H.block ih) _ _ r
    · rw [if_neg hc, if_neg hc]
      exact H.simple (H.expr _) (H.expr _) _ _ r
theorem Step.item : Fn R Q (itemG g) (itemG g') := by
  intro s u h
  obtain ⟨ed, rd⟩ := H.bl 2 s u (by decide) (by decide) h
  obtain ⟨e, r⟩ := H.bl 8 _ _ (by decide) (by decide) rd
  have hE := H.expr (1 + (g'.bl 2 u).1)
  have hB := H.block (H.stmt (1 + (g'.bl 2 u).1))
  unfold itemG
  dsimp only
  rw [e, ed]
  generalize (g'.bl 8 (g'.bl 2 u).2).1 = b
  rcases b with _ | _ | _ | _ | _ | _ | _ | b
  · obtain ⟨e1, r1⟩ := H.bl 2 _ _ (by decide) (by decide) r
    obtain ⟨q2, r2⟩ := hB _ _ r1
    exact H.node (congrArg (fun z : Nat => nodeO (40 + (z : Int)) 0) e1) (.one q2) r2
  · obtain ⟨q1, r1⟩ := hE _ _ r
    exact H.node rfl (.one q1) r1
  · obtain ⟨q1, r1⟩ := hB _ _ r
    exact H.node rfl (.one q1) r1
  · obtain ⟨q1, r1⟩ := H.expr 1 _ _ r
    obtain ⟨q2, r2⟩ := H.expr 1 _ _ r1
    exact H.node rfl (.two q1 q2) r2
  · obtain ⟨q1, r1⟩ := H.expr 1 _ _ r
    obtain ⟨q2, r2⟩ := H.expr 1 _ _ r1
    obtain ⟨q3, r3⟩ := hB _ _ r2
    exact H.node rfl (.three q1 q2 q3) r3
  · obtain ⟨e1, r1⟩ := H.bl 3 _ _ (by decide) (by decide) r
    (try dsimp only)
    rw [e1]
    obtain ⟨q2, r2⟩ := times_two H.word (g'.bl 3 (g'.bl 8 (g'.bl 2 u).2).2).1 _ _ r1
    obtain ⟨e3, r3⟩ := H.pk (L := l7NameL) (by decide) (by decide) r2
    obtain ⟨q4, r4⟩ := hB _ _ r3
    exact H.node (congrArg (nodeS 44) e3) (q2.snoc q4) r4
  · obtain ⟨e1, r1⟩ := H.pk (L := l7TopL) (by decide) (by decide) r
    exact H.node (congrArg (nodeS 34) e1) .nil r1
  · obtain ⟨q1, r1⟩ := hE _ _ r
    obtain ⟨q2, r2⟩ := hB _ _ r1
    exact H.node rfl (.two q1 q2) r2
theorem Step.prog : Fn R Q (progG g) (progG g') := by
  intro s u h
  obtain ⟨e, r⟩ := H.bl 4 s u (by decide) (by decide) h
  unfold progG
  rw [e]
  obtain ⟨q, r2⟩ := times_two H.item (g'.bl 4 u).1 _ _ r
  exact H.node rfl q r2
theorem Step.some : Fn R Q (someG g) (someG g') := by
  intro s u h
  obtain ⟨e, r⟩ := H.bl 4 s u (by decide) (by decide) h
  unfold someG
  rw [e]
  exact H.expr _ _ _ r
end
end Go.Proofs.YtiilpnoaocfjgaaGreatDoor.draw

namespace Go.Proofs.YtiilpnoaocfjgaaGreatDoor.lcg
set_option linter.unusedVariables false

/-- A step again and again. -/
def it (f : Nat → Nat) : Nat → Nat → Nat
  | 0, u => u
  | n + 1, u => it f n (f u)
theorem it_add (f : Nat → Nat) : ∀ (m n u : Nat), it f (m + n) u = it f n (it f m u) := by
  intro m
  induction m with
  | zero => intro n u; rw [Nat.zero_add]; rfl
  | succ m ih => intro n u; rw [Nat.succ_add]; exact ih n (f u)
theorem it_lt (f : Nat → Nat) (m : Nat) (hf : ∀ u, f u < m) : ∀ (n u : Nat), u < m → it f n u < m := by
  intro n
  induction n with
  | zero => intro u h; exact h
  | succ n ih => intro u h; exact ih _ (hf u)
/-- A step of 2^k at once: the factor and the summand. -/
def AC (a c m : Nat) : Nat → Nat × Nat
  | 0 => (a, c)
  | k + 1 => ((AC a c m k).1 * (AC a c m k).1 % m, ((AC a c m k).1 * (AC a c m k).2 + (AC a c m k).2) % m)
theorem it_pow (f : Nat → Nat) (a c m : Nat) (hf : ∀ u, f u = (u * a + c) % m) : ∀ (k u : Nat), it f (2 ^ k) u = (u * (AC a c m k).1 + (AC a c m k).2) % m := by
  intro k
  induction k with
  | zero => intro u; exact hf u
  | succ k ih =>
    intro u
    rw [Nat.pow_succ, Nat.mul_two, it_add, ih, ih]
    simp only [AC]
    generalize (AC a c m k).1 = A
    generalize (AC a c m k).2 = C
    rw [Nat.add_mod, Nat.mul_mod, Nat.mod_mod, ← Nat.mul_mod, ← Nat.add_mod]
    rw [Nat.add_mod (u * _), Nat.mul_mod u, Nat.mod_mod, ← Nat.mul_mod, Nat.mod_mod, ← Nat.add_mod]
    congr 1
    rw [Nat.add_mul, Nat.mul_assoc, Nat.mul_comm C A, Nat.add_assoc]
/-- Of the factors and summands: each 2^k-fold step turns bit k and keeps what lies below. -/
def Odd (a c m : Nat) : Prop := ∀ k, k < 64 → (AC a c m k).1 % 2 ^ (k + 1) = 1 ∧ (AC a c m k).2 % 2 ^ (k + 1) = 2 ^ k
section
variable (f : Nat → Nat) (a c m : Nat) (hf : ∀ u, f u = (u * a + c) % m) (hm : m = 2 ^ 64) (ho : Odd a c m)
include hf hm ho
theorem reach_bit (k u t : Nat) (hk : k < 64) (h : u % 2 ^ k = t % 2 ^ k) : ∃ n, it f n u % 2 ^ (k + 1) = t % 2 ^ (k + 1) := by
  by_cases he : u % 2 ^ (k + 1) = t % 2 ^ (k + 1)
  · exact ⟨0, he⟩
  · refine ⟨2 ^ k, ?_⟩
    obtain ⟨h1, h2⟩ := ho k hk
    have hd : 2 ^ (k + 1) ∣ m := ⟨2 ^ (63 - k), by rw [hm, ← Nat.pow_add, show k + 1 + (63 - k) = 64 by omega]⟩
    rw [it_pow f a c m hf, Nat.mod_mod_of_dvd _ hd, Nat.add_mod, Nat.mul_mod, h1, h2, Nat.mul_one, Nat.mod_mod]
    have hp : 2 ^ (k + 1) = 2 * 2 ^ k := by rw [Nat.pow_succ, Nat.mul_comm]
    have hu : u % 2 ^ (k + 1) % 2 ^ k = u % 2 ^ k := Nat.mod_mod_of_dvd _ ⟨2, by rw [hp, Nat.mul_comm]⟩
    have ht : t % 2 ^ (k + 1) % 2 ^ k = t % 2 ^ k := Nat.mod_mod_of_dvd _ ⟨2, by rw [hp, Nat.mul_comm]⟩
    clear h1 h2 hd hf ho hm
    have bu : u % 2 ^ (k + 1) < 2 ^ (k + 1) := Nat.mod_lt _ (Nat.two_pow_pos _)
    have bt : t % 2 ^ (k + 1) < 2 ^ (k + 1) := Nat.mod_lt _ (Nat.two_pow_pos _)
    have hP := Nat.two_pow_pos k
    have he2 : u % (2 * 2 ^ k) ≠ t % (2 * 2 ^ k) := by rw [← hp]; exact he
    clear he
    rw [hp] at hu ht bu bt ⊢
    clear hp
    generalize 2 ^ k = P at hu ht bu bt h hP he2 ⊢
    generalize u % (2 * P) = x at hu bu he2 ⊢
    generalize t % (2 * P) = y at ht bt he2 ⊢
    have dx : x = x % P ∨ x = x % P + P := by
      rcases Nat.lt_or_ge x P with h | h
      · left; rw [Nat.mod_eq_of_lt h]
      · right; rw [Nat.mod_eq_sub_mod h, Nat.mod_eq_of_lt (by omega)]; omega
    have dy : y = y % P ∨ y = y % P + P := by
      rcases Nat.lt_or_ge y P with h | h
      · left; rw [Nat.mod_eq_of_lt h]
      · right; rw [Nat.mod_eq_sub_mod h, Nat.mod_eq_of_lt (by omega)]; omega
    rw [hu] at dx
    rw [ht, ← h] at dy
    have hq : u % P < P := Nat.mod_lt _ hP
    generalize u % P = q at dx dy hq
    rcases dx with dx | dx
    · rcases dy with dy | dy
      · exact absurd (dx.trans dy.symm) he2
      · rw [dx, dy]; exact Nat.mod_eq_of_lt (by omega)
    · rcases dy with dy | dy
      · rw [dx, dy, show q + P + P = q + 2 * P by omega, Nat.add_mod_right]; exact Nat.mod_eq_of_lt (by omega)
      · exact absurd (dx.trans dy.symm) he2
theorem reach_low (u t : Nat) : ∀ k, k ≤ 64 → ∃ n, it f n u % 2 ^ k = t % 2 ^ k := by
  intro k
  induction k with
  | zero => intro _; exact ⟨0, by simp [Nat.mod_one]⟩
  | succ k ih =>
    intro hk
    obtain ⟨n, hn⟩ := ih (by omega)
    obtain ⟨j, hj⟩ := reach_bit f a c m hf hm ho k (it f n u) t (by omega) hn
    exact ⟨n + j, by rw [it_add]; exact hj⟩
/-- From every number the sequence comes to every number. -/
theorem reach (u t : Nat) (hu : u < m) (ht : t < m) : ∃ n, it f n u = t := by
  obtain ⟨n, hn⟩ := reach_low f a c m hf hm ho u t 64 (Nat.le_refl _)
  refine ⟨n, ?_⟩
  have h1 := it_lt f m (fun u => by rw [hf]; exact Nat.mod_lt _ (by rw [hm]; exact Nat.two_pow_pos 64)) n u hu
  rw [← hm, Nat.mod_eq_of_lt h1, Nat.mod_eq_of_lt ht] at hn
  exact hn
end

/-! ### A loop that draws again -/
/-- One round: is it right, and the state behind it. -/
def EndsIn {α : Type} (g : α → Bool × α) : Nat → α → Prop
  | 0, _ => False
  | n + 1, s => (g s).1 = true ∨ EndsIn g n (g s).2
def endsB {α : Type} (g : α → Bool × α) : Nat → α → Bool
  | 0, _ => false
  | n + 1, s => if (g s).1 then true else endsB g n (g s).2
theorem endsB_in {α : Type} (g : α → Bool × α) : ∀ n s, endsB g n s = true → EndsIn g n s := by
  intro n
  induction n with
  | zero => intro s h; cases h
  | succ n ih =>
    intro s h
    unfold endsB at h
    by_cases hc : (g s).1 = true
    · exact .inl hc
    · rw [if_neg hc] at h
      exact .inr (ih _ h)
/-- From all of a stretch of K places on the loop ends; a round goes at least one and at most K places on: then it ends from everywhere. -/
theorem ends_all (f : Nat → Nat) (m : Nat) (hr : ∀ u t, u < m → t < m → ∃ n, it f n u = t) (g : Nat → Bool × Nat) (K t : Nat) (ht : t < m) (hg : ∀ u, ∃ b, 0 < b ∧ b ≤ K ∧ (g u).2 = it f b u) (hK : ∀ k, k ≤ K → ∃ n, EndsIn g n (it f k t)) : ∀ u, u < m → ∃ n, EndsIn g n u := by
  have main : ∀ n u, it f n u = t → ∃ n, EndsIn g n u := by
    intro n
    induction n using Nat.strongRecOn with
    | ind n ih =>
      intro u hu
      obtain ⟨b, hb0, hbK, hb⟩ := hg u
      by_cases hle : b ≤ n
      · obtain ⟨j, hj⟩ := ih (n - b) (by omega) (it f b u) (by rw [← it_add, show b + (n - b) = n by omega]; exact hu)
        exact ⟨j + 1, .inr (by rw [hb]; exact hj)⟩
      · obtain ⟨j, hj⟩ := hK (b - n) (by omega)
        refine ⟨j + 1, .inr ?_⟩
        rw [hb, show b = n + (b - n) by omega, it_add, hu]
        exact hj
  intro u hu
  obtain ⟨n, hn⟩ := hr u t hu ht
  exact main n u hn

/-! ### The sequence itself -/
def nx (u : Nat) : Nat := (u * 6364136223846793005 + 1442695040888963407) % 18446744073709551616
theorem ac_odd : Odd 6364136223846793005 1442695040888963407 18446744073709551616 := by unfold Odd; decide +kernel
theorem nx_reach : ∀ u t, u < 18446744073709551616 → t < 18446744073709551616 → ∃ n, it nx n u = t := fun u t hu ht => reach nx 6364136223846793005 1442695040888963407 18446744073709551616 (fun _ => rfl) (by decide) ac_odd u t hu ht
end Go.Proofs.YtiilpnoaocfjgaaGreatDoor.lcg

namespace Go.Proofs.YtiilpnoaocfjgaaGreatDoor.draw
open nd lcg
set_option linter.unusedVariables false

def xF (v : Nat) : Nat := ((v / 8589934592) ^^^ (v / 35184372088832)) % 256
def sum1 : List Nat → Nat
  | [] => 1
  | x :: l => x + sum1 l
/-- Behind the end of the code: the sequence alone, of trees the size alone. -/
def fastF (f x : Nat → Nat) : Gen Nat Nat := ⟨fun n u => (x (f u) % n, f u), fun _ l => sum1 l⟩
section
variable {f x : Nat → Nat}

/-- v is at most k steps behind u. -/
def Le (f : Nat → Nat) (u v k : Nat) : Prop := ∃ b, b ≤ k ∧ v = it f b u
theorem Le.refl (u : Nat) : Le f u u 0 := ⟨0, Nat.le_refl _, rfl⟩
theorem Le.trans {u v w a b : Nat} (h1 : Le f u v a) (h2 : Le f v w b) : Le f u w (a + b) := by
  obtain ⟨i, hi, rfl⟩ := h1
  obtain ⟨j, hj, rfl⟩ := h2
  exact ⟨i + j, by omega, (it_add f i j u).symm⟩
theorem Le.mono {u v a b : Nat} (h : Le f u v a) (hab : a ≤ b) : Le f u v b := by
  obtain ⟨x, hx, e⟩ := h
  exact ⟨x, by omega, e⟩
theorem Le.one (n u : Nat) : Le f u ((fastF f x).bl n u).2 1 := ⟨1, Nat.le_refl _, rfl⟩
theorem Le.then {u v n a : Nat} (h : Le f ((fastF f x).bl n u).2 v a) : Le f u v (1 + a) := (Le.one (x := x) n u).trans h
def Adv (f : Nat → Nat) (k : Nat) (E : Nat → Nat × Nat) : Prop := ∀ u, Le f u (E u).2 k
theorem adv_pk (L : List ByteArray) (u : Nat) : Le f u (pkG (fastF f x) L u).2 1 := Le.one (x := x) L.length u
theorem adv_pi (L : List Int) (u : Nat) : Le f u (piG (fastF f x) L u).2 1 := Le.one (x := x) L.length u
theorem adv_word : Adv f 1 (wordG (fastF f x)) := fun u => Le.one (x := x) l2WordL.length u
theorem adv_leaf : Adv f 3 (leafG (fastF f x)) := by
  intro u
  unfold leafG
  dsimp only
  refine Le.mono (Le.then (x := x) (n := 7) (a := 2) ?_) (by omega)
  generalize ((fastF f x).bl 7 u).1 = b
  rcases b with _ | _ | _ | b
  · exact (adv_pk (x := x) l4NumL _).mono (by omega)
  · exact (adv_pk (x := x) l4StrL _).mono (by omega)
  · show Le f _ (if ((fastF f x).bl 2 ((fastF f x).bl 7 u).2).1 = 0 then _ else _ : Nat × Nat).2 _
    split
    · exact Le.then (x := x) (n := 2) (adv_pk (x := x) l4EreL _)
    · exact Le.then (x := x) (n := 2) (adv_word (x := x) _)
  · exact (adv_word (x := x) _).mono (by omega)
theorem adv_times {k : Nat} {E : Nat → Nat × Nat} (h : Adv f k E) : ∀ n u, Le f u (timesG E n u).2 (n * k) := by
  intro n
  induction n with
  | zero => intro u; exact (Le.refl u).mono (Nat.zero_le _)
  | succ n ih => intro u; exact ((h u).trans (ih _)).mono (by rw [Nat.succ_mul]; omega)
theorem fast_lt (n u : Nat) (hn : 0 < n) : ((fastF f x).bl n u).1 < n := Nat.mod_lt _ hn
theorem adv_list {k : Nat} {E : Nat → Nat × Nat} (h : Adv f k E) (least most : Nat) (hl : least ≤ most) (u : Nat) : Le f u (listG (fastF f x) E least most u).2 (1 + most * k) := by
  unfold listG
  refine Le.then (x := x) (n := most - least + 1) ((adv_times h _ _).mono (Nat.mul_le_mul_right k ?_))
  have := fast_lt (f := f) (x := x) (most - least + 1) u (by omega)
  omega
theorem adv_lval {k : Nat} {E1 E2 : Nat → Nat × Nat} (h1 : Adv f k E1) (h2 : Adv f k E2) : Adv f (2 + k) (lvalG (fastF f x) E1 E2) := by
  intro u
  unfold lvalG
  dsimp only
  refine Le.mono (Le.then (x := x) (n := 4) (a := 1 + k) ?_) (by omega)
  generalize ((fastF f x).bl 4 u).1 = b
  rcases b with _ | _ | b
  · exact (adv_pk (x := x) l2WordL _).trans (h1 _)
  · exact (h2 _).mono (by omega)
  · exact (adv_word (x := x) _).mono (by omega)
theorem adv_step {k : Nat} {E1 E2 E3 : Nat → Nat × Nat} (h1 : Adv f k E1) (h2 : Adv f k E2) (h3 : Adv f k E3) : Adv f (5 + 3 * k) (stepG (fastF f x) E1 E2 E3) := by
  intro u
  unfold stepG
  dsimp only
  refine Le.mono (Le.then (x := x) (n := 2) (Le.then (x := x) (n := 16) (a := 3 + 3 * k) ?_)) (by omega)
  generalize ((fastF f x).bl 2 u).1 = z
  generalize ((fastF f x).bl 16 ((fastF f x).bl 2 u).2).1 = b
  rcases b with _ | _ | _ | _ | _ | _ | _ | _ | _ | _ | _ | _ | b
  · exact (adv_leaf (x := x) _).mono (by omega)
  · exact (adv_lval (x := x) h1 h2 _).mono (by omega)
  · exact (h1 _).mono (by omega)
  · exact ((adv_pk (x := x) l2WordL _).trans (adv_list (x := x) h1 0 3 (by omega) _)).mono (by omega)
  · exact ((adv_pk (x := x) l7FnL _).trans (adv_list (x := x) h2 0 3 (by omega) _)).mono (by omega)
  · exact (adv_lval (x := x) h2 h3 _).mono (by omega)
  · exact (adv_lval (x := x) h2 h3 _).mono (by omega)
  · exact ((adv_pi (x := x) [56, 55, 61] _).trans (h1 _)).mono (by omega)
  · exact ((adv_pi (x := x) [56, 55, 61] _).trans (h1 _)).mono (by omega)
  · exact ((adv_pk (x := x) l2WordL _).trans (adv_list (x := x) h1 1 2 (by omega) _)).mono (by omega)
  · exact (((h1 _).trans (h1 _)).trans (h1 _)).mono (by omega)
  · exact (((adv_pi (x := x) [54, 38, 43] _).trans (adv_lval (x := x) h2 h3 _)).trans (h1 _)).mono (by omega)
  · exact (((adv_pi (x := x) l7BinL _).trans (h1 _)).trans (h1 _)).mono (by omega)
def kE : Nat → Nat
  | 0 => 3
  | d + 1 => 5 + 3 * kE d
theorem kE_up (d : Nat) : kE d ≤ kE (d + 1) := by simp only [kE]; omega
theorem Adv.mono {a b : Nat} {E : Nat → Nat × Nat} (h : Adv f a E) (hab : a ≤ b) : Adv f b E := fun u => (h u).mono hab
theorem adv_exprs : ∀ d, Adv f (kE d) (exprs (fastF f x) d).1 ∧ Adv f (kE d) (exprs (fastF f x) d).2.1 ∧ Adv f (kE d) (exprs (fastF f x) d).2.2 := by
  intro d
  induction d with
  | zero => exact ⟨adv_leaf (x := x), adv_leaf (x := x), adv_leaf (x := x)⟩
  | succ d ih => exact ⟨adv_step ih.1 ih.2.1 ih.2.2, ih.1.mono (kE_up d), ih.2.1.mono (kE_up d)⟩
theorem adv_expr (d : Nat) : Adv f (kE d) (exprG (fastF f x) d) := (adv_exprs d).1
theorem kE_le : ∀ {d e : Nat}, d ≤ e → kE d ≤ kE e := by
  intro d e h
  induction h with
  | refl => exact Nat.le_refl _
  | step _ ih => exact Nat.le_trans ih (kE_up _)
theorem adv_some (u : Nat) : ∃ b, 0 < b ∧ b ≤ 444 ∧ (someG (fastF f x) u).2 = it f b u := by
  unfold someG
  have hlt := fast_lt (f := f) (x := x) 4 u (by omega)
  obtain ⟨b, hb, e⟩ := adv_expr (1 + ((fastF f x).bl 4 u).1) ((fastF f x).bl 4 u).2
  have hk : kE (1 + ((fastF f x).bl 4 u).1) ≤ kE 4 := kE_le (by omega)
  have h4 : kE 4 = 443 := rfl
  refine ⟨1 + b, by omega, by omega, ?_⟩
  rw [e, it_add]
  rfl
theorem adv_maybe {k : Nat} {E : Nat → Nat × Nat} (h : Adv f k E) : Adv f (1 + k) (maybeG (fastF f x) E) := by
  intro u
  unfold maybeG
  refine Le.then (x := x) (n := 3) ?_
  split
  · exact (Le.refl _).mono (Nat.zero_le _)
  · exact h _
theorem adv_simple {k m : Nat} {E0 E1 : Nat → Nat × Nat} (h0 : Adv f k E0) (h1 : Adv f m E1) : Adv f (5 + 3 * k + 2 * m) (simpleG (fastF f x) E0 E1) := by
  intro u
  unfold simpleG
  dsimp only
  refine Le.mono (Le.then (x := x) (n := 9) (a := 4 + 3 * k + 2 * m) ?_) (by omega)
  have pr : ∀ y, Le f y
      (if ((fastF f x).bl 3 (listG (fastF f x) E0 ((fastF f x).bl 2 y).1 3 ((fastF f x).bl 2 y).2).2).1 = 0 then
        ((fastF f x).nd ⟨21, (((fastF f x).bl 2 y).1 : Int), ⟨#[]⟩, (pkG (fastF f x) l7OutL ((fastF f x).bl 3 (listG (fastF f x) E0 ((fastF f x).bl 2 y).1 3 ((fastF f x).bl 2 y).2).2).2).1, []⟩ ((listG (fastF f x) E0 ((fastF f x).bl 2 y).1 3 ((fastF f x).bl 2 y).2).1 ++ [(E1 (pkG (fastF f x) l7OutL ((fastF f x).bl 3 (listG (fastF f x) E0 ((fastF f x).bl 2 y).1 3 ((fastF f x).bl 2 y).2).2).2).2).1]), (E1 (pkG (fastF f x) l7OutL ((fastF f x).bl 3 (listG (fastF f x) E0 ((fastF f x).bl 2 y).1 3 ((fastF f x).bl 2 y).2).2).2).2).2)
       else ((fastF f x).nd (nodeO 21 (((fastF f x).bl 2 y).1 : Int)) (listG (fastF f x) E0 ((fastF f x).bl 2 y).1 3 ((fastF f x).bl 2 y).2).1, ((fastF f x).bl 3 (listG (fastF f x) E0 ((fastF f x).bl 2 y).1 3 ((fastF f x).bl 2 y).2).2).2)).2 (4 + 3 * k + m) := by
    intro y
    have hlt := fast_lt (f := f) (x := x) 2 y (by omega)
    have hl := (Le.one (x := x) 2 y).trans (adv_list (x := x) h0 ((fastF f x).bl 2 y).1 3 (by omega) ((fastF f x).bl 2 y).2)
    have hl2 := hl.trans (Le.one (x := x) 3 _)
    split
    · exact ((hl2.trans (adv_pk (x := x) l7OutL _)).trans (h1 _)).mono (by omega)
    · exact hl2.mono (by omega)
  generalize ((fastF f x).bl 9 u).1 = b
  rcases b with _ | _ | _ | _ | _ | _ | b
  · exact (pr _).mono (by omega)
  · exact (pr _).mono (by omega)
  · exact (adv_pi (x := x) [22, 25, 26] _).mono (by omega)
  · exact ((adv_pi (x := x) [23, 24] _).trans (adv_list (x := x) h0 0 1 (by omega) _)).mono (by omega)
  · exact ((adv_pk (x := x) l2WordL _).trans (adv_list (x := x) h1 0 2 (by omega) _)).mono (by omega)
  · refine Le.mono (Le.then (x := x) (n := 2) (a := 1 + k) ?_) (by omega)
    show Le f _ (if ((fastF f x).bl 2 ((fastF f x).bl 9 u).2).1 = 0 then _ else _ : Nat × Nat).2 _
    split
    · exact (adv_pk (x := x) l7NoteL _).mono (by omega)
    · exact (h0 _).mono (by omega)
  · exact (h0 _).mono (by omega)
theorem adv_block {k : Nat} {S : Nat → Nat × Nat} (h : Adv f k S) : Adv f (1 + 2 * k) (blockG (fastF f x) S) := by
  intro u
  unfold blockG
  have hlt := fast_lt (f := f) (x := x) 3 u (by omega)
  exact Le.then (x := x) (n := 3) ((adv_times h _ _).mono (Nat.mul_le_mul_right k (by omega)))
def kC (a b k : Nat) : Nat := 1 + max (a + 2 * k) (3 + 2 * a + b + k)
theorem adv_comp {a b k : Nat} {A1 A2 B : Nat → Nat × Nat} (h1 : Adv f a A1) (h2 : Adv f b A2) (hb : Adv f k B) : Adv f (kC a b k) (compG (fastF f x) A1 A2 B) := by
  intro u
  unfold compG kC
  dsimp only
  refine Le.then (x := x) (n := 6) ?_
  generalize ((fastF f x).bl 6 u).1 = c
  rcases c with _ | _ | _ | _ | _ | c
  · exact ((h1 _).trans (hb _)).mono (by omega)
  · exact (((h1 _).trans (hb _)).trans (hb _)).mono (by omega)
  · exact ((h1 _).trans (hb _)).mono (by omega)
  · exact ((hb _).trans (h1 _)).mono (by omega)
  · exact ((((adv_maybe (x := x) h2 _).trans (adv_maybe (x := x) h1 _)).trans (adv_maybe (x := x) h1 _)).trans (hb _)).mono (by omega)
  · refine Le.mono (Le.then (x := x) (n := 2) (a := 2 + k) ?_) (by omega)
    show Le f _ (if ((fastF f x).bl 2 ((fastF f x).bl 6 u).2).1 = 0 then _ else _ : Nat × Nat).2 _
    split
    · exact (hb _).mono (by omega)
    · exact (((adv_pk (x := x) l2WordL _).trans (adv_pk (x := x) l2WordL _)).trans (hb _)).mono (by omega)
def kS : Nat → Nat
  | 0 => 20
  | d + 1 => 1 + max (kC 14 47 (1 + 2 * kS d)) (5 + 3 * kE (min (d + 1) 2) + 2 * kE (min (d + 1) 2 - 1))
theorem adv_stmt : ∀ d, Adv f (kS d) (stmtG (fastF f x) d) := by
  intro d
  induction d with
  | zero => exact adv_simple (adv_expr 0) (adv_expr 0)
  | succ d ih =>
    intro u
    unfold stmtG kS
    refine Le.then (x := x) (n := 3) ?_
    split
    · exact (adv_comp (x := x) (adv_expr 1) (adv_expr 2) (adv_block (x := x) ih) _).mono (Nat.le_max_left _ _)
    · exact (adv_simple (x := x) (adv_expr _) (adv_expr _) _).mono (Nat.le_max_right _ _)
theorem adv_item : Adv f 1060 (itemG (fastF f x)) := by
  intro u
  unfold itemG
  dsimp only
  have hlt := fast_lt (f := f) (x := x) 2 u (by omega)
  refine Le.mono (Le.then (x := x) (n := 2) (Le.then (x := x) (n := 8) (a := 1058) ?_)) (by omega)
  have k0 : kE 0 = 3 := rfl
  have k1 : kE 1 = 14 := rfl
  have k2 : kE 2 = 47 := rfl
  have s1 : kS 1 = 121 := rfl
  have s2 : kS 2 = 502 := rfl
  have hE : ∀ y, Le f y (exprG (fastF f x) (1 + ((fastF f x).bl 2 u).1) y).2 47 := fun y => (adv_expr _ y).mono (by
    rcases (show ((fastF f x).bl 2 u).1 = 0 ∨ ((fastF f x).bl 2 u).1 = 1 by omega) with e | e <;> rw [e] <;> decide)
  have hB : ∀ y, Le f y (blockG (fastF f x) (stmtG (fastF f x) (1 + ((fastF f x).bl 2 u).1)) y).2 1005 := fun y => (adv_block (x := x) (adv_stmt _) y).mono (by
    rcases (show ((fastF f x).bl 2 u).1 = 0 ∨ ((fastF f x).bl 2 u).1 = 1 by omega) with e | e <;> rw [e] <;> decide)
  have h1 : ∀ y, Le f y (exprG (fastF f x) 1 y).2 14 := fun y => adv_expr 1 y
  generalize 1 + ((fastF f x).bl 2 u).1 = d at hE hB ⊢
  generalize ((fastF f x).bl 8 ((fastF f x).bl 2 u).2).1 = b
  rcases b with _ | _ | _ | _ | _ | _ | _ | b
  · exact ((Le.one (x := x) 2 _).trans (hB _)).mono (by omega)
  · exact (hE _).mono (by omega)
  · exact (hB _).mono (by omega)
  · exact ((h1 _).trans (h1 _)).mono (by omega)
  · exact (((h1 _).trans (h1 _)).trans (hB _)).mono (by omega)
  · have hn := fast_lt (f := f) (x := x) 3 ((fastF f x).bl 8 ((fastF f x).bl 2 u).2).2 (by omega)
    have hw := ((Le.one (f := f) (x := x) 3 ((fastF f x).bl 8 ((fastF f x).bl 2 u).2).2).trans (adv_times (adv_word (f := f) (x := x)) ((fastF f x).bl 3 ((fastF f x).bl 8 ((fastF f x).bl 2 u).2).2).1 _)).mono (show _ ≤ 3 by omega)
    exact ((hw.trans (adv_pk (x := x) l7NameL _)).trans (hB _)).mono (by omega)
  · exact (adv_pk (x := x) l7TopL _).mono (by omega)
  · exact ((hE _).trans (hB _)).mono (by omega)
theorem adv_prog (u : Nat) : ∃ b, 0 < b ∧ b ≤ 3181 ∧ (progG (fastF f x) u).2 = it f b u := by
  unfold progG
  have hlt := fast_lt (f := f) (x := x) 4 u (by omega)
  obtain ⟨b, hb, e⟩ := adv_times (adv_item (f := f) (x := x)) ((fastF f x).bl 4 u).1 ((fastF f x).bl 4 u).2
  refine ⟨1 + b, by omega, by have := Nat.mul_le_mul_right 1060 (show ((fastF f x).bl 4 u).1 ≤ 3 by omega); omega, ?_⟩
  dsimp only
  rw [e, it_add]
  rfl
end
def fast : Gen Nat Nat := fastF nx xF
def rd (n : Nat) (r : Nat × Nat) : Bool × Nat := (Nat.ble r.1 n, r.2)
theorem rd_2 (n : Nat) (r : Nat × Nat) : (rd n r).2 = r.2 := rfl
def fSome (u : Nat) : Bool × Nat := rd 60 (someG fast u)
def fProg (u : Nat) : Bool × Nat := rd 220 (progG fast u)
def chk (q : Nat → Nat) (f : Nat → Bool × Nat) (N : Nat) : Nat → Nat → Bool
  | 0, u => true
  | n + 1, u => if endsB f N u then chk q f N n (q u) else false
theorem chk_all (q : Nat → Nat) (f : Nat → Bool × Nat) (N : Nat) : ∀ n u, chk q f N n u = true → ∀ k, k < n → EndsIn f N (it q k u) := by
  intro n
  induction n with
  | zero => intro u _ k hk; omega
  | succ n ih =>
    intro u h k hk
    unfold chk at h
    by_cases hc : endsB f N u = true
    · rw [if_pos hc] at h
      cases k with
      | zero => exact endsB_in f N u hc
      | succ k => exact ih (q u) h k (by omega)
    · rw [if_neg hc] at h; cases h
end Go.Proofs.YtiilpnoaocfjgaaGreatDoor.draw

namespace Go.Proofs.YtiilpnoaocfjgaaGreatDoor.draw
open nd lcg
theorem chk_some : chk nx fSome 40 445 0 = true := by decide +kernel
theorem some_next (u : Nat) : ∃ b, 0 < b ∧ b ≤ 444 ∧ (fSome u).2 = it nx b u := by
  obtain ⟨b, h0, h1, e⟩ := adv_some (f := nx) (x := xF) u
  unfold fSome fast
  rw [rd_2]
  exact ⟨b, h0, h1, e⟩
theorem some_ends (u : Nat) (hu : u < 18446744073709551616) : ∃ n, EndsIn fSome n u :=
  ends_all nx 18446744073709551616 nx_reach fSome 444 0 (Nat.two_pow_pos 64) some_next (fun k hk => ⟨40, chk_all nx fSome 40 445 0 chk_some k (Nat.lt_succ_of_le hk)⟩) u hu
end Go.Proofs.YtiilpnoaocfjgaaGreatDoor.draw

namespace Go.Proofs.YtiilpnoaocfjgaaGreatDoor.draw
open nd lcg
theorem chk_prog : chk nx fProg 40 3182 0 = true := by decide +kernel
theorem prog_next (u : Nat) : ∃ b, 0 < b ∧ b ≤ 3181 ∧ (fProg u).2 = it nx b u := by
  obtain ⟨b, h0, h1, e⟩ := adv_prog (f := nx) (x := xF) u
  unfold fProg fast
  rw [rd_2]
  exact ⟨b, h0, h1, e⟩
theorem prog_ends (u : Nat) (hu : u < 18446744073709551616) : ∃ n, EndsIn fProg n u :=
  ends_all nx 18446744073709551616 nx_reach fProg 3181 0 (Nat.two_pow_pos 64) prog_next (fun k hk => ⟨40, chk_all nx fProg 40 3182 0 chk_prog k (Nat.lt_succ_of_le hk)⟩) u hu
end Go.Proofs.YtiilpnoaocfjgaaGreatDoor.draw

namespace Go.Proofs.YtiilpnoaocfjgaaGreatDoor.draw
open nd lcg
set_option linter.unusedVariables false

/-- As the verifier's functions draw: from the cursor; trees put together by l6Make. -/
def exactG (zs : List Int) : Gen St (List Nd) := ⟨fun n s => ((belowF zs n s).1.toNat, (belowF zs n s).2), makeT⟩
theorem wrap_low (z : Nat) : IntKind.i64.wrap (z : Int) % 256 = ((z % 256 : Nat) : Int) := by
  rw [IntKind.wrap_i64, Int.natCast_emod]
  generalize (z : Int) = y
  omega
theorem xor_low (a b : Int) (x y : Nat) (ha : (a % 18446744073709551616).toNat % 256 = x % 256) (hb : (b % 18446744073709551616).toNat % 256 = y % 256) : bits .xor .i64 a b % 256 = (((x ^^^ y) % 256 : Nat) : Int) := by
  have low : ∀ (p q : Nat), (p ^^^ q) % 256 = (p % 256) ^^^ (q % 256) := fun p q => Nat.xor_mod_two_pow (a := p) (b := q) (n := 8)
  have hm : ((2 ^ 64 : Nat) : Int) = 18446744073709551616 := by decide
  have key : (BitVec.ofInt 64 a ^^^ BitVec.ofInt 64 b).toNat % 256 = (x ^^^ y) % 256 := by
    rw [BitVec.toNat_xor, BitVec.toNat_ofInt, BitVec.toNat_ofInt, hm, low, ha, hb, ← low]
  show IntKind.i64.wrap ((BitVec.ofInt 64 a ^^^ BitVec.ofInt 64 b).toNat : Nat) % 256 = _
  rw [← key]
  exact wrap_low _
theorem rx_low (h : Int) (u : Nat) (hu : (u : Int) = h % 18446744073709551616) : rx h % 256 = ((xF u : Nat) : Int) := by
  unfold rx xF
  refine xor_low _ _ (u / 8589934592) (u / 35184372088832) ?_ ?_ <;> omega
/-- The cursor s stands at or behind the end of the code, and its number is u. -/
def AtU (zs : List Int) (i : Nat) (s : St) (u : Nat) : Prop := s.1 = i ∧ zs.length ≤ i ∧ (u : Int) = s.2 % 18446744073709551616
theorem step_low (h a c : Int) (u v : Nat) (hv : (v : Int) = ((u : Int) * a + c) % 18446744073709551616) (hu : (u : Int) = h % 18446744073709551616) : (v : Int) = (h * a + c) % 18446744073709551616 := by
  rw [hv, hu, Int.add_emod, Int.mul_emod, Int.emod_emod, ← Int.mul_emod, ← Int.add_emod]
theorem nh_low (h : Int) (u : Nat) (hu : (u : Int) = h % 18446744073709551616) : ((nx u : Nat) : Int) = nh h % 18446744073709551616 := by
  have e : nh h % 18446744073709551616 = (h * 6364136223846793005 + 1442695040888963407) % 18446744073709551616 := by
    unfold nh Go.RowKit.wrap64
    generalize h * 6364136223846793005 = z
    omega
  rw [e]
  refine step_low h _ _ u (nx u) ?_ hu
  unfold nx
  simp only [Int.natCast_emod, Int.natCast_add, Int.natCast_mul, Int.cast_ofNat_Int]
theorem makeT_len (n : Nd) (ps : List (List Nd)) : (makeT n ps).length = sumL ps + 1 := by
  unfold makeT
  rw [List.length_append, makeGo_len]
  simp
theorem exact_fastF (f x : Nat → Nat) (hf : ∀ (h : Int) (u : Nat), (u : Int) = h % 18446744073709551616 → ((f u : Nat) : Int) = nh h % 18446744073709551616) (hx : ∀ (h : Int) (u : Nat), (u : Int) = h % 18446744073709551616 → rx h % 256 = ((x u : Nat) : Int)) (zs : List Int) (i : Nat) : Step (exactG zs) (fastF f x) (AtU zs i) (fun q n => q.length = n) := by
  refine ⟨fun n s u h0 h1 h => ?_, fun n l k h => ?_⟩
  · obtain ⟨hi, hz, hu⟩ := h
    have e : belowF zs (n : Int) s = (rx (nh s.2) % 256 % n, (s.1, nh s.2)) := by
      unfold belowF
      rw [if_neg (by omega), if_pos (by omega), byteF_no (by omega)]
    have hn := hf s.2 u hu
    have hx := hx (nh s.2) (f u) hn
    refine ⟨?_, ?_⟩
    · show (belowF zs (n : Int) s).1.toNat = x (f u) % n
      rw [e, hx]
      exact Int.toNat_natCast _
    · show AtU zs i (belowF zs (n : Int) s).2 (f u)
      rw [e]
      exact ⟨hi, hz, hn⟩
  · show (makeT n l).length = sum1 k
    rw [makeT_len]
    induction h with
    | nil => rfl
    | cons hq _ ih => simp only [sumL, sum1]; rw [hq, ← ih]; omega
theorem exact_fast (zs : List Int) (i : Nat) : Step (exactG zs) fast (AtU zs i) (fun q n => q.length = n) := exact_fastF nx xF nh_low rx_low zs i
/-- One round of a loop that draws again, exactly. -/
def rdE (n : Nat) (E : St → List Nd × St) (s : St) : Bool × St := (Nat.ble (E s).1.length n, (E s).2)
theorem ends_behind (zs : List Int) (i n : Nat) (E : St → List Nd × St) (F : Nat → Nat × Nat) (h : Fn (AtU zs i) (fun q k => q.length = k) E F) : ∀ k s u, AtU zs i s u → EndsIn (fun u => rd n (F u)) k u → EndsIn (rdE n E) k s := by
  intro k
  induction k with
  | zero => intro s u _ h; exact h
  | succ k ih =>
    intro s u hs he
    obtain ⟨hq, hr⟩ := h s u hs
    rcases he with he | he
    · refine .inl ?_
      show Nat.ble (E s).1.length n = true
      rw [hq]
      exact he
    · exact .inr (ih _ _ hr he)
end Go.Proofs.YtiilpnoaocfjgaaGreatDoor.draw

namespace Go.Proofs.YtiilpnoaocfjgaaGreatDoor.draw.ar
open nd lcg draw
set_option linter.unusedVariables false

/-- A binary operation has no more than two kids. -/
def Ar (t : Nd) : Prop := t.k = 12 → t.kids.length ≤ 2
/-- The same numbers; of a tree this alone: has every binary operation at most two kids? -/
def arG (zs : List Int) : Gen St Bool := ⟨(exactG zs).bl, fun n l => decide (n.k = 12 → l.length ≤ 2) && l.all id⟩
theorem go_ar : ∀ (ps : List (List Nd)) (out : List Nd) (ks : List Int), (∀ q ∈ ps, ∀ t ∈ q, Ar t) → (∀ t ∈ out, Ar t) → ∀ t ∈ (makeGo ps out ks).1, Ar t := by
  intro ps
  induction ps with
  | nil => intro out ks _ h; exact h
  | cons q ps ih =>
    intro out ks h1 h2
    refine ih _ _ (fun q' hq => h1 q' (List.mem_cons_of_mem _ hq)) ?_
    intro t ht
    rcases List.mem_append.1 ht with ht | ht
    · exact h2 t ht
    · obtain ⟨t', ht', rfl⟩ := List.mem_map.1 ht
      intro hk
      have := h1 q (List.mem_cons_self ..) t' ht' hk
      simpa [shN, shK] using this
theorem go_len : ∀ (ps : List (List Nd)) (out : List Nd) (ks : List Int), (makeGo ps out ks).2.length = ks.length + ps.length := by
  intro ps
  induction ps with
  | nil => intro out ks; rfl
  | cons q ps ih =>
    intro out ks
    refine (ih _ _).trans ?_
    simp
    omega
theorem all2_ar {l : List (List Nd)} {k : List Bool} (h : All2 (fun q b => b = true → ∀ t ∈ q, Ar t) l k) : k.all id = true → ∀ q ∈ l, ∀ t ∈ q, Ar t := by
  induction h with
  | nil => intro _ q hq; cases hq
  | cons h1 _ ih =>
    intro hk q hq
    simp only [List.all_cons, Bool.and_eq_true, id] at hk
    rcases List.mem_cons.1 hq with e | hq
    · rw [e]; exact h1 hk.1
    · exact ih hk.2 q hq
theorem all2_len {l : List (List Nd)} {k : List Bool} {Q : List Nd → Bool → Prop} (h : All2 Q l k) : l.length = k.length := by
  induction h with
  | nil => rfl
  | cons _ _ ih => simp [ih]
theorem exact_ar (zs : List Int) : Step (exactG zs) (arG zs) (fun s u => s = u) (fun q b => b = true → ∀ t ∈ q, Ar t) := by
  refine ⟨fun n s u h0 h1 h => by subst h; exact ⟨rfl, rfl⟩, fun n l k h hb t ht => ?_⟩
  have hb' : (decide (n.k = 12 → k.length ≤ 2) && k.all id) = true := hb
  simp only [Bool.and_eq_true, decide_eq_true_eq] at hb'
  have ht' : t ∈ (makeGo l [] []).1 ++ [{ n with kids := (makeGo l [] []).2 }] := ht
  rcases List.mem_append.1 ht' with ht | ht
  · exact go_ar l [] [] (all2_ar h hb'.2) (fun t ht => by cases ht) t ht
  · rw [List.mem_singleton] at ht
    subst ht
    intro hk
    show (makeGo l [] []).2.length ≤ 2
    rw [go_len, all2_len h]
    have := hb'.1 hk
    simpa using this
/-! ### They always are -/
def Tr1 (E : St → Bool × St) : Prop := ∀ s, (E s).1 = true
def Nd1 (g : Gen St Bool) : Prop := ∀ n l, (n.k = 12 → l.length ≤ 2) → l.all id = true → g.nd n l = true
theorem ndO {g : Gen St Bool} (H : Nd1 g) {k o : Int} {l : List Bool} (hk : k ≠ 12) (h : l.all id = true) : g.nd (nodeO k o) l = true := H _ _ (fun e => absurd e hk) h
theorem ndB {g : Gen St Bool} (H : Nd1 g) {o : Int} {l : List Bool} (hl : l.length ≤ 2) (h : l.all id = true) : g.nd (nodeO 12 o) l = true := H _ _ (fun _ => hl) h
theorem ndS {g : Gen St Bool} (H : Nd1 g) {k : Int} {x : ByteArray} {l : List Bool} (hk : k ≠ 12) (h : l.all id = true) : g.nd (nodeS k x) l = true := H _ _ (fun e => absurd e hk) h
theorem pi_ne {g : Gen St Bool} {L : List Int} {s : St} (h : L.all (fun k => k != 12) = true) : (piG g L s).1 ≠ 12 := by
  show L.getD _ _ ≠ 12
  rw [List.getD_eq_getElem?_getD]
  cases e : L[(g.bl L.length s).1]? with
  | none => decide
  | some x =>
    have := List.all_eq_true.1 h x (List.mem_of_getElem? e)
    simpa using this
theorem times1 {E : St → Bool × St} (h : Tr1 E) : ∀ n s, (timesG E n s).1.all id = true := by
  intro n
  induction n with
  | zero => intro s; rfl
  | succ n ih => intro s; simp only [timesG, List.all_cons, Bool.and_eq_true]; exact ⟨h s, ih _⟩
theorem list1 {g : Gen St Bool} {E : St → Bool × St} (h : Tr1 E) (a b : Nat) (s : St) : (listG g E a b s).1.all id = true := times1 h _ _
theorem one1 {b : Bool} (h : b = true) : [b].all id = true := by simp [h]
theorem two1 {b c : Bool} (h : b = true) (h2 : c = true) : [b, c].all id = true := by simp [h, h2]
theorem three1 {b c d : Bool} (h : b = true) (h2 : c = true) (h3 : d = true) : [b, c, d].all id = true := by simp [h, h2, h3]
theorem word1 {g : Gen St Bool} (H : Nd1 g) : Tr1 (wordG g) := fun s => ndS H (by decide) rfl
theorem leaf1 {g : Gen St Bool} (H : Nd1 g) : Tr1 (leafG g) := by
  intro s
  unfold leafG
  dsimp only
  generalize (g.bl 7 s).1 = b
  rcases b with _ | _ | _ | b
  all_goals try dsimp only
  · exact ndS H (by decide) rfl
  · exact ndS H (by decide) rfl
  · show (if (g.bl 2 (g.bl 7 s).2).1 = 0 then _ else _ : Bool × St).1 = true
    split
    · exact ndS H (by decide) rfl
    · exact word1 H _
  · exact word1 H _
section
variable {g : Gen St Bool} (H : Nd1 g) {E1 E2 E3 : St → Bool × St} (h1 : Tr1 E1) (h2 : Tr1 E2) (h3 : Tr1 E3)
include H h1 h2
theorem lval1 : Tr1 (lvalG g E1 E2) := by
  intro s
  unfold lvalG
  dsimp only
  generalize (g.bl 4 s).1 = b
  rcases b with _ | _ | b
  all_goals try dsimp only
  · exact ndS H (by decide) (one1 (h1 _))
  · exact ndO H (by decide) (one1 (h2 _))
  · exact word1 H _
include h3
theorem step1 : Tr1 (stepG g E1 E2 E3) := by
  intro s
  unfold stepG
  dsimp only
  generalize (g.bl 2 s).1 = i
  generalize (g.bl 16 (g.bl 2 s).2).1 = b
  rcases b with _ | _ | _ | _ | _ | _ | _ | _ | _ | _ | _ | _ | b
  all_goals try dsimp only
  · exact leaf1 H _
  · exact lval1 H h1 h2 _
  · exact ndO H (by decide) (one1 (h1 _))
  · exact ndS H (by decide) (list1 h1 _ _ _)
  · exact ndS H (by decide) (list1 h2 _ _ _)
  · exact ndO H (by decide) (one1 (lval1 H h2 h3 _))
  · exact ndO H (by decide) (one1 (lval1 H h2 h3 _))
  · exact ndO H (by decide) (one1 (h1 _))
  · exact ndO H (by decide) (one1 (h1 _))
  · exact ndS H (by decide) (list1 h1 _ _ _)
  · exact ndO H (by decide) (three1 (h1 _) (h1 _) (h1 _))
  · exact ndO H (by decide) (two1 (lval1 H h2 h3 _) (h1 _))
  · exact ndB H (by simp) (two1 (h1 _) (h1 _))
end
theorem exprs1 {g : Gen St Bool} (H : Nd1 g) : ∀ d, Tr1 (exprs g d).1 ∧ Tr1 (exprs g d).2.1 ∧ Tr1 (exprs g d).2.2 := by
  intro d
  induction d with
  | zero => exact ⟨leaf1 H, leaf1 H, leaf1 H⟩
  | succ d ih => exact ⟨step1 H ih.1 ih.2.1 ih.2.2, ih.1, ih.2.1⟩
theorem expr1 {g : Gen St Bool} (H : Nd1 g) (d : Nat) : Tr1 (exprG g d) := (exprs1 H d).1
section
variable {g : Gen St Bool} (H : Nd1 g) {A B C : St → Bool × St} (ha : Tr1 A) (hb : Tr1 B) (hc : Tr1 C)
include H ha
theorem maybe1 : Tr1 (maybeG g A) := by
  intro s
  unfold maybeG
  split
  · exact ndO H (by decide) rfl
  · exact ha _
theorem block1 : Tr1 (blockG g A) := fun s => ndO H (by decide) (times1 ha _ _)
include hb
theorem simple1 : Tr1 (simpleG g A B) := by
  intro s
  have pr : ∀ u, ((fun (u : St) =>
    let o := g.bl 2 u
    let l := listG g A o.1 3 o.2
    let c := g.bl 3 l.2
    if c.1 = 0 then
      let x := pkG g l7OutL c.2
      let e := B x.2
      (g.nd ⟨21, (o.1 : Int), ⟨#[]⟩, x.1, []⟩ (l.1 ++ [e.1]), e.2)
    else (g.nd (nodeO 21 (o.1 : Int)) l.1, c.2)) u).1 = true := by
    intro u
    dsimp only
    split
    · exact H _ _ (fun e => by simp at e) (by simp only [List.all_append, Bool.and_eq_true]; exact ⟨list1 ha _ _ _, one1 (hb _)⟩)
    · exact ndO H (by decide) (list1 ha _ _ _)
  unfold simpleG
  dsimp only
  generalize (g.bl 9 s).1 = b
  rcases b with _ | _ | _ | _ | _ | _ | b
  all_goals try dsimp only
  · exact pr _
  · exact pr _
  · exact ndO H (pi_ne (by decide)) rfl
  · exact ndO H (pi_ne (by decide)) (list1 ha _ _ _)
  · exact ndS H (by decide) (list1 hb _ _ _)
  · show (if (g.bl 2 _).1 = 0 then _ else _ : Bool × St).1 = true
    split
    · exact ndS H (by decide) rfl
    · exact ndO H (by decide) (one1 (ha _))
  · exact ndO H (by decide) (one1 (ha _))
include hc
theorem comp1 : Tr1 (compG g A B C) := by
  intro s
  unfold compG
  dsimp only
  generalize (g.bl 6 s).1 = b
  rcases b with _ | _ | _ | _ | _ | b
  all_goals try dsimp only
  · exact ndO H (by decide) (two1 (ha _) (hc _))
  · exact ndO H (by decide) (three1 (ha _) (hc _) (hc _))
  · exact ndO H (by decide) (two1 (ha _) (hc _))
  · exact ndO H (by decide) (two1 (hc _) (ha _))
  · refine ndO H (by decide) ?_
    simp only [List.all_cons, List.all_nil, Bool.and_eq_true, id]
    exact ⟨maybe1 H hb _, maybe1 H ha _, maybe1 H ha _, hc _, trivial⟩
  · show (if (g.bl 2 _).1 = 0 then _ else _ : Bool × St).1 = true
    split
    · exact hc _
    · exact H _ _ (fun e => by simp at e) (one1 (hc _))
end
theorem stmt1 {g : Gen St Bool} (H : Nd1 g) : ∀ d, Tr1 (stmtG g d) := by
  intro d
  induction d with
  | zero => exact simple1 H (expr1 H 0) (expr1 H 0)
  | succ d ih =>
    intro s
    unfold stmtG
    split
    · exact comp1 H (expr1 H 1) (expr1 H 2) (block1 H ih) _
    · exact simple1 H (expr1 H _) (expr1 H _) _
theorem item1 {g : Gen St Bool} (H : Nd1 g) : Tr1 (itemG g) := by
  intro s
  unfold itemG
  dsimp only
  have hB : Tr1 (blockG g (stmtG g (1 + (g.bl 2 s).1))) := block1 H (stmt1 H _)
  have hE : Tr1 (exprG g (1 + (g.bl 2 s).1)) := expr1 H _
  have h1 : Tr1 (exprG g 1) := expr1 H 1
  generalize blockG g (stmtG g (1 + (g.bl 2 s).1)) = Bk at hB ⊢
  generalize exprG g (1 + (g.bl 2 s).1) = E at hE ⊢
  generalize (g.bl 8 (g.bl 2 s).2).1 = b
  rcases b with _ | _ | _ | _ | _ | _ | _ | b
  all_goals try dsimp only
  · exact ndO H (by omega) (one1 (hB _))
  · exact ndO H (by decide) (one1 (hE _))
  · exact ndO H (by decide) (one1 (hB _))
  · exact ndO H (by decide) (two1 (h1 _) (h1 _))
  · exact ndO H (by decide) (three1 (h1 _) (h1 _) (hB _))
  · exact ndS H (by decide) (by simp only [List.all_append, Bool.and_eq_true]; exact ⟨times1 (word1 H) _ _, one1 (hB _)⟩)
  · exact ndS H (by decide) rfl
  · exact ndO H (by decide) (two1 (hE _) (hB _))
theorem prog1 {g : Gen St Bool} (H : Nd1 g) : Tr1 (progG g) := fun s => ndO H (by decide) (times1 (item1 H) _ _)
/-! ### So of the exact trees -/
theorem nd_ar (zs : List Int) : Nd1 (arG zs) := by
  intro n l h1 h
  show (decide (n.k = 12 → l.length ≤ 2) && l.all id) = true
  rw [h, decide_eq_true h1]
  rfl
theorem expr_ar (zs : List Int) (d : Nat) (s : St) : ∀ t ∈ (exprG (exactG zs) d s).1, Ar t := ((exact_ar zs).expr d s s rfl).1 (expr1 (nd_ar zs) d s)
theorem stmt_ar (zs : List Int) (d : Nat) (s : St) : ∀ t ∈ (stmtG (exactG zs) d s).1, Ar t := ((exact_ar zs).stmt d s s rfl).1 (stmt1 (nd_ar zs) d s)
theorem prog_ar (zs : List Int) (s : St) : ∀ t ∈ (progG (exactG zs) s).1, Ar t := ((exact_ar zs).prog s s rfl).1 (prog1 (nd_ar zs) s)
end Go.Proofs.YtiilpnoaocfjgaaGreatDoor.draw.ar

namespace Go.Proofs.YtiilpnoaocfjgaaGreatDoor.draw
open nd lcg
set_option linter.unusedVariables false

theorem byte_up (zs : List Int) (n : Nat) (s : St) (h0 : 0 < n) (h1 : n ≤ 256) : s.1 ≤ (belowF zs n s).2.1 ∧ (s.1 < zs.length → s.1 < (belowF zs n s).2.1) := by
  unfold belowF
  rw [if_neg (by omega), if_pos (by omega)]
  unfold byteF
  split
  · exact ⟨Nat.le_succ _, fun _ => Nat.lt_succ_self _⟩
  · rename_i hc
    exact ⟨Nat.le_refl _, fun h => absurd h hc⟩
theorem exact_up (zs : List Int) (i : Nat) : Step (exactG zs) (exactG zs) (fun s u => s = u ∧ i ≤ s.1) (fun _ _ => True) := by
  refine ⟨fun n s u h0 h1 h => ?_, fun n l k h => trivial⟩
  obtain ⟨rfl, h⟩ := h
  exact ⟨rfl, rfl, Nat.le_trans h (byte_up zs n s h0 h1).1⟩
theorem some_up (zs : List Int) (s : St) (h : s.1 < zs.length) : s.1 < (someG (exactG zs) s).2.1 :=
  ((exact_up zs (s.1 + 1)).expr (1 + ((exactG zs).bl 4 s).1) ((exactG zs).bl 4 s).2 _ ⟨rfl, (byte_up zs 4 s (by decide) (by decide)).2 h⟩).2.2
theorem prog_up (zs : List Int) (s : St) (h : s.1 < zs.length) : s.1 < (progG (exactG zs) s).2.1 :=
  (times_two (exact_up zs (s.1 + 1)).item ((exactG zs).bl 4 s).1 ((exactG zs).bl 4 s).2 _ ⟨rfl, (byte_up zs 4 s (by decide) (by decide)).2 h⟩).2.2
theorem low_of (h : Int) : (((h % 18446744073709551616).toNat : Nat) : Int) = h % 18446744073709551616 ∧ (h % 18446744073709551616).toNat < 18446744073709551616 := by
  have h0 := Int.emod_nonneg h (show (18446744073709551616 : Int) ≠ 0 by decide)
  have h1 := Int.emod_lt_of_pos h (show (0 : Int) < 18446744073709551616 by decide)
  generalize h % 18446744073709551616 = z at h0 h1 ⊢
  omega
theorem ends_every (zs : List Int) (n : Nat) (E : St → List Nd × St) (F : Nat → Nat × Nat) (hfn : ∀ i, Fn (AtU zs i) (fun q k => q.length = k) E F) (he : ∀ u, u < 18446744073709551616 → ∃ k, EndsIn (fun u => rd n (F u)) k u)
    (hup : ∀ s : St, s.1 < zs.length → s.1 < (E s).2.1) : ∀ s : St, ∃ k, EndsIn (rdE n E) k s := by
  have main : ∀ m (s : St), zs.length - s.1 = m → ∃ k, EndsIn (rdE n E) k s := by
    intro m
    induction m using Nat.strongRecOn with
    | ind m ih =>
      intro s hm
      by_cases hlt : s.1 < zs.length
      · have := hup s hlt
        obtain ⟨k, hk⟩ := ih (zs.length - (E s).2.1) (by omega) (E s).2 rfl
        exact ⟨k + 1, .inr hk⟩
      · obtain ⟨e1, e2⟩ := low_of s.2
        obtain ⟨k, hk⟩ := he _ e2
        exact ⟨k, ends_behind zs s.1 n E F (hfn s.1) k s _ ⟨rfl, by omega, e1⟩ hk⟩
  exact fun s => main _ s rfl
theorem some_every (zs : List Int) : ∀ s : St, ∃ k, EndsIn (rdE 60 (someG (exactG zs))) k s :=
  ends_every zs 60 _ (someG fast) (fun i => (exact_fast zs i).some) some_ends (some_up zs)
theorem prog_every (zs : List Int) : ∀ s : St, ∃ k, EndsIn (rdE 220 (progG (exactG zs))) k s :=
  ends_every zs 220 _ (progG fast) (fun i => (exact_fast zs i).prog) prog_ends (prog_up zs)
end Go.Proofs.YtiilpnoaocfjgaaGreatDoor.draw

namespace Go.Proofs.YtiilpnoaocfjgaaGreatDoor.draw
open Go.ChangeShapes Go.WideShapes Go.ChangeAt Go.RowKit
open nd
set_option linter.unusedVariables false
theorem TOut.make {B p len cap : Nat} {a : Option Addr} {zs : List Int} {s' : St} {q : List Nd} {w w1 w2 w3 : World} {e : Ending} (hI : In B w1 p a len cap zs s') (hp : p < w.heap.size) (hG : w.grownBy w1 (some p)) (hb : Below w1.heap.size w1 w2) (h : PgOut q w2 e w3) : TOut B p a len cap zs q s' w e w3 := by
  obtain ⟨v, z, r, rfl, hz, pt, hb2, ge⟩ := h
  have h1 := hG.size
  have h2 := hb.size
  refine ⟨v, rfl, ⟨hp, z, r, hz, pt.up (by omega), fun i hi _ => by have := ge i hi; omega⟩, ?_, ?_⟩
  · exact (hI.keep hb hI.lt).keep hb2 (by omega)
  · exact grown_below hG ((hb.mono h1).trans (hb2.mono (by omega))) rfl
theorem parts_of {p S : Nat} {w1 : World} (vs : List Value) (qs : List (List Nd)) (hl : vs.length = qs.length) (h : ∀ i (h1 : i < vs.length) (h2 : i < qs.length), TR p S vs[i] qs[i] w1) :
    Parts (w1.alloc (.cells vs.toArray 29)).heap.size (w1.alloc (.cells vs.toArray 29)) (some ⟨w1.heap.size, 0, none⟩) qs := by
  have hb : Below w1.heap.size w1 (w1.alloc (.cells vs.toArray 29)) := (Below.refl _ _).alloc (Nat.le_refl _) _
  refine .inr ⟨w1.heap.size, 0, rfl, by simp, fun i hi => ?_⟩
  have hv : i < vs.length := by omega
  have ht := h i hv hi
  obtain ⟨ai, ci, e⟩ := ht.form
  rw [e] at ht
  refine ⟨ai, ci, ?_, (ht.lies.keep hb (Nat.le_refl _)).up (by simp)⟩
  rw [cell_of_row _ w1.heap.size (0 + i) _ _ _ (heap_alloc_new w1 _)]
  simp [hv, e]
end Go.Proofs.YtiilpnoaocfjgaaGreatDoor.draw

namespace Go.Proofs.YtiilpnoaocfjgaaGreatDoor.draw
open Go.ChangeShapes Go.WideShapes Go.ChangeAt Go.RowKit
open nd
set_option linter.unusedVariables false
theorem leafT_eq (zs : List Int) (s : St) : leafT zs s = leafG (exactG zs) s := by
  have h2 := belowF_bd zs 2 (belowF zs 7 s).2 (by decide)
  have e : (exactG zs).bl 7 s = ((belowF zs 7 s).1.toNat, (belowF zs 7 s).2) := rfl
  have e2 : ((exactG zs).bl 2 (belowF zs 7 s).2) = ((belowF zs 2 (belowF zs 7 s).2).1.toNat, (belowF zs 2 (belowF zs 7 s).2).2) := rfl
  unfold leafT leafG
  rw [e]
  dsimp only
  generalize (belowF zs 7 s).1.toNat = b
  rcases b with _ | _ | _ | b
  · rfl
  · rfl
  · show (if (belowF zs 2 (belowF zs 7 s).2).1 = 0 then _ else _) = (if ((exactG zs).bl 2 (belowF zs 7 s).2).1 = 0 then _ else _)
    rw [e2]
    dsimp only
    by_cases hc : (belowF zs 2 (belowF zs 7 s).2).1 = 0
    · rw [if_pos hc, if_pos (by omega)]; rfl
    · rw [if_neg hc, if_neg (by omega)]; rfl
  · rfl
/-- The contract of an expression's draw at depth D: it answers what E does. -/
def ExprC (B p len cap : Nat) (a : Option Addr) (zs : List Int) (f : Nat) (D : Int) (E : St → List Nd × St) : Prop :=
  ∀ w s, In B w p a len cap zs s → Calls Tryz.prog f #[.pointer (some ⟨p, 0, none⟩), .int .i64 D] w (TOut B p a len cap zs (E s).1 (E s).2 w)
theorem leaf_ok {B p len cap : Nat} {w : World} {a : Option Addr} {zs : List Int} {s : Nat × Int} (H : In B w p a len cap zs s) :
    Calls Tryz.prog 230 #[.pointer (some ⟨p, 0, none⟩)] w (TOut B p a len cap zs (leafG (exactG zs) s).1 (leafG (exactG zs) s).2 w) := by
  rw [← leafT_eq]
  exact leaf_any H
/-- Trees small enough to be put together. -/
def Good (q : List Nd) : Prop := 0 < q.length ∧ q.length ≤ 20000 ∧ ∀ t ∈ q, t.kids.length ≤ 1048576
theorem good_parts {n : Nd} {w2 : World} {a2 : Option Addr} {qs : List (List Nd)} {cap2 : Nat} (hp : Parts w2.heap.size w2 a2 qs) (hg : ∀ q ∈ qs, Good q) (hl : qs.length ≤ 5) :
    Calls Tryz.prog 198 #[.agg #[.int .i64 n.k, .int .i64 n.op, .string n.s, .string n.t, .slice none 0 0], .slice a2 qs.length cap2] w2 (PgOut (makeT n qs) w2) := by
  refine make_any n qs a2 cap2 w2 hp (fun q hq => (hg q hq).1) ?_ (by omega) (fun q hq => (hg q hq).2.2)
  have key : ∀ l : List (List Nd), (∀ q ∈ l, Good q) → sumL l ≤ l.length * 20000 := by
    intro l
    induction l with
    | nil => intro _; simp [sumL]
    | cons q l ih =>
      intro h
      have h1 := (h q (List.mem_cons_self ..)).2.1
      have h2 := ih (fun q hq => h q (List.mem_cons_of_mem _ hq))
      simp only [sumL, List.length_cons]
      omega
  have := key qs hg
  omega
set_option maxHeartbeats 1600000 in
theorem lval_ok {B p len cap : Nat} {w : World} {a : Option Addr} {zs : List Int} {s : Nat × Int} (D : Int) (E1 E2 : St → List Nd × St) (hD : -100 ≤ D ∧ D ≤ 100) (h1 : ExprC B p len cap a zs 146 (D - 1) E1) (h2 : ExprC B p len cap a zs 146 (D - 2) E2)
    (g1 : ∀ s, Good (E1 s).1) (g2 : ∀ s, Good (E2 s).1) (H : In B w p a len cap zs s) :
    Calls Tryz.prog 231 #[.pointer (some ⟨p, 0, none⟩), .int .i64 D] w (TOut B p a len cap zs (lvalG (exactG zs) E1 E2 s).1 (lvalG (exactG zs) E1 E2 s).2 w) := by
  have HI := Lib.hid H
  have H1 := Lib.hid h1
  have H2 := Lib.hid h2
  have G1' := Lib.hid g1
  have G2' := Lib.hid g2
  clear H h1 h2 g1 g2
  have hb := belowF_bd zs 4 s (by omega)
  obtain ⟨K, hK⟩ : ∃ K : Nat, (belowF zs 4 s).1 = K := ⟨(belowF zs 4 s).1.toNat, by omega⟩
  have HK := Lib.hid hK
  have hE : (exactG zs).bl 4 s = (K, (belowF zs 4 s).2) := by
    show ((belowF zs 4 s).1.toNat, (belowF zs 4 s).2) = _
    rw [hK, Int.toNat_natCast]
  rw [hK] at hb
  rcases (show K = 0 ∨ K = 1 ∨ K = 2 ∨ K = 3 by omega) with rfl | rfl | rfl | rfl
  · have HQ := Lib.hid (show lvalG (exactG zs) E1 E2 s = (makeT (nodeS 5 (pickS l2WordL zs (belowF zs 4 s).2)) [(E1 (belowF zs 11 (belowF zs 4 s).2).2).1], (E1 (belowF zs 11 (belowF zs 4 s).2).2).2) by unfold lvalG; rw [hE]; rfl)
    clear hK hE
    go_enter Tryz.func231, Tryz.ntmps231
    go_wp2_with fail
    refine (below_any 4 HI.out).mono ?_
    rintro e w1 ⟨he, I1, G1⟩
    rw [HK.out] at he
    subst he
    go_wp2_with fail
    refine (x_l2Word I1).mono ?_
    rintro e w2 ⟨⟨rfl, I2, G2⟩, Z2⟩
    go_wp2_with fail
    refine (H1.out _ _ I2).mono ?_
    rintro e w3 ⟨v3, rfl, T3, I3, G3⟩
    obtain ⟨a3, c3, rfl⟩ := T3.form
    go_wp2_with fail
    refine (good_parts (n := nodeS 5 (pickS l2WordL zs (belowF zs 4 s).2)) (parts_of [.slice a3 _ c3] [(E1 (belowF zs 11 (belowF zs 4 s).2).2).1] rfl (fun i h _ => by have e0 : i = 0 := (by simpa using h); subst e0; exact T3)) (by simpa using G1'.out _) (by simp)).mono ?_
    rintro e w4 hmk
    have HM := Lib.hid (TOut.make I3 HI.out.lt (grown_trans (grown_trans G1 G2) G3) ((Below.refl _ _).alloc (Nat.le_refl _) _) hmk)
    obtain ⟨v4, rfl, _⟩ := HM.out
    go_wp2
    go_ret
    rw [HQ.out]
    exact HM.out
  · have HQ := Lib.hid (show lvalG (exactG zs) E1 E2 s = (makeT (nodeO 6 0) [(E2 (belowF zs 4 s).2).1], (E2 (belowF zs 4 s).2).2) by unfold lvalG; rw [hE]; rfl)
    clear hK hE
    go_enter Tryz.func231, Tryz.ntmps231
    go_wp2_with fail
    refine (below_any 4 HI.out).mono ?_
    rintro e w1 ⟨he, I1, G1⟩
    rw [HK.out] at he
    subst he
    go_wp2_with fail
    refine (H2.out _ _ I1).mono ?_
    rintro e w3 ⟨v3, rfl, T3, I3, G3⟩
    obtain ⟨a3, c3, rfl⟩ := T3.form
    go_wp2_with fail
    refine (good_parts (n := nodeO 6 0) (parts_of [.slice a3 _ c3] [(E2 (belowF zs 4 s).2).1] rfl (fun i h _ => by have e0 : i = 0 := (by simpa using h); subst e0; exact T3)) (by simpa using G2'.out _) (by simp)).mono ?_
    rintro e w4 hmk
    have HM := Lib.hid (TOut.make I3 HI.out.lt (grown_trans G1 G3) ((Below.refl _ _).alloc (Nat.le_refl _) _) hmk)
    obtain ⟨v4, rfl, _⟩ := HM.out
    go_wp2
    go_ret
    rw [HQ.out]
    exact HM.out
  · have HQ := Lib.hid (show lvalG (exactG zs) E1 E2 s = (leaf 1 (pickS l2WordL zs (belowF zs 4 s).2), (belowF zs 11 (belowF zs 4 s).2).2) by unfold lvalG; rw [hE]; rfl)
    clear hK hE
    go_enter Tryz.func231, Tryz.ntmps231
    go_wp2_with fail
    refine (below_any 4 HI.out).mono ?_
    rintro e w1 ⟨he, I1, G1⟩
    rw [HK.out] at he
    subst he
    go_wp2_with fail
    refine (x_l2Word I1).mono ?_
    rintro e w2 ⟨⟨rfl, I2, G2⟩, Z2⟩
    go_wp2
    go_ret
    rw [HQ.out]
    exact TOut.leaf 1 _ I2 HI.out.lt (Nat.lt_of_le_of_lt G1.size Z2) (grown_trans G1 G2)
  · have HQ := Lib.hid (show lvalG (exactG zs) E1 E2 s = (leaf 1 (pickS l2WordL zs (belowF zs 4 s).2), (belowF zs 11 (belowF zs 4 s).2).2) by unfold lvalG; rw [hE]; rfl)
    clear hK hE
    go_enter Tryz.func231, Tryz.ntmps231
    go_wp2_with fail
    refine (below_any 4 HI.out).mono ?_
    rintro e w1 ⟨he, I1, G1⟩
    rw [HK.out] at he
    subst he
    go_wp2_with fail
    refine (x_l2Word I1).mono ?_
    rintro e w2 ⟨⟨rfl, I2, G2⟩, Z2⟩
    go_wp2
    go_ret
    rw [HQ.out]
    exact TOut.leaf 1 _ I2 HI.out.lt (Nat.lt_of_le_of_lt G1.size Z2) (grown_trans G1 G2)
end Go.Proofs.YtiilpnoaocfjgaaGreatDoor.draw

namespace Go.Proofs.YtiilpnoaocfjgaaGreatDoor.draw
open nd
set_option linter.unusedVariables false
def Small (k : Nat) (q : List Nd) : Prop := 0 < q.length ∧ q.length ≤ k ∧ ∀ t ∈ q, t.kids.length ≤ 1000
theorem Small.mono {a b : Nat} {q : List Nd} (h : Small a q) (hab : a ≤ b) : Small b q := ⟨h.1, Nat.le_trans h.2.1 hab, h.2.2⟩
theorem Small.good {k : Nat} {q : List Nd} (h : Small k q) (hk : k ≤ 20000) : Good q := ⟨h.1, Nat.le_trans h.2.1 hk, fun t ht => Nat.le_trans (h.2.2 t ht) (by decide)⟩
theorem go_kids : ∀ (ps : List (List Nd)) (out : List Nd) (ks : List Int), (∀ q ∈ ps, ∀ t ∈ q, t.kids.length ≤ 1000) → (∀ t ∈ out, t.kids.length ≤ 1000) → ∀ t ∈ (makeGo ps out ks).1, t.kids.length ≤ 1000 := by
  intro ps
  induction ps with
  | nil => intro out ks _ h; exact h
  | cons q ps ih =>
    intro out ks h1 h2
    refine ih _ _ (fun q' hq => h1 q' (List.mem_cons_of_mem _ hq)) ?_
    intro t ht
    rcases List.mem_append.1 ht with ht | ht
    · exact h2 t ht
    · obtain ⟨t', ht', rfl⟩ := List.mem_map.1 ht
      have := h1 q (List.mem_cons_self ..) t' ht'
      simpa [shN, shK] using this
theorem sum_le {k : Nat} : ∀ ps : List (List Nd), (∀ q ∈ ps, Small k q) → sumL ps ≤ ps.length * k := by
  intro ps
  induction ps with
  | nil => intro _; simp [sumL]
  | cons q ps ih =>
    intro h
    have h1 := (h q (List.mem_cons_self ..)).2.1
    have h2 := ih (fun q hq => h q (List.mem_cons_of_mem _ hq))
    simp only [sumL, List.length_cons, Nat.succ_mul]
    omega
theorem small_make {k m : Nat} (n : Nd) (ps : List (List Nd)) (h : ∀ q ∈ ps, Small k q) (hm : ps.length ≤ m) (hm2 : m ≤ 1000) : Small (1 + m * k) (makeT n ps) := by
  refine ⟨by rw [makeT_len]; omega, ?_, ?_⟩
  · rw [makeT_len]
    have h1 := sum_le ps h
    have h2 := Nat.mul_le_mul_right k hm
    omega
  · intro t ht
    unfold makeT at ht
    rcases List.mem_append.1 ht with ht | ht
    · exact go_kids ps [] [] (fun q hq => (h q hq).2.2) (fun t ht => by cases ht) t ht
    · rw [List.mem_singleton] at ht
      subst ht
      show (makeGo ps [] []).2.length ≤ 1000
      rw [makeGo_klen]
      simp
      omega
def SmE (k : Nat) (E : St → List Nd × St) : Prop := ∀ s, Small k (E s).1
theorem sm0 (n : Nd) : Small 1 (makeT n []) := (small_make (k := 0) (m := 0) n [] (fun q hq => (by cases hq)) (Nat.le_refl _) (by decide)).mono (by decide)
theorem sm1 {k : Nat} (n : Nd) {q : List Nd} (h : Small k q) : Small (1 + k) (makeT n [q]) := (small_make (k := k) (m := 1) n [q] (fun r hr => by rw [List.mem_singleton] at hr; rw [hr]; exact h) (Nat.le_refl _) (by decide)).mono (by omega)
theorem sm_list {k m : Nat} (n : Nd) {l : List (List Nd)} (h : (∀ q ∈ l, Small k q) ∧ l.length ≤ m) (hm : m ≤ 1000) : Small (1 + m * k) (makeT n l) := small_make n l h.1 h.2 hm
theorem sm_cons {k m : Nat} {q : List Nd} {l : List (List Nd)} (hq : Small k q) (h : (∀ q ∈ l, Small k q) ∧ l.length ≤ m) : (∀ r ∈ q :: l, Small k r) ∧ (q :: l).length ≤ m + 1 := by
  refine ⟨fun r hr => ?_, ?_⟩
  · rcases List.mem_cons.1 hr with e | e
    · rw [e]; exact hq
    · exact h.1 r e
  · exact Nat.succ_le_succ h.2
theorem sm_nil {k : Nat} : (∀ q ∈ ([] : List (List Nd)), Small k q) ∧ ([] : List (List Nd)).length ≤ 0 := ⟨fun q hq => (by cases hq), Nat.le_refl _⟩
theorem exact_lt (zs : List Int) (n : Nat) (s : St) (hn : 0 < n) : ((exactG zs).bl n s).1 < n := by
  have h := belowF_bd zs n s (by omega)
  show (belowF zs n s).1.toNat < n
  omega
theorem times_small {k : Nat} {E : St → List Nd × St} (h : SmE k E) : ∀ n s, (∀ q ∈ (timesG E n s).1, Small k q) ∧ (timesG E n s).1.length ≤ n := by
  intro n
  induction n with
  | zero => intro s; exact ⟨fun q hq => (by cases hq), Nat.le_refl _⟩
  | succ n ih => intro s; exact sm_cons (h s) (ih _)
theorem list_small {k : Nat} (zs : List Int) {E : St → List Nd × St} (h : SmE k E) (least most : Nat) (hl : least ≤ most) (s : St) : (∀ q ∈ (listG (exactG zs) E least most s).1, Small k q) ∧ (listG (exactG zs) E least most s).1.length ≤ most := by
  have hb := exact_lt zs (most - least + 1) s (by omega)
  obtain ⟨h1, h2⟩ := times_small h (least + ((exactG zs).bl (most - least + 1) s).1) ((exactG zs).bl (most - least + 1) s).2
  exact ⟨h1, Nat.le_trans h2 (by omega)⟩
theorem word_small (zs : List Int) : SmE 1 (wordG (exactG zs)) := fun s => sm0 _
theorem leaf_small (zs : List Int) : SmE 1 (leafG (exactG zs)) := by
  intro s
  unfold leafG
  dsimp only
  generalize ((exactG zs).bl 7 s).1 = b
  rcases b with _ | _ | _ | b
  · exact sm0 _
  · exact sm0 _
  · show Small 1 (if ((exactG zs).bl 2 ((exactG zs).bl 7 s).2).1 = 0 then _ else _ : List Nd × St).1
    split
    · exact sm0 _
    · exact sm0 _
  · exact sm0 _
theorem lval_small {k : Nat} (zs : List Int) {E1 E2 : St → List Nd × St} (h1 : SmE k E1) (h2 : SmE k E2) : SmE (1 + k) (lvalG (exactG zs) E1 E2) := by
  intro s
  unfold lvalG
  dsimp only
  generalize ((exactG zs).bl 4 s).1 = b
  rcases b with _ | _ | b
  · exact sm1 _ (h1 _)
  · exact sm1 _ (h2 _)
  · exact (sm0 _).mono (by omega)
theorem step_small {k : Nat} (zs : List Int) {E1 E2 E3 : St → List Nd × St} (h1 : SmE k E1) (h2 : SmE k E2) (h3 : SmE k E3) : SmE (3 + 3 * k) (stepG (exactG zs) E1 E2 E3) := by
  intro s
  unfold stepG
  dsimp only
  generalize ((exactG zs).bl 2 s).1 = i
  generalize ((exactG zs).bl 16 ((exactG zs).bl 2 s).2).1 = b
  rcases b with _ | _ | _ | _ | _ | _ | _ | _ | _ | _ | _ | _ | b
  · exact (leaf_small zs _).mono (by omega)
  · exact (lval_small zs h1 h2 _).mono (by omega)
  · exact (sm1 _ (h1 _)).mono (by omega)
  · exact (sm_list _ (list_small zs h1 0 3 (by omega) _) (by decide)).mono (by omega)
  · exact (sm_list _ (list_small zs h2 0 3 (by omega) _) (by decide)).mono (by omega)
  · exact (sm1 _ (lval_small zs h2 h3 _)).mono (by omega)
  · exact (sm1 _ (lval_small zs h2 h3 _)).mono (by omega)
  · exact (sm1 _ (h1 _)).mono (by omega)
  · exact (sm1 _ (h1 _)).mono (by omega)
  · exact (sm_list _ (list_small zs h1 1 2 (by omega) _) (by decide)).mono (by omega)
  · exact (sm_list (m := 3) _ (sm_cons (h1 _) (sm_cons (h1 _) (sm_cons (h1 _) sm_nil))) (by decide)).mono (by omega)
  · exact (sm_list (m := 2) _ (sm_cons (lval_small zs h2 h3 _) (sm_cons ((h1 _).mono (by omega)) sm_nil)) (by decide)).mono (by omega)
  · exact (sm_list (m := 2) _ (sm_cons (h1 _) (sm_cons (h1 _) sm_nil)) (by decide)).mono (by omega)
def kZ : Nat → Nat
  | 0 => 1
  | d + 1 => 3 + 3 * kZ d
theorem SmE.mono {a b : Nat} {E : St → List Nd × St} (h : SmE a E) (hab : a ≤ b) : SmE b E := fun s => (h s).mono hab
theorem exprs_small (zs : List Int) : ∀ d, SmE (kZ d) (exprs (exactG zs) d).1 ∧ SmE (kZ d) (exprs (exactG zs) d).2.1 ∧ SmE (kZ d) (exprs (exactG zs) d).2.2 := by
  intro d
  induction d with
  | zero => exact ⟨leaf_small zs, leaf_small zs, leaf_small zs⟩
  | succ d ih => exact ⟨step_small zs ih.1 ih.2.1 ih.2.2, ih.1.mono (by simp only [kZ]; omega), ih.2.1.mono (by simp only [kZ]; omega)⟩
end Go.Proofs.YtiilpnoaocfjgaaGreatDoor.draw

namespace Go.Proofs.YtiilpnoaocfjgaaGreatDoor.draw
open Go.ChangeShapes Go.WideShapes Go.ChangeAt Go.RowKit
open nd
set_option linter.unusedVariables false
set_option maxRecDepth 20000

/-- A tree at v, which stays while no block from L on that there is today, but g, changes. -/
def TA (L g : Nat) (v : Value) (q : List Nd) (w : World) : Prop :=
  ∃ a c, v = .slice a q.length c ∧ ∀ w' : World, w.heap.size ≤ w'.heap.size → (∀ k, L ≤ k → k < w.heap.size → k ≠ g → w'.heap[k]? = w.heap[k]?) → Lies w'.heap.size w' a q
theorem TA.lies {L g n c : Nat} {a : Option Addr} {q : List Nd} {w : World} (h : TA L g (.slice a n c) q w) : Lies w.heap.size w a q := by
  obtain ⟨a', c', e, h⟩ := h
  injection e with e _ _
  subst e
  exact h w (Nat.le_refl _) (fun _ _ _ _ => rfl)
theorem TA.step {L g g' : Nat} {v : Value} {q : List Nd} {w w' : World} (h : TA L g v q w) (hs : w.heap.size ≤ w'.heap.size) (hk : ∀ k, L ≤ k → k < w.heap.size → k ≠ g → w'.heap[k]? = w.heap[k]?) (hg : g = g' ∨ w.heap.size ≤ g') : TA L g' v q w' := by
  obtain ⟨a, c, e, h⟩ := h
  refine ⟨a, c, e, fun w2 hs2 hk2 => h w2 (Nat.le_trans hs hs2) (fun k h1 h2 h3 => ?_)⟩
  rw [hk2 k h1 (Nat.lt_of_lt_of_le h2 hs) (fun e => by rcases hg with hg | hg <;> omega)]
  exact hk k h1 h2 h3
theorem TR.apart {p L g S : Nat} {v : Value} {q : List Nd} {w : World} (h : TR p S v q w) (hg : g < S) (hL : L ≤ S) : TA L g v q w := by
  obtain ⟨a, c, e⟩ := h.form
  subst e
  refine ⟨a, c, rfl, fun w' hs hk => ?_⟩
  obtain ⟨h0, z, r, hz, hp, hr⟩ := h
  have hp' : PT S (.slice a q.length c) z r w' := by
    obtain ⟨h1, h2, h3, h4, h5⟩ := hp
    refine ⟨⟨h1.1, h1.2.elim .inl (fun ⟨b, cap, cur, hv, hb, hblk, r⟩ => .inr ⟨b, cap, cur, hv, hb, ?_, r⟩)⟩, fun i hi => ?_, h3, h4, fun i hi => Nat.lt_of_lt_of_le (h5 i hi) hs⟩
    · rw [hk b (by omega) (lt_of_heap hblk) (by omega)]
      exact hblk
    · rcases h2 i hi with h2 | ⟨cap, e1, e2, e3⟩
      · exact .inl h2
      · exact .inr ⟨cap, e1, e2.of_block (hk (r i) (by omega) (h5 i hi) (by omega)), e3⟩
  rw [← hz]
  exact hp'.lies

/-! ### A row of slices, built by append -/
theorem Tryz.infoNodes : (Tryz.prog.info? 29).map (fun i => (i.zero, i.size, i.bytes)) = some (some (.slice none 0 0), 1, 24) := by kernel_rfl
def OwnP (B : Nat) (v : Value) (vs : List Value) (w : World) : Prop := w.ownsRow B 29 1 v vs.length vs
theorem OwnP.lit {B : Nat} {w : World} (hB : B ≤ w.heap.size) : OwnP B (.slice (some ⟨w.heap.size, 0, none⟩) 0 0) [] (w.alloc (.cells #[] 29)) :=
  World.ownsRow_lit w #[] 0 hB (by unfold maxLen; omega) rfl
theorem wpList_append_tree (w : World) (u : Value) {ops : Array Oper} {rest : List Oper} {o : Oper} {a : Act} {Q : Exit → Act → World → Prop} (hgd : o.guard = none) (s x : Operand)
    (ho : o.op = .call { callee := .builtin .append, args := #[s, x], argTypes := #[182, 182] }) (B : Nat) (v : Value) (vs : List Value) (hs : a.eval s = v)
    (hown : OwnP B v vs w) (hx : a.eval x = .slice (some ⟨w.heap.size, 0, none⟩) 1 1) (hu : u.oneCell' = true) (hn : vs.length ≤ 1048576) (hB : B ≤ w.heap.size)
    (h : ∀ g cap w', OwnP B (.slice (some ⟨g, 0, none⟩) (vs.length + 1) cap) (vs ++ [u]) w' → w.grownBy w' v.ownBlock → (v.ownBlock = some g ∨ w.heap.size ≤ g) → wpList Tryz.prog ops Q rest (a.put o.dst (.slice (some ⟨g, 0, none⟩) (vs.length + 1) cap)) w') :
    wpList Tryz.prog ops Q (o :: rest) a (w.alloc (.cells #[u] 29)) := by
  obtain ⟨i0, hi, hz0, hz1, hz2⟩ := info_parts Tryz.infoNodes
  refine wpList_append_lies _ hgd s x 182 ho B 29 i0 _ 1 24 Tryz.underlying182 hi hz0 hz1 hz2 rfl (by decide) v vs.length vs hs (hown.alloc _) ⟨w.heap.size, 0, none⟩ 1 1 [u] hx rfl ?_ ?_ (by decide) (by unfold maxLen; omega) (by omega) (by simp; omega) (w.heap.size + 1) (by simp) ?_
  · intro j y hj
    rw [show ((⟨w.heap.size, 0, none⟩ : Addr).add j) = ⟨w.heap.size, j, none⟩ by unfold Addr.add; split <;> simp_all]
    rw [cell_of_row _ w.heap.size j _ _ _ (heap_alloc_new w _)]
    simpa using hj
  · intro y hy
    simp at hy
    rcases hy with rfl
    exact hu
  · intro g cap w' hown' hg hor _
    refine h g cap w' ?_ ?_ (hor.imp id (fun h => by omega))
    · unfold OwnP
      rw [List.length_append]
      exact hown'
    · exact ⟨hg.os, hg.tape, hg.output, by have := hg.size; simp at this; omega, fun k hk hne => by rw [hg.block k (by simp; omega) hne]; exact Below.heap_alloc w _ k hk⟩

/-- What the loop holds: the row at block g, the trees so far, the cursor at s. -/
structure LS (B p len cap : Nat) (a : Option Addr) (zs : List Int) (L g c : Nat) (vs : List Value) (qs : List (List Nd)) (s : St) (w : World) : Prop where
  own : OwnP L (.slice (some ⟨g, 0, none⟩) vs.length c) vs w
  ln : vs.length = qs.length
  tr : ∀ i (h1 : i < vs.length) (h2 : i < qs.length), TA L g vs[i] qs[i] w
  cur : In B w p a len cap zs s
  lw : L ≤ w.heap.size
  pw : p < L
section
variable {B p len cap L g c : Nat} {a : Option Addr} {zs : List Int} {W w w1 : World} {vs : List Value} {qs : List (List Nd)} {s s1 : St}
theorem LS.g_lt (h : LS B p len cap a zs L g c vs qs s w) : L ≤ g ∧ g < w.heap.size := World.ownsRow.lt h.own g rfl
theorem LS.start (H : In B w p a len cap zs s) (hL : L ≤ w.heap.size) (hp : p < L) : LS B p len cap a zs L w.heap.size 0 [] [] s (w.alloc (.cells #[] 29)) :=
  ⟨OwnP.lit hL, rfl, fun i h1 _ => by simp at h1, H.keep ((Below.refl w.heap.size w).alloc (Nat.le_refl _) _) H.lt, by simp; omega, hp⟩
/-- A draw beside it. -/
theorem LS.next (h : LS B p len cap a zs L g c vs qs s w) (H : In B w1 p a len cap zs s1) (hg : w.grownBy w1 (some p)) : LS B p len cap a zs L g c vs qs s1 w1 := by
  have hgl := h.g_lt
  have hpw := h.pw
  refine ⟨World.ownsRow.kept h.own hg (.inr (by simp [Value.ownBlock]; omega)), h.ln, fun i h1 h2 => (h.tr i h1 h2).step hg.size (fun k hk hk2 _ => hg.block k hk2 (by simp; omega)) (.inl rfl), H, Nat.le_trans h.lw hg.size, h.pw⟩
/-- New memory beside it. -/
theorem LS.over (h : LS B p len cap a zs L g c vs qs s w) (hb : Below w.heap.size w w1) : LS B p len cap a zs L g c vs qs s w1 :=
  h.next (h.cur.keep hb h.cur.lt) (grown_below ⟨rfl, rfl, rfl, Nat.le_refl _, fun _ _ _ => rfl⟩ hb rfl)
/-- A cell of a block below L set. -/
theorem LS.set (h : LS B p len cap a zs L g c vs qs s w) (b j : Nat) (u : Value) (hb : b < L) (hp : p < b) : LS B p len cap a zs L g c vs qs s (w.setCell ⟨b, j, none⟩ u) := by
  have hgl := h.g_lt
  have hbl : Below b w (w.setCell ⟨b, j, none⟩ u) := (Below.refl b w).setCell (p := ⟨b, j, none⟩) (Nat.le_refl _) u
  have hgr : w.grownBy (w.setCell ⟨b, j, none⟩ u) (some b) := grown_one w b j u
  refine ⟨World.ownsRow.kept h.own hgr (.inr (by simp [Value.ownBlock]; omega)), h.ln, fun i h1 h2 => (h.tr i h1 h2).step hgr.size (fun k hk hk2 _ => hgr.block k hk2 (by simp; omega)) (.inl rfl), h.cur.keep hbl hp, Nat.le_trans h.lw hgr.size, h.pw⟩
theorem LS.push {S g' c' : Nat} {u : Value} {q : List Nd} {w2 : World} (h : LS B p len cap a zs L g c vs qs s w) (hu : TR p S u q w) (hS : g < S) (ho : OwnP L (.slice (some ⟨g', 0, none⟩) (vs.length + 1) c') (vs ++ [u]) w2) (hg : w.grownBy w2 (some g)) (hor : g = g' ∨ w.heap.size ≤ g') : LS B p len cap a zs L g' c' (vs ++ [u]) (qs ++ [q]) s w2 := by
  have hgl := h.g_lt
  have hpw := h.pw
  have hst : ∀ {v : Value} {t : List Nd}, TA L g v t w → TA L g' v t w2 := fun ht => ht.step hg.size (fun k _ hk hne => hg.block k hk (by simpa using hne)) hor
  refine ⟨by rw [List.length_append]; exact ho, by simp [h.ln], fun i h1 h2 => ?_, h.cur.keep (below_of hg hgl.1 h.lw) hpw, Nat.le_trans h.lw hg.size, h.pw⟩
  by_cases he : i < vs.length
  · rw [List.getElem_append_left he, List.getElem_append_left (by rw [← h.ln]; exact he)]
    exact hst (h.tr i he _)
  · have e0 : i = vs.length := by simp at h1; omega
    subst e0
    have e1 : (vs ++ [u])[vs.length] = u := by simp
    have e2 : (qs ++ [q])[vs.length] = q := by simp [h.ln]
    rw [e1, e2]
    exact hst (hu.apart hS (by omega))
/-- What an append leaves of what came in. -/
theorem LS.grown {w2 : World} (h : LS B p len cap a zs L g c vs qs s w) (h0 : W.grownBy w (some p)) (hW : W.heap.size ≤ L) (hg : w.grownBy w2 (some g)) : W.grownBy w2 (some p) :=
  grown_below h0 (below_of hg (Nat.le_trans hW h.g_lt.1) h0.size) rfl
theorem LS.parts (h : LS B p len cap a zs L g c vs qs s w) : Parts w.heap.size w (some ⟨g, 0, none⟩) qs := by
  refine .inr ⟨g, 0, rfl, h.g_lt.2, fun i hi => ?_⟩
  have hv : i < vs.length := by rw [h.ln]; exact hi
  have ht := h.tr i hv hi
  obtain ⟨ai, ci, e, _⟩ := id ht
  rw [e] at ht
  refine ⟨ai, ci, ?_, ht.lies⟩
  rw [World.ownsRow.cellAt h.own (0 + i) (by omega)]
  simp [hv, e]
end
/-- What a function that draws a list of trees answers. -/
def LOut (B p : Nat) (a : Option Addr) (len cap : Nat) (zs : List Int) (qs : List (List Nd)) (s' : St) (w : World) (e : Ending) (w' : World) : Prop :=
  ∃ g c vs, e = .returned (.slice (some ⟨g, 0, none⟩) qs.length c) ∧ LS B p len cap a zs w.heap.size g c vs qs s' w' ∧ w.grownBy w' (some p)

theorem times_snoc {σ T : Type} (E : σ → T × σ) : ∀ n s, timesG E (n + 1) s = ((timesG E n s).1 ++ [(E (timesG E n s).2).1], (E (timesG E n s).2).2) := by
  intro n
  induction n with
  | zero => intro s; rfl
  | succ n ih =>
    intro s
    show ((E s).1 :: (timesG E (n + 1) (E s).2).1, (timesG E (n + 1) (E s).2).2) = _
    rw [ih]
    rfl
theorem times_len {σ T : Type} (E : σ → T × σ) : ∀ n s, (timesG E n s).1.length = n := by
  intro n
  induction n with
  | zero => intro s; rfl
  | succ n ih => intro s; simp [timesG, ih]
def RelList (B p len cap : Nat) (a : Option Addr) (zs : List Int) (W : World) (E : St → List Nd × St) (N : Nat) (s : St) (v n : Value) (wr : World) : Prop :=
  ∃ (I g c : Nat) (vs : List Value), I ≤ N ∧ n = .int .i64 ((N : Int) - I) ∧ v = .slice (some ⟨g, 0, none⟩) I c ∧ LS B p len cap a zs W.heap.size g c vs (timesG E I s).1 (timesG E I s).2 wr ∧ W.grownBy wr (some p)

set_option maxHeartbeats 1600000 in
theorem list_ok {B p len cap : Nat} {w : World} {a : Option Addr} {zs : List Int} {s : Nat × Int} (least most : Nat) (D : Int) (E : St → List Nd × St) (hlm : least ≤ most) (hm : most ≤ 200) (h1 : ExprC B p len cap a zs 146 D E) (H : In B w p a len cap zs s) :
    Calls Tryz.prog 232 #[.pointer (some ⟨p, 0, none⟩), .int .i64 least, .int .i64 most, .int .i64 D] w (LOut B p a len cap zs (listG (exactG zs) E least most s).1 (listG (exactG zs) E least most s).2 w) := by
  have HI := Lib.hid H
  have H1 := Lib.hid h1
  clear H h1
  have hb := belowF_bd zs ((most : Int) - least + 1) s (by omega)
  obtain ⟨K, hK⟩ : ∃ K : Nat, (belowF zs ((most : Int) - least + 1) s).1 = K := ⟨(belowF zs ((most : Int) - least + 1) s).1.toNat, by omega⟩
  obtain ⟨t, ht⟩ : ∃ t, t = (belowF zs ((most : Int) - least + 1) s).2 := ⟨_, rfl⟩
  have HK := Lib.hid hK
  have HT := Lib.hid ht
  rw [hK] at hb
  obtain ⟨N, hN⟩ : ∃ N : Nat, N = least + K := ⟨_, rfl⟩
  have HN := Lib.hid hN
  have hNb : N ≤ 200 := by omega
  have HQ := Lib.hid (show listG (exactG zs) E least most s = timesG E N t by
    have e : (exactG zs).bl (most - least + 1) s = (K, t) := by
      show ((belowF zs ((most - least + 1 : Nat) : Int) s).1.toNat, (belowF zs ((most - least + 1 : Nat) : Int) s).2) = _
      rw [show ((most - least + 1 : Nat) : Int) = (most : Int) - least + 1 by omega, hK, Int.toNat_natCast, ← ht]
    unfold listG
    rw [e, hN])
  have HP := HI.out.lt
  have hq1 : ((least : Int) + (K : Int)) = (N : Int) := by omega
  clear hK ht hN
  go_enter Tryz.func232, Tryz.ntmps232
  have L0 := Lib.hid (LS.start HI.out (Nat.le_refl _) HP)
  have HG0 := Lib.hid (grown_below (p := p) ⟨rfl, rfl, rfl, Nat.le_refl _, fun _ _ _ => rfl⟩ ((Below.refl w.heap.size w).alloc (Nat.le_refl _) (.cells #[] 29)) rfl)
  go_wp2_with fail
  refine (below_any _ L0.out.cur).mono ?_
  rintro e w1 ⟨he, I1, G1⟩
  rw [HK.out] at he
  subst he
  rw [← HT.out] at I1
  have L1 := Lib.hid (L0.out.next I1 G1)
  have HG1 := Lib.hid (grown_trans HG0.out G1)
  clear I1 G1
  go_wp2
  go_loopw [9, 10] (fun v n wr => RelList B p len cap a zs w E N t v n wr) (fun _ n _ => (intOf n).toNat)
  case atStart => exact ⟨0, w.heap.size, 0, [], by omega, by rw [HN.out]; simp, rfl, L1.out, HG1.out⟩
  case round =>
    obtain ⟨I, g, c, vs, hI, rfl, rfl, hls, hgr⟩ := hrel
    have hvl := hls.ln
    rw [times_len] at hvl
    subst hvl
    have HL := Lib.hid hls
    have HG := Lib.hid hgr
    clear hls hgr
    by_cases hlt : vs.length < N
    · have hi : (vs.length : Int) < (N : Int) := by omega
      have hi2 : 0 < (N : Int) - (vs.length : Int) := by omega
      go_wp2_with fail
      refine (H1.out _ _ HL.out.cur).mono ?_
      rintro e w2 ⟨u, rfl, T2, I2, G2⟩
      obtain ⟨au, cu, rfl⟩ := T2.form
      have L2 := Lib.hid (HL.out.next I2 G2)
      have HT2 := Lib.hid T2
      have HG2 := Lib.hid (grown_trans HG.out G2)
      clear T2 I2 G2
      go_wp2_with (refine wpList_append_tree _ _ rfl _ _ rfl w.heap.size (.slice (some ⟨g, 0, none⟩) vs.length c) vs rfl L2.out.own rfl rfl (by omega) L2.out.lw ?_; intro g3 c3 w3 own3 gr3 or3; have L3 := Lib.hid (L2.out.push HT2.out HL.out.g_lt.2 own3 gr3 (or3.imp (fun e => by simpa [Value.ownBlock] using e) id)); have HG3 := Lib.hid (L2.out.grown HG2.out (Nat.le_refl _) gr3))
      go_roundw
      case rel =>
        refine ⟨vs.length + 1, g3, c3, vs ++ [.slice au (E (timesG E vs.length t).2).1.length cu], by omega, by go_num, rfl, ?_⟩
        rw [times_snoc]
        exact ⟨L3.out, HG3.out⟩
      case measure => simp [intOf]; omega
    · obtain rfl : vs.length = N := by omega
      have hi2 : ¬ 0 < (vs.length : Int) - (vs.length : Int) := by omega
      go_wp2
      go_ret
      rw [HQ.out]
      exact ⟨g, c, vs, by rw [times_len]; rfl, HL.out, HG.out⟩

theorem pickInt_lit {B p len cap : Nat} {w : World} {a : Option Addr} {zs : List Int} {s : Nat × Int} (n : Nat) (L : List Int) (H : In B w p a len cap zs s) (hL : L.length = n) (hn : 0 < n) (hn2 : n ≤ 1000) :
    Calls Tryz.prog 111 #[.pointer (some ⟨p, 0, none⟩), .slice (some ⟨w.heap.size, 0, none⟩) n n] (w.alloc (.cells (L.map (Value.int .i64)).toArray 3)) (fun e w' => Out B p a len cap zs (.int .i64 (piG (exactG zs) L s).1) (piG (exactG zs) L s).2 w e w' ∧ w.heap.size < w'.heap.size) := by
  have hlt := H.lt
  have e : piG (exactG zs) L s = (L.getD (belowF zs n s).1.toNat 0, (belowF zs n s).2) := by
    unfold piG
    rw [hL]
    rfl
  rw [e]
  refine (pickInt_any w.heap.size n L (H.keep ((Below.refl w.heap.size w).alloc (Nat.le_refl _) _) hlt) (heap_alloc_new w _) hL hn (by omega) hn2).mono ?_
  rintro e w' ⟨he, hI, hG⟩
  exact ⟨⟨he, hI, grown_trans (grown_below ⟨rfl, rfl, rfl, Nat.le_refl _, fun _ _ _ => rfl⟩ ((Below.refl w.heap.size w).alloc (Nat.le_refl _) _) rfl) hG⟩, Nat.lt_of_lt_of_le (by simp) hG.size⟩
theorem binop_ok {B p len cap : Nat} {w : World} {a : Option Addr} {zs : List Int} {s : Nat × Int} (H : In B w p a len cap zs s) :
    Calls Tryz.prog 233 #[.pointer (some ⟨p, 0, none⟩)] w (fun e w' => Out B p a len cap zs (.int .i64 (piG (exactG zs) l7BinL s).1) (piG (exactG zs) l7BinL s).2 w e w' ∧ w.heap.size < w'.heap.size) := by
  have HI := Lib.hid H
  clear H
  go_enter Tryz.func233, Tryz.ntmps233
  go_wp2_with fail
  refine (pickInt_lit 21 l7BinL HI.out rfl (by decide) (by decide)).mono ?_
  rintro e w1 ⟨⟨rfl, I1, G1⟩, Z1⟩
  have HI1 := Lib.hid I1
  clear I1
  go_wp2
  go_ret
  exact ⟨⟨rfl, HI1.out, G1⟩, Z1⟩
end Go.Proofs.YtiilpnoaocfjgaaGreatDoor.draw
