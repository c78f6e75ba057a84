/-
  Lemmas over this seat's program for slices of bytes: 'string(b)', '[]byte{..}'.
  The verifier's drawing functions (spec.l1New, l1Byte, l1Below ..): what each answers, as a plain function of the bytes that came in and of the cursor.
  The verifier's drawing functions of chapter 1 (spec.l1New, l1PickInt, l1Num, l1Text, DrawVar, DrawHex, DrawReadVar): what each answers.
  A slice of bytes that came in ('IsRow'), as a drawing function reads it ('Code'); laws.big.
  laws.at: a byte of a code, or one that follows from it: some number below 256.
  impl's exprParser: listed, group, call, name, builtin: contracts.
  impl's exprParser: group, call, name, builtin: contracts.
  impl's exprParser: call, name, builtin: contracts.
  impl's exprParser: begun, continued, mayBeFirst: contracts.
  impl's exprParser: first: contracts.
-/
import Derived.Test.YtiilpnoaocfjgaaGreatDoorRows
import Derived.Test.YtiilpnoaocfjgaaGreatDoorBase
import Derived.WalkKit
import Derived.Laws.IdiomStrings
import Derived.Laws.OwnMore
import Derived.ProofKit
import Derived.OpenShut
import Derived.ChangeOld
import Derived.Below
import Derived.WalkSpells
import Derived.WalkLawsBesides
import Derived.BigQuiet
import Derived.Deep.QuietTactic
import Derived.RegionTactic
import Derived.StillTactics
import Derived.Lib.Strings
import Derived.Test.YtiilpnoaocfjgaaGreatDoorPeElems
import Derived.Test.YtiilpnoaocfjgaaGreatDoorOperand
import Derived.Test.YtiilpnoaocfjgaaGreatDoorLevel
namespace Go.Proofs.YtiilpnoaocfjgaaGreatDoor
open Go.RowKit
set_option maxRecDepth 20000

theorem Tryz.infoByte : (Tryz.prog.info? 5).map (fun i => (i.zero, i.size, i.bytes)) = some (some (.int .u8 0), 1, 1) := by kernel_rfl

/-- Bytes as the cells of a row. -/
def cellsOf (l : List UInt8) : List Value := l.map (fun b => Value.int .u8 (b.toNat : Int))

theorem cellsOf_snoc (l : List UInt8) (b : UInt8) : cellsOf (l ++ [b]) = cellsOf l ++ [.int .u8 (b.toNat : Int)] := by simp [cellsOf]
theorem cellsOf_length (l : List UInt8) : (cellsOf l).length = l.length := by simp [cellsOf]

/-- 'string(b)', b owned by the call and holding l. -/
theorem conv_own (w : World) (base : Nat) (v : Value) (n : Nat) (l : List UInt8) (hn : n = l.length) (h : w.ownsRow base 5 1 v n (cellsOf l)) :
    (convert 22 9 v).run Tryz.prog w = .ok (.string ⟨l.toArray⟩) w := by
  subst hn
  rcases h.2 with ⟨rfl, hl⟩ | ⟨g, cap, cur, rfl, hb, hg, hnc, hcm, hcs, htake⟩
  · obtain rfl : l = [] := List.length_eq_zero_iff.1 hl
    rw [run_convert_bytes_string w 22 9 5 none 0 0 Tryz.underlying22 Tryz.underlying5 Tryz.underlying9]
    rfl
  · refine run_convert_bytes_back w 22 9 5 ⟨g, 0, none⟩ cap l Tryz.underlying22 Tryz.underlying5 Tryz.underlying9 ?_
    intro j hj
    have := World.ownsRow.cellAt h j (by simpa using hj)
    have e : (⟨g, 0, none⟩ : Addr).add j = ⟨g, j, none⟩ := by
      simp only [Addr.add, Nat.zero_add]
      split
      · next h0 => subst h0; rfl
      · rfl
    rw [e, this]
    simp [cellsOf, hj]

/-- 'string([]byte{x})'. -/
theorem conv_one (w : World) (x : Int) (h0 : 0 ≤ x) (h1 : x < 256) :
    (convert 22 9 (.slice (some ⟨w.heap.size, 0, none⟩) 1 1)).run Tryz.prog (w.alloc (.cells #[.int .u8 x] 5)) = .ok (.string ⟨#[UInt8.ofNat x.toNat]⟩) (w.alloc (.cells #[.int .u8 x] 5)) := by
  refine conv_own _ 0 _ 1 [UInt8.ofNat x.toNat] rfl ?_
  have := World.ownsRow_lit (base := 0) (e := 5) (size := 1) w #[.int .u8 x] 1 (by omega) (by unfold maxLen; omega) rfl
  have e : cellsOf [UInt8.ofNat x.toNat] = [.int .u8 x] := by
    simp [cellsOf]
    omega
  rw [e]
  exact this

/-- 'append(b, x)', b nil or the call's own. -/
theorem wpList_append_byte (w : World) (y : Int) {ops : Array Oper} {rest : List Oper} {o : Oper} {a : Act} {Q : Exit → Act → World → Prop} (hgd : o.guard = none) (s x : Operand)
    (ho : o.op = .call { callee := .builtin .append, args := #[s, x], argTypes := #[22, 22] }) (base : Nat) (v : Value) (n : Nat) (l : List UInt8) (hs : a.eval s = v)
    (hown : w.ownsRow base 5 1 v n (cellsOf l)) (h0 : 0 ≤ y) (h1 : y < 256) (hx : a.eval x = .slice (some ⟨w.heap.size, 0, none⟩) 1 1) (hn : n < 70368744177664) (hbase : base ≤ w.heap.size)
    (h : ∀ v' w', w'.ownsRow base 5 1 v' (n + 1) (cellsOf (l ++ [UInt8.ofNat y.toNat])) → (∀ W0, Below base W0 w → Below base W0 w') → wpList Tryz.prog ops Q rest (a.put o.dst v') w') :
    wpList Tryz.prog ops Q (o :: rest) a (w.alloc (.cells #[.int .u8 y] 5)) := by
  obtain ⟨i0, hi, hz0, hz1, hz2⟩ := info_parts Tryz.infoByte
  have ey : Value.int .u8 ((UInt8.ofNat y.toNat).toNat : Int) = .int .u8 y := by
    congr 1
    simp
    omega
  refine wpList_append_own _ hgd s x 22 ho base 5 i0 (.int .u8 0) 1 1 Tryz.underlying22 hi hz0 hz1 hz2 rfl (by decide) v n (cellsOf l) hs (hown.alloc _) ⟨w.heap.size, 0, none⟩ 1 1 [.int .u8 y] hx rfl ?_ ?_ (by unfold maxLen; omega) (by omega) ?_ ?_
  · intro j u hj
    match j, hj with
    | 0, hj =>
      simp at hj
      subst hj
      simp [Addr.add]
  · intro u hu
    simp at hu
    subst hu
    rfl
  · have : (w.alloc (.cells #[.int .u8 y] 5)).heap.size = w.heap.size + 1 := by simp
    omega
  · intro v' w' hown' hg _
    refine h v' w' (by rw [cellsOf_snoc, ey]; exact hown') fun W0 hb => ?_
    have hb2 : Below base W0 (w.alloc (.cells #[.int .u8 y] 5)) := hb.alloc hbase _
    refine hb2.grown hg (by simp; omega) ?_
    intro k hk
    rcases hown.2 with ⟨rfl, _⟩ | ⟨g, cap, cur, rfl, hb, _⟩
    · cases hk
    · simp [Value.ownBlock] at hk
      omega

/-- '[]byte{}' as it is laid. -/
theorem own_empty (w : World) (base : Nat) (hb : base ≤ w.heap.size) : (w.alloc (.cells #[] 5)).ownsRow base 5 1 (.slice (some ⟨w.heap.size, 0, none⟩) 0 0) 0 (cellsOf []) :=
  World.ownsRow_lit w #[] 0 hb (by unfold maxLen; omega) rfl
end Go.Proofs.YtiilpnoaocfjgaaGreatDoor

namespace Go.Proofs.YtiilpnoaocfjgaaGreatDoor.draw
open Go.ChangeShapes Go.WideShapes Go.ChangeAt Go.RowKit
set_option linter.unusedVariables false

/-! ### The cursor -/
/-- The cursor's block: the bytes, how many are used up, the mixed number. -/
def Cur (w : World) (p : Nat) (a : Option Addr) (len cap : Nat) (s : Nat × Int) : Prop :=
  w.heap[p]? = some (.cells #[.slice a len cap, .int .i64 s.1, .int .i64 s.2] 135 (0, 0))
/-- The bytes that came in, below block B. -/
def Code (B : Nat) (w : World) (a : Option Addr) (len : Nat) (zs : List Int) : Prop :=
  zs.length = len ∧ (∀ n ∈ zs, 0 ≤ n ∧ n < 256) ∧ (len = 0 ∨ ∃ b o, a = some ⟨b, o, none⟩ ∧ b < B ∧ ∀ j, j < len → w.cell? ⟨b, o + j, none⟩ = some (.int .u8 (zs.getD j 0)))

/-- What every drawing function is handed. -/
structure In (B : Nat) (w : World) (p : Nat) (a : Option Addr) (len cap : Nat) (zs : List Int) (s : Nat × Int) : Prop where
  code : Code B w a len zs
  cur : Cur w p a len cap s
  le : B ≤ p
  used : s.1 ≤ len
  small : len ≤ 1048576

theorem In.lt {B p len cap : Nat} {w : World} {a : Option Addr} {zs : List Int} {s : Nat × Int} (h : In B w p a len cap zs s) : p < w.heap.size := by
  rcases Nat.lt_or_ge p w.heap.size with h' | h'
  · exact h'
  · have := h.cur
    unfold Cur at this
    rw [Array.getElem?_eq_none h'] at this
    cases this

theorem grown_trans {a b c : World} {p : Nat} (h1 : a.grownBy b (some p)) (h2 : b.grownBy c (some p)) : a.grownBy c (some p) :=
  ⟨h2.os.trans h1.os, h2.tape.trans h1.tape, h2.output.trans h1.output, Nat.le_trans h1.size h2.size, fun k hk hne => (h2.block k (Nat.lt_of_lt_of_le hk h1.size) hne).trans (h1.block k hk hne)⟩

theorem below_of {B p : Nat} {w w' : World} (h : w.grownBy w' (some p)) (hp : B ≤ p) (hB : B ≤ w.heap.size) : Below B w w' :=
  (Below.refl B w).grown h hB (fun k hk => by cases hk; exact hp)

theorem Code.keep {B len : Nat} {w w' : World} {a : Option Addr} {zs : List Int} (h : Code B w a len zs) (hb : Below B w w') : Code B w' a len zs := by
  refine ⟨h.1, h.2.1, ?_⟩
  rcases h.2.2 with h0 | ⟨b, o, e, hB, hc⟩
  · exact .inl h0
  · exact .inr ⟨b, o, e, hB, fun j hj => (hb.cell (p := ⟨b, o + j, none⟩) hB).trans (hc j hj)⟩

/-! ### One byte -/
theorem i64_mask (k : Nat) (hk : k ≤ 62) (n : Int) : bits .and .i64 n ((2 ^ k - 1 : Nat) : Int) = n % 2 ^ k := by
  have hle : 2 ^ k ≤ 2 ^ 62 := Nat.pow_le_pow_right (by decide) hk
  have hpos : 0 < 2 ^ k := Nat.two_pow_pos k
  have h255 : (BitVec.ofInt 64 ((2 ^ k - 1 : Nat) : Int)).toNat = 2 ^ k - 1 := by
    rw [BitVec.ofInt_natCast, BitVec.toNat_ofNat]
    exact Nat.mod_eq_of_lt (by omega)
  have key : (BitVec.ofInt 64 n &&& BitVec.ofInt 64 ((2 ^ k - 1 : Nat) : Int)).toNat = (n % ((2 ^ 64 : Nat) : Int)).toNat % 2 ^ k := by
    rw [BitVec.toNat_and, BitVec.toNat_ofInt, h255, Nat.and_two_pow_sub_one_eq_mod]
  show IntKind.i64.wrap ((BitVec.ofInt 64 n &&& BitVec.ofInt 64 ((2 ^ k - 1 : Nat) : Int)).toNat : Nat) = n % 2 ^ k
  rw [key]
  have hm : (((n % ((2 ^ 64 : Nat) : Int)).toNat % 2 ^ k : Nat) : Int) = n % 2 ^ k := by
    have h0 : 0 ≤ n % ((2 ^ 64 : Nat) : Int) := Int.emod_nonneg _ (by decide)
    rw [Int.natCast_emod, Int.toNat_of_nonneg h0]
    have hd : ((2 : Int) ^ k) ∣ ((2 ^ 64 : Nat) : Int) := by
      refine ⟨2 ^ (64 - k), ?_⟩
      rw [← Int.pow_add, show k + (64 - k) = 64 by omega]
      rfl
    simpa using Int.emod_emod_of_dvd n hd
  rw [hm]
  have h1 : 0 ≤ n % 2 ^ k := Int.emod_nonneg _ (by have : (0 : Int) < 2 ^ k := Int.pow_pos (by omega); omega)
  have h2 : n % 2 ^ k < 2 ^ k := Int.emod_lt_of_pos _ (Int.pow_pos (by omega))
  have h3 : (2 : Int) ^ k = ((2 ^ k : Nat) : Int) := by simp
  exact wraps_i64 _ h1 (by omega)
theorem i64_and255 (n : Int) : bits .and .i64 n 255 = n % 256 := i64_mask 8 (by decide) n
theorem i64_and30 (n : Int) : bits .and .i64 n 1073741823 = n % 1073741824 := i64_mask 30 (by decide) n

def nh (h : Int) : Int := wrap64 (wrap64 (h * 6364136223846793005) + 1442695040888963407)
def rx (h : Int) : Int := bits .xor .i64 (h / 8589934592) (h / 35184372088832)
def byteF (zs : List Int) (s : Nat × Int) : Int × (Nat × Int) :=
  if s.1 < zs.length then ((rx (nh s.2) + zs.getD s.1 0) % 256, (s.1 + 1, nh s.2)) else (rx (nh s.2) % 256, (s.1, nh s.2))

theorem byteF_bd (zs : List Int) (s : Nat × Int) : 0 ≤ (byteF zs s).1 ∧ (byteF zs s).1 < 256 := by
  unfold byteF rx
  split <;> simp only <;> omega

theorem byteF_yes {zs : List Int} {s : Nat × Int} (h : s.1 < zs.length) : byteF zs s = ((rx (nh s.2) + zs.getD s.1 0) % 256, (s.1 + 1, nh s.2)) := by simp [byteF, h]
theorem byteF_no {zs : List Int} {s : Nat × Int} (h : ¬ s.1 < zs.length) : byteF zs s = (rx (nh s.2) % 256, (s.1, nh s.2)) := by simp [byteF, h]

/-- What a drawing function leaves. -/
def Out (B : Nat) (p : Nat) (a : Option Addr) (len cap : Nat) (zs : List Int) (r : Value) (s' : Nat × Int) (w : World) (e : Ending) (w' : World) : Prop :=
  e = .returned r ∧ In B w' p a len cap zs s' ∧ w.grownBy w' (some p)

theorem grown_set {w w1 : World} {p j : Nat} (u : Value) (h : w.grownBy w1 (some p)) : w.grownBy (w1.setCell ⟨p, j, none⟩ u) (some p) :=
  ⟨h.os, h.tape, h.output, by simp; exact h.size, fun k hk hne => by
    rw [heap_setCell_other w1 ⟨p, j, none⟩ k u (fun e => hne (by rw [e]))]
    exact h.block k hk hne⟩

theorem In.mixed {B p len cap : Nat} {w : World} {a : Option Addr} {zs : List Int} {i : Nat} {h : Int} (H : In B w p a len cap zs (i, h)) (h' : Int) (n : Nat) :
    In B ((w.setCell ⟨p, 2, none⟩ (.int .i64 h')).drewN n) p a len cap zs (i, h') ∧ w.grownBy ((w.setCell ⟨p, 2, none⟩ (.int .i64 h')).drewN n) (some p) := by
  have g : w.grownBy ((w.setCell ⟨p, 2, none⟩ (.int .i64 h')).drewN n) (some p) := by
    have := grown_set (j := 2) (.int .i64 h') (World.grownBy.refl w (some p))
    exact ⟨this.os, this.tape, this.output, this.size, this.block⟩
  refine ⟨⟨H.code.keep (below_of g H.le (Nat.le_of_lt (Nat.lt_of_le_of_lt H.le H.lt))), ?_, H.le, H.used, H.small⟩, g⟩
  exact heap_setCell_same w p 2 _ _ (.int .i64 h') H.cur

theorem In.drewN {B p len cap : Nat} {w : World} {a : Option Addr} {zs : List Int} {s : Nat × Int} (H : In B w p a len cap zs s) (n : Nat) : In B (w.drewN n) p a len cap zs s :=
  ⟨H.code.keep ⟨rfl, rfl, rfl, Nat.le_refl _, fun _ _ => rfl⟩, H.cur, H.le, H.used, H.small⟩
theorem grown_drewN {w w1 : World} {p : Nat} (h : w.grownBy w1 (some p)) (n : Nat) : w.grownBy (w1.drewN n) (some p) := ⟨h.os, h.tape, h.output, h.size, h.block⟩

theorem In.used_up {B p len cap : Nat} {w : World} {a : Option Addr} {zs : List Int} {i : Nat} {h : Int} (H : In B w p a len cap zs (i, h)) (i' : Nat) (hi : i' ≤ len) :
    In B (w.setCell ⟨p, 1, none⟩ (.int .i64 i')) p a len cap zs (i', h) ∧ w.grownBy (w.setCell ⟨p, 1, none⟩ (.int .i64 i')) (some p) := by
  have g : w.grownBy (w.setCell ⟨p, 1, none⟩ (.int .i64 i')) (some p) := grown_set (j := 1) (.int .i64 (i' : Int)) (World.grownBy.refl w (some p))
  refine ⟨⟨H.code.keep (below_of g H.le (Nat.le_of_lt (Nat.lt_of_le_of_lt H.le H.lt))), ?_, H.le, hi, H.small⟩, g⟩
  exact heap_setCell_same w p 1 _ _ (.int .i64 (i' : Int)) H.cur

set_option maxHeartbeats 400000 in
theorem byte_any {B p len cap : Nat} {w : World} {a : Option Addr} {zs : List Int} {s : Nat × Int} (H : In B w p a len cap zs s) :
    Calls Tryz.prog 174 #[.pointer (some ⟨p, 0, none⟩)] w (Out B p a len cap zs (.int .i64 (byteF zs s).1) (byteF zs s).2 w) := by
  obtain ⟨i, h⟩ := s
  have HI := Lib.hid H
  have hcur := H.cur
  have hu := H.used
  have hsm := H.small
  have hzl := H.code.1
  have hc0 : w.cell? ⟨p, 0, none⟩ = some (.slice a len cap) := by rw [cell_of_row w p 0 _ _ _ hcur]; rfl
  have hc1 : w.cell? ⟨p, 1, none⟩ = some (.int .i64 (i : Int)) := by rw [cell_of_row w p 1 _ _ _ hcur]; rfl
  have hc2 : w.cell? ⟨p, 2, none⟩ = some (.int .i64 h) := by rw [cell_of_row w p 2 _ _ _ hcur]; rfl
  have hf : ∀ j, w.frozen? ⟨p, j, none⟩ = false := fun j => frozen_of_row w p j _ _ hcur
  have ha := i64_and255
  simp only at hu
  by_cases hlt : i < len
  · obtain ⟨b, o, rfl, hbB, hcell⟩ : ∃ b o, a = some ⟨b, o, none⟩ ∧ b < B ∧ ∀ j, j < len → w.cell? ⟨b, o + j, none⟩ = some (.int .u8 (zs.getD j 0)) := by
      rcases H.code.2.2 with h0 | h0
      · omega
      · exact h0
    have hcx := hcell i hlt
    have hbp : b ≠ p := by have := H.le; omega
    have HZ := Lib.hid (byteF_yes (zs := zs) (s := (i, h)) (by rw [hzl]; exact hlt))
    have hz : 0 ≤ zs.getD i 0 ∧ zs.getD i 0 < 256 := by
      have : i < zs.length := by omega
      rw [List.getD_eq_getElem?_getD, List.getElem?_eq_getElem this]
      exact H.code.2.1 _ (List.getElem_mem this)
    obtain ⟨z, hzz⟩ : ∃ z, z = zs.getD i 0 := ⟨_, rfl⟩
    have HZZ := Lib.hid hzz
    rw [← hzz] at hcx hz
    have hi0 : (0 : Int) ≤ (i : Int) := by omega
    have hi1 : (i : Int) < (len : Int) := by omega
    clear hcur hcell hzl H hzz
    go_enter Tryz.func174, Tryz.ntmps174
    go_wp2
    go_quiet (fail)
    go_wp2
    go_quiet (fail)
    go_wp2
    go_quiet (fail)
    go_wp2
    go_ret
    exact ⟨by rw [HZ.out, ← HZZ.out]; rfl, by rw [HZ.out]; exact ((HI.out.mixed (nh h) _).1.used_up (i + 1) (by omega)).1, grown_trans (HI.out.mixed (nh h) _).2 ((HI.out.mixed (nh h) _).1.used_up (i + 1) (by omega)).2⟩
  · have HZ := Lib.hid (byteF_no (zs := zs) (s := (i, h)) (by rw [hzl]; exact hlt))
    have hnl : ¬ (i : Int) < (len : Int) := by omega
    clear hcur hzl H
    go_enter Tryz.func174, Tryz.ntmps174
    go_wp2
    go_quiet (fail)
    go_wp2
    go_quiet (fail)
    go_wp2
    go_ret
    exact ⟨by rw [HZ.out]; rfl, by rw [HZ.out]; exact (HI.out.mixed (nh h) _).1.drewN _, grown_drewN (HI.out.mixed (nh h) _).2 _⟩

/-! ### A number below n -/
def belowF (zs : List Int) (n : Int) (s : Nat × Int) : Int × (Nat × Int) :=
  if n ≤ 0 then (0, s) else if n ≤ 256 then ((byteF zs s).1 % n, (byteF zs s).2)
  else
    let x := byteF zs s
    let y := byteF zs x.2
    let z := byteF zs y.2
    let v := byteF zs z.2
    ((x.1 * 16777216 + y.1 * 65536 + z.1 * 256 + v.1) % n, v.2)

theorem belowF_bd (zs : List Int) (n : Int) (s : Nat × Int) (h : 0 < n) : 0 ≤ (belowF zs n s).1 ∧ (belowF zs n s).1 < n := by
  unfold belowF
  rw [if_neg (by omega)]
  split
  · exact ⟨Int.emod_nonneg _ (by omega), Int.emod_lt_of_pos _ h⟩
  · exact ⟨Int.emod_nonneg _ (by omega), Int.emod_lt_of_pos _ h⟩

set_option maxHeartbeats 800000 in
theorem below_any {B p len cap : Nat} {w : World} {a : Option Addr} {zs : List Int} {s : Nat × Int} (n : Int) (H : In B w p a len cap zs s) :
    Calls Tryz.prog 108 #[.pointer (some ⟨p, 0, none⟩), .int .i64 n] w (Out B p a len cap zs (.int .i64 (belowF zs n s).1) (belowF zs n s).2 w) := by
  have HI := Lib.hid H
  clear H
  by_cases h0 : n ≤ 0
  · have HZ := Lib.hid (show belowF zs n s = (0, s) by simp [belowF, h0])
    go_enter Tryz.func108, Tryz.ntmps108
    go_wp2
    go_ret
    exact ⟨by rw [HZ.out]; rfl, by rw [HZ.out]; exact HI.out, World.grownBy.refl _ _⟩
  · have hn : 0 < n := by omega
    by_cases h1 : n ≤ 256
    · have HZ := Lib.hid (show belowF zs n s = ((byteF zs s).1 % n, (byteF zs s).2) by simp [belowF, h0, h1])
      have hb := byteF_bd zs s
      go_enter Tryz.func108, Tryz.ntmps108
      go_wp2_with fail
      refine (byte_any HI.out).mono ?_
      rintro e w1 ⟨rfl, I1, G1⟩
      have HI1 := Lib.hid I1
      clear I1
      go_wp2
      go_ret
      exact ⟨by rw [HZ.out]; rfl, by rw [HZ.out]; exact HI1.out, G1⟩
    · obtain ⟨x, hx⟩ : ∃ x, x = byteF zs s := ⟨_, rfl⟩
      obtain ⟨y, hy⟩ : ∃ y, y = byteF zs x.2 := ⟨_, rfl⟩
      obtain ⟨z, hz⟩ : ∃ z, z = byteF zs y.2 := ⟨_, rfl⟩
      obtain ⟨v, hv⟩ : ∃ v, v = byteF zs z.2 := ⟨_, rfl⟩
      have HZ := Lib.hid (show belowF zs n s = ((x.1 * 16777216 + y.1 * 65536 + z.1 * 256 + v.1) % n, v.2) by subst hv hz hy hx; simp [belowF, h0, h1])
      have b1 := byteF_bd zs s
      have b2 := byteF_bd zs x.2
      have b3 := byteF_bd zs y.2
      have b4 := byteF_bd zs z.2
      rw [← hx] at b1
      rw [← hy] at b2
      rw [← hz] at b3
      rw [← hv] at b4
      have HX := Lib.hid hx
      have HY := Lib.hid hy
      have HZ3 := Lib.hid hz
      have HV := Lib.hid hv
      clear hx hy hz hv
      go_enter Tryz.func108, Tryz.ntmps108
      go_wp2_with fail
      refine (byte_any HI.out).mono ?_
      rintro e w1 ⟨he, I1, G1⟩
      rw [← HX.out] at he I1
      subst he
      have HI1 := Lib.hid I1
      clear I1
      go_wp2_with fail
      refine (byte_any HI1.out).mono ?_
      rintro e w2 ⟨he, I2, G2⟩
      rw [← HY.out] at he I2
      subst he
      have HI2 := Lib.hid I2
      clear I2
      go_wp2_with fail
      refine (byte_any HI2.out).mono ?_
      rintro e w3 ⟨he, I3, G3⟩
      rw [← HZ3.out] at he I3
      subst he
      have HI3 := Lib.hid I3
      clear I3
      go_wp2_with fail
      refine (byte_any HI3.out).mono ?_
      rintro e w4 ⟨he, I4, G4⟩
      rw [← HV.out] at he I4
      subst he
      have HI4 := Lib.hid I4
      clear I4
      go_wp2
      go_ret
      exact ⟨by rw [HZ.out]; rfl, by rw [HZ.out]; exact HI4.out, grown_trans (grown_trans (grown_trans G1 G2) G3) G4⟩
end Go.Proofs.YtiilpnoaocfjgaaGreatDoor.draw

namespace Go.Proofs.YtiilpnoaocfjgaaGreatDoor.draw
open Go.ChangeShapes Go.WideShapes Go.ChangeAt Go.RowKit
set_option linter.unusedVariables false

/-! ### A new cursor -/
def hF (zs : List Int) (len : Nat) : Int := (zs.take 4000).foldl (fun h z => (h * 131 + z + 7) % 1073741824) (10101 + (len : Int))
theorem hF_step (zs : List Int) (len I : Nat) (hI : I < zs.length) :
    (zs.take (I + 1)).foldl (fun h z => (h * 131 + z + 7) % 1073741824) (10101 + (len : Int)) = ((zs.take I).foldl (fun h z => (h * 131 + z + 7) % 1073741824) (10101 + (len : Int)) * 131 + zs.getD I 0 + 7) % 1073741824 := by
  rw [List.take_succ_eq_append_getElem hI, List.foldl_append, List.getD_eq_getElem?_getD, List.getElem?_eq_getElem hI]
  rfl

/-- The loop's relation. -/
def RelNew (zs : List Int) (len : Nat) (h i : Value) : Prop := ∃ (I : Nat) (x : Int), I ≤ len ∧ I ≤ 4000 ∧ i = .int .i64 I ∧ h = .int .i64 x ∧ 0 ≤ x ∧ x < 1099511627776 ∧ x = (zs.take I).foldl (fun h z => (h * 131 + z + 7) % 1073741824) (10101 + (len : Int))

set_option maxHeartbeats 400000 in
theorem new_any {B len cap : Nat} {w : World} {a : Option Addr} {zs : List Int} (hc : Code B w a len zs) (hB : B ≤ w.heap.size) (hl : len ≤ 1048576) :
    Calls Tryz.prog 54 #[.slice a len cap] w fun e w' => e = .returned (.pointer (some ⟨w.heap.size, 0, none⟩)) ∧ In B w' w.heap.size a len cap zs (0, hF zs len) ∧ Below B w w' := by
  have HC := Lib.hid hc
  have hz := hc.1
  have hm := i64_and30
  go_enter Tryz.func54, Tryz.ntmps54
  go_wp2
  go_loop [3, 4] (fun h i => RelNew zs len h i) (fun _ i => (len - (intOf i).toNat))
  case atStart => exact ⟨0, _, by omega, by omega, rfl, rfl, by omega, by omega, rfl⟩
  case round =>
    obtain ⟨I, x, hI, hI4, rfl, rfl, hx0, hx1, hx⟩ := hrel
    have HX := Lib.hid hx
    clear hx
    by_cases hlt : I < len ∧ I < 4000
    · obtain ⟨hll, hl4⟩ := hlt
      obtain ⟨b, o, rfl, hbB, hcell⟩ : ∃ b o, a = some ⟨b, o, none⟩ ∧ b < B ∧ ∀ j, j < len → w.cell? ⟨b, o + j, none⟩ = some (.int .u8 (zs.getD j 0)) := by
        rcases HC.out.2.2 with h0 | h0
        · omega
        · exact h0
      have hcx := hcell I hll
      have hzb : 0 ≤ zs.getD I 0 ∧ zs.getD I 0 < 256 := by
        have : I < zs.length := by omega
        rw [List.getD_eq_getElem?_getD, List.getElem?_eq_getElem this]
        exact HC.out.2.1 _ (List.getElem_mem this)
      have HS := Lib.hid (hF_step zs len I (by omega))
      obtain ⟨z, hzz⟩ : ∃ z, z = zs.getD I 0 := ⟨_, rfl⟩
      have HZZ := Lib.hid hzz
      rw [← hzz] at hcx hzb
      have hi1 : (I : Int) < (len : Int) := by omega
      have hi2 : (I : Int) < 4000 := by omega
      clear hcell hzz hz
      go_wp2
      go_round
      case rel => exact ⟨I + 1, _, by omega, by omega, by go_num, rfl, by omega, by omega, by rw [HS.out, ← HX.out, ← HZZ.out]⟩
      case measure => simp [intOf]; omega
    · have HH := Lib.hid (show x = hF zs len by
        rw [HX.out]
        unfold hF
        congr 1
        by_cases h : I < len
        · rw [show I = 4000 by omega]
        · rw [List.take_of_length_le (by omega), List.take_of_length_le (by omega)])
      have fin : In B (w.alloc (.cells #[.slice a len cap, .int .i64 0, .int .i64 x] 135)) w.heap.size a len cap zs (0, hF zs len) ∧ Below B w (w.alloc (.cells #[.slice a len cap, .int .i64 0, .int .i64 x] 135)) := by
        have hb : Below B w (w.alloc (.cells #[.slice a len cap, .int .i64 0, .int .i64 x] 135)) := (Below.refl B w).alloc hB _
        refine ⟨⟨HC.out.keep hb, ?_, hB, by simp, hl⟩, hb⟩
        rw [← HH.out]
        exact heap_alloc_new w _
      have FIN := Lib.hid fin
      clear fin hz
      by_cases hll : I < len
      · have hi1 : (I : Int) < (len : Int) := by omega
        have hi2 : ¬ (I : Int) < 4000 := by omega
        clear hlt
        go_wp2
        go_ret
        exact ⟨rfl, FIN.out⟩
      · have hi1 : ¬ (I : Int) < (len : Int) := by omega
        clear hlt
        go_wp2
        go_ret
        exact ⟨rfl, FIN.out⟩

/-! ### Picks -/
theorem once_any {B p len cap : Nat} {w : World} {a : Option Addr} {zs : List Int} {s : Nat × Int} (n : Int) (H : In B w p a len cap zs s) :
    Calls Tryz.prog 56 #[.pointer (some ⟨p, 0, none⟩), .int .i64 n] w (Out B p a len cap zs (.bool ((belowF zs n s).1 == 0)) (belowF zs n s).2 w) := by
  have HI := Lib.hid H
  clear H
  go_enter Tryz.func56, Tryz.ntmps56
  go_wp2_with fail
  refine (below_any n HI.out).mono ?_
  rintro e w1 ⟨rfl, I1, G1⟩
  have HI1 := Lib.hid I1
  clear I1
  go_wp2
  go_ret
  exact ⟨rfl, HI1.out, G1⟩

set_option maxHeartbeats 400000 in
theorem pickInt_any {B p len cap : Nat} {w : World} {a : Option Addr} {zs : List Int} {s : Nat × Int} (q n : Nat) (L : List Int) (H : In B w p a len cap zs s) (hq : w.heap[q]? = some (.cells (L.map (Value.int .i64)).toArray 3 (0, 0))) (hL : L.length = n) (hn : 0 < n) (hqp : q ≠ p) (hbig : n ≤ 1000) :
    Calls Tryz.prog 111 #[.pointer (some ⟨p, 0, none⟩), .slice (some ⟨q, 0, none⟩) n n] w (Out B p a len cap zs (.int .i64 (L.getD (belowF zs n s).1.toNat 0)) (belowF zs n s).2 w) := by
  have HI := Lib.hid H
  clear H
  have hb := belowF_bd zs n s (by omega)
  obtain ⟨K, hK⟩ : ∃ K : Nat, (belowF zs n s).1 = K := ⟨(belowF zs n s).1.toNat, by omega⟩
  have HK := Lib.hid hK
  rw [hK] at hb
  have HQ := Lib.hid hq
  clear hq hK
  go_enter Tryz.func111, Tryz.ntmps111
  go_wp2_with fail
  refine (below_any n HI.out).mono ?_
  rintro e w1 ⟨he, I1, G1⟩
  rw [HK.out] at he
  subst he
  have HI1 := Lib.hid I1
  have hq1 : w1.heap[q]? = some (.cells (L.map (Value.int .i64)).toArray 3 (0, 0)) := by
    have hlt : q < w.heap.size := lt_of_block HQ.out
    rw [G1.block q hlt (by simpa using hqp)]
    exact HQ.out
  have hcell : w1.cell? ⟨q, K, none⟩ = some (.int .i64 (L.getD K 0)) := by
    rw [cell_of_row w1 q K _ _ _ hq1]
    have : K < L.length := by omega
    simp [this]
  obtain ⟨z, hz⟩ : ∃ z, z = L.getD K 0 := ⟨_, rfl⟩
  have HZ := Lib.hid hz
  rw [← hz] at hcell
  clear I1 hq1 hz
  go_wp2
  go_ret
  exact ⟨by rw [HK.out, Int.toNat_natCast, ← HZ.out]; rfl, HI1.out, G1⟩

theorem In.keep {B base p len cap : Nat} {w w' : World} {a : Option Addr} {zs : List Int} {s : Nat × Int} (H : In B w p a len cap zs s) (hb : Below base w w') (hp : p < base) : In B w' p a len cap zs s :=
  ⟨H.code.keep (hb.mono (Nat.le_of_lt (Nat.lt_of_le_of_lt H.le hp))), by unfold Cur; rw [hb.block p hp]; exact H.cur, H.le, H.used, H.small⟩

theorem grown_below {w w1 w2 : World} {p base : Nat} (h : w.grownBy w1 (some p)) (hb : Below base w1 w2) (hw : base = w.heap.size) : w.grownBy w2 (some p) :=
  ⟨hb.os.trans h.os, hb.tape.trans h.tape, hb.output.trans h.output, Nat.le_trans h.size hb.size, fun k hk hne => (hb.block k (by omega)).trans (h.block k hk hne)⟩

end Go.Proofs.YtiilpnoaocfjgaaGreatDoor.draw

namespace Go.Proofs.YtiilpnoaocfjgaaGreatDoor.draw
open Go.ChangeShapes Go.WideShapes Go.ChangeAt Go.RowKit
set_option linter.unusedVariables false

/-- A slice of bytes that came in: nil, or a row of 'cap' cells, the numbers zs. -/
def IsRow (k : IntKind) (w : World) (a : Option Addr) (len cap : Nat) (zs : List Int) : Prop :=
  (a = none ∧ len = 0 ∧ cap = 0 ∧ zs = []) ∨
  ∃ x, a = some x ∧ len ≤ cap ∧ cap ≤ maxLen ∧ zs.length = cap ∧ (∀ i, i < zs.length → w.cell? (x.add i) = some (.int k (zs.getD i 0))) ∧ ∀ n ∈ zs, (Lit.int k n).wf = true

theorem code_of {w : World} {a : Option Addr} {len cap : Nat} {zs : List Int} (h : IsRow .u8 w a len cap zs) : Code w.heap.size w a len (zs.take len) := by
  rcases h with ⟨rfl, rfl, rfl, rfl⟩ | ⟨x, rfl, hl, hm, hz, hc, hw⟩
  · exact ⟨rfl, by simp, .inl rfl⟩
  · refine ⟨by simp; omega, ?_, ?_⟩
    · intro n hn
      have := hw n (List.mem_of_mem_take hn)
      simp [Lit.wf, IntKind.min, IntKind.max, IntKind.signed, IntKind.bits] at this
      omega
    · by_cases h0 : len = 0
      · exact .inl h0
      · refine .inr ?_
        obtain ⟨b, o, sp⟩ := x
        have c0 := hc 0 (by omega)
        have hsp : sp = none := by simpa [Addr.add] using World.cell?_spot c0
        subst hsp
        have e : ∀ j, (⟨b, o, none⟩ : Addr).add j = ⟨b, o + j, none⟩ := by
          intro j
          simp only [Addr.add]
          split
          · next h0 => subst h0; rfl
          · rfl
        refine ⟨b, o, rfl, World.block_lt_of_cell? w _ c0, ?_⟩
        intro j hj
        have := hc j (by omega)
        rw [e] at this
        rw [this, List.getD_eq_getElem?_getD, List.getD_eq_getElem?_getD, List.getElem?_take, if_pos hj]

theorem Code.up {B B' len : Nat} {w : World} {a : Option Addr} {zs : List Int} (h : Code B w a len zs) (hB : B ≤ B') : Code B' w a len zs := by
  refine ⟨h.1, h.2.1, ?_⟩
  rcases h.2.2 with h0 | ⟨b, o, e, hb, hc⟩
  · exact .inl h0
  · exact .inr ⟨b, o, e, by omega, hc⟩

theorem big_any (a : Option Addr) (len cap : Nat) (w : World) (hl : (len : Int) ≤ 9223372036854775807) :
    Calls Tryz.prog 14 #[.slice a len cap] w fun e w' => e = .returned (.bool (decide (1048576 < len))) ∧ w = w' := by
  by_cases h : 1048576 < len
  · have h' : (1048576 : Int) < (len : Int) := by omega
    go_enter Tryz.func14, Tryz.ntmps14
    go_wp2
    go_ret
    exact ⟨by simp [h], rfl⟩
  · have h' : ¬ (1048576 : Int) < (len : Int) := by omega
    go_enter Tryz.func14, Tryz.ntmps14
    go_wp2
    go_ret
    exact ⟨by simp, rfl⟩

end Go.Proofs.YtiilpnoaocfjgaaGreatDoor.draw

namespace Go.Proofs.YtiilpnoaocfjgaaGreatDoor.draw
open Go.ChangeShapes Go.WideShapes Go.ChangeAt Go.RowKit
set_option linter.unusedVariables false
set_option linter.unusedSimpArgs false
set_option maxRecDepth 20000
theorem at_code {a : Option Addr} {len cap : Nat} {zs : List Int} (k : Nat) (hk : k ≤ 10) (w : World) (hc : draw.Code w.heap.size w a len zs) (hl : len ≤ 1048576) :
    Calls Tryz.prog 32 #[.slice a len cap, .int .i64 (k : Int)] w fun e w' => (∃ x : Nat, x < 256 ∧ e = .returned (.int .i64 (x : Int))) ∧ w = w' := by
  by_cases h : k < len
  · rcases hc with ⟨h1, h2, h3 | ⟨b, o, rfl, hb, h4⟩⟩
    · omega
    · have c0 := h4 k h
      have hx : 0 ≤ zs.getD k 0 ∧ zs.getD k 0 < 256 := by
        rw [List.getD_eq_getElem?_getD, List.getElem?_eq_getElem (by omega)]
        exact h2 _ (List.getElem_mem (by omega))
      obtain ⟨X, hX⟩ : ∃ X : Nat, zs.getD k 0 = (X : Int) := ⟨(zs.getD k 0).toNat, by omega⟩
      rw [hX] at c0 hx
      have hX2 : X < 256 := by omega
      have hk1 : (k : Int) < (len : Int) := by omega
      have hk0 : (0 : Int) ≤ (k : Int) := by omega
      clear h1 h2 h4 hX hb h
      go_enter Tryz.func32, Tryz.ntmps32
      go_wp2
      go_ret
      refine ⟨⟨X, hX2, ?_⟩, rfl⟩
      first | rfl | (congr 2; unfold IntKind.wrap; simp; omega) | simp
  · have hk1 : ¬ (k : Int) < (len : Int) := by omega
    clear hc
    obtain ⟨X, hX⟩ : ∃ X : Nat, X = (k * 37 + len * 11) % 256 := ⟨_, rfl⟩
    have hX2 : X < 256 := by omega
    have e1 : ((k : Int) * 37 + (len : Int) * 11).tmod 256 = (X : Int) := by rw [Int.tmod_eq_emod_of_nonneg (by omega)]; omega
    have e2 : ((k : Int) * 37 + (len : Int) * 11) % 256 = (X : Int) := by omega
    clear hX
    go_enter Tryz.func32, Tryz.ntmps32
    go_wp2
    go_ret
    refine ⟨⟨X, hX2, ?_⟩, rfl⟩
    first | rfl | (simp [e1, e2]) | (congr 2)
end Go.Proofs.YtiilpnoaocfjgaaGreatDoor.draw

namespace Go.Proofs.YtiilpnoaocfjgaaGreatDoor.pr
open Go.ChangeShapes Go.WideShapes Go.ChangeAt Go.RowKit
open tk (Tk)
open nd (Nd PT KidV IBlk OwnI shN makeT)
open ps (Ps B5 posOk kidI top)
open pe
set_option linter.unusedVariables false
set_option linter.unusedSimpArgs false
set_option maxRecDepth 20000

/-- The parser and a box for the result. -/
structure Fy (w0 : World) (a : Option Addr) (n cap : Nat) (X : Nat → Prop) (gR : Nat) (v0 : Value) (z0 : List (Nd × Value)) (r0 : Nat → Nat) (ws : World) (i : Nat) (v : Value) (z : List (Nd × Value)) (r : Nat → Nat) (w : World) : Prop where
  st : St w0 a n cap i v z r w
  tot : Ext X v0 z0 r0 ws v z r w
  rb : Mb X w0.heap.size gR #[.int .i64 0, .bool false] 87 v z r w
  ge : ws.heap.size ≤ gR
section
variable {w0 : World} {a : Option Addr} {n cap : Nat} {X : Nat → Prop} {gR : Nat} {v0 : Value} {z0 : List (Nd × Value)} {r0 : Nat → Nat} {ws : World} {i i' : Nat} {v v' : Value} {z z' : List (Nd × Value)} {r r' : Nat → Nat} {w w' : World}
theorem Fy.go (h : Fy w0 a n cap X gR v0 z0 r0 ws i v z r w) (s : St w0 a n cap i' v' z' r' w') (e : Ext X v z r w v' z' r' w') : Fy w0 a n cap X gR v0 z0 r0 ws i' v' z' r' w' := ⟨s, h.tot.trans e, h.rb.ext e, h.ge⟩
theorem Fy.quiet (h : Fy w0 a n cap X gR v0 z0 r0 ws i v z r w) (b : Below w.heap.size w w') : Fy w0 a n cap X gR v0 z0 r0 ws i v z r w' := h.go (h.st.keep b) (Ext.of (Gr.quiet b))
theorem Fy.take (h : Fy w0 a n cap X gR v0 z0 r0 ws i v z r w) (hX : X w0.heap.size) (s : St w0 a n cap i' v z r w') (e : Gr (X0 w0.heap.size) v v w w') : Fy w0 a n cap X gR v0 z0 r0 ws i' v z r w' :=
  h.go s (Ext.of (e.wide (fun k _ hk => by rw [show k = w0.heap.size from hk]; exact hX)))
theorem Fy.at (h : Fy w0 a n cap X gR v0 z0 r0 ws i v z r w) (hX : X w0.heap.size) : Fy w0 a n cap X gR v0 z0 r0 ws (i + 1) v z r (w.setCell ⟨w0.heap.size, 1, none⟩ (.int .i64 ((i : Int) + 1))) := by
  have s := h.st.at (i + 1)
  rw [show ((i + 1 : Nat) : Int) = (i : Int) + 1 by omega] at s
  exact h.go s (Ext.of (Gr.at hX 1 _))
/-- A box among those that may be written is written. -/
theorem Fy.mset (h : Fy w0 a n cap X gR v0 z0 r0 ws i v z r w) {g : Nat} {c : Array Value} {ty : TypeId} (m : Mb (X0 w0.heap.size) w0.heap.size g c ty v z r w) (hg : X g) (j : Nat) (u : Value) : Fy w0 a n cap X gR v0 z0 r0 ws i v z r (w.setCell ⟨g, j, none⟩ u) :=
  h.go (h.st.mset m j u) (Ext.of (Gr.set (Gr.refl X v w) (.inl hg) j u))
theorem Fy.bad {e : Ending} {zb : List Nd} (h : Fy w0 a n cap X gR v0 z0 r0 ws i v z r w) (y0 y1 : Value) (he : e = .returned (.agg #[.int .i64 0, .bool false])) : Res w0 a n cap zb X v0 z0 r0 ws (.bad i) e ((w.setCell ⟨gR, 0, none⟩ y0).setCell ⟨gR, 1, none⟩ y1) := by
  have h0 : Res w0 a n cap zb X v z r w (.bad i) e w := ⟨he, v, z, r, h.st, Ext.refl _ _ _ _ _, fun _ _ _ _ he => by cases he⟩
  exact h0.fin h.tot h.rb h.ge y0 y1
theorem Fy.ok {e : Ending} {zb : List Nd} {lv : Int} {tg : Bool} {t : List Nd} (h : Fy w0 a n cap X gR v0 z0 r0 ws i v z r w) (y0 y1 : Value) (he : e = .returned (.agg #[.int .i64 lv, .bool tg])) (hm : z.map (·.1) = zb ++ t.map (shN (zb.length : Int))) : Res w0 a n cap zb X v0 z0 r0 ws (.ok lv tg t i) e ((w.setCell ⟨gR, 0, none⟩ y0).setCell ⟨gR, 1, none⟩ y1) := by
  have h0 : Res w0 a n cap zb X v z r w (.ok lv tg t i) e w := ⟨he, v, z, r, h.st, Ext.refl _ _ _ _ _, fun _ _ _ _ he => by injection he with _ _ he _; rw [← he]; exact hm⟩
  exact h0.fin h.tot h.rb h.ge y0 y1
theorem Fy.res {e : Ending} {zb : List Nd} {R : R} (h : Fy w0 a n cap X gR v0 z0 r0 ws i v z r w) (hr : Res w0 a n cap zb X v z r w R e w') (y0 y1 : Value) : Res w0 a n cap zb X v0 z0 r0 ws R e ((w'.setCell ⟨gR, 0, none⟩ y0).setCell ⟨gR, 1, none⟩ y1) := hr.fin h.tot h.rb h.ge y0 y1
theorem Fy.rbk {e : Ending} {zb : List Nd} {R : R} (h : Fy w0 a n cap X gR v0 z0 r0 ws i v z r w) (hr : Res w0 a n cap zb X v z r w R e w') : Bk gR #[.int .i64 0, .bool false] 87 w' := hr.bk h.rb.bk h.rb.x h.rb.o
end
theorem Mb.new {w0 : World} {a : Option Addr} {n cap i : Nat} {v : Value} {z : List (Nd × Value)} {r : Nat → Nat} {w W : World} {X : Nat → Prop} {g : Nat} {c : Array Value} {ty : TypeId} (hst : St w0 a n cap i v z r w) (hb : Bk g c ty W) (hg : w.heap.size ≤ g) (hx : ¬ X g) : Mb X w0.heap.size g c ty v z r W :=
  ⟨hb, hx, Nat.lt_of_lt_of_le hst.lt hg, hst.new hg, fun j hj => by have := hst.own.lt j hj; omega⟩
/-- What is written into a box that the call made is its own matter. -/
theorem Res.narrow {w0 : World} {a : Option Addr} {n cap : Nat} {zb : List Nd} {v : Value} {z : List (Nd × Value)} {r : Nat → Nat} {w : World} {R : R} {e : Ending} {w' : World} {gn : Nat} (h : Res w0 a n cap zb (Xq w0.heap.size gn) v z r w R e w') (hg : w.heap.size ≤ gn) : Res w0 a n cap zb (X0 w0.heap.size) v z r w R e w' :=
  h.wide fun k hk hx => by rcases hx with h1 | h1; exact h1; omega
/-- The end of a call that read a row of kids of its own. -/
theorem resq {w0 : World} {a : Option Addr} {n cap : Nat} {zb : List Nd} {v0 v : Value} {z0 z : List (Nd × Value)} {r0 r : Nat → Nat} {ws w : World} {R : R} {e : Ending} {w' : World} {gn gR q i : Nat} (hq : ws.heap.size ≤ q) (F : Fy w0 a n cap (Xq w0.heap.size gn) gR v0 z0 r0 ws i v z r w) (h : Res w0 a n cap zb (Xq w0.heap.size q) v z r w R e w') (hgn : ws.heap.size ≤ gn) (hgq : gR ≠ q) (y0 y1 : Value) : Res w0 a n cap zb (X0 w0.heap.size) v0 z0 r0 ws R e ((w'.setCell ⟨gR, 0, none⟩ y0).setCell ⟨gR, 1, none⟩ y1) := by
  have F' := F.tot.wide (Y := fun k => k = w0.heap.size ∨ k = gn ∨ k = q) (fun k _ hk => by rcases hk with h | h; exact .inl h; exact .inr (.inl h))
  have h' := h.wide (Y := fun k => k = w0.heap.size ∨ k = gn ∨ k = q) (fun k _ hk => by rcases hk with h | h; exact .inl h; exact .inr (.inr h))
  have m : Mb (fun k => k = w0.heap.size ∨ k = gn ∨ k = q) w0.heap.size gR #[.int .i64 0, .bool false] 87 v z r w := ⟨F.rb.bk, fun hk => by rcases hk with h | h | h; exact F.rb.x (.inl h); exact F.rb.x (.inr h); exact hgq h, F.rb.b, F.rb.o, F.rb.r⟩
  exact (h'.fin F' m F.ge y0 y1).wide fun k hk hx => by rcases hx with h1 | h1 | h1; exact h1; omega; omega
theorem eres_len {zb : List Nd} {ps : List (List Nd)} {l : List Tk} {M i j : Nat} {z z2 : List (Nd × Value)} (hzb : z.map (·.1) = zb) (m2 : z2.map (·.1) = zb ++ G1 zb.length ps) (ho : OkP M l i 0 (.ok ps j)) (hz : z.length + 2 * (l.length - i) ≤ 200000) : z2.length ≤ 1000000 := by
  have h1 := congrArg List.length hzb
  have h2 := congrArg List.length m2
  rw [List.length_map] at h1
  rw [List.length_map, List.length_append, G1_len] at h2
  obtain ⟨o1, o2, o3, o4, o5⟩ := ho
  omega
section
variable {w0 : World} {l : List Tk} {a : Option Addr} {cap i : Nat} {v : Value} {z : List (Nd × Value)} {r : Nat → Nat} {E : Ps → Nat → R} {M i0 : Nat}

set_option maxHeartbeats 6400000 in
theorem listed_any (hE : CallE w0 a cap l E i0) (hOk : ∀ p i, i ≤ l.length → Ok M l i (E p i)) (k A B : Int) (s0 : ByteArray) (zb : List Nd) (w : World) (h0 : i0 ≤ i + 1) (hA : ¬ A = 0) (hB0 : ¬ B = 0) (hi : i < l.length) (hl : l.length ≤ 50000) (hc : tk.Lies w0.heap.size w0 a l) (hz : z.length + 2 * (l.length - i) ≤ 200000) (hst : St w0 a l.length cap i v z r w) (hzb : z.map (·.1) = zb) :
    Calls Tryz.prog 329 #[.pointer (some ⟨w0.heap.size, 0, none⟩), .agg #[.int .i64 k, .int .i64 0, .string s0, .string ⟨#[]⟩, .slice none 0 0], .int .i64 A, .int .i64 B] w (Res w0 a l.length cap zb (X0 w0.heap.size) v z r w (listed E l k A B i)) := by
  obtain ⟨W, hW⟩ : ∃ W, W = (w.alloc (.cells #[.int .i64 k, .int .i64 0, .string s0, .string ⟨#[]⟩, .slice none 0 0] 60)).alloc (.cells #[.int .i64 0, .bool false] 87) := ⟨_, rfl⟩
  have hB : Below w.heap.size w W := by rw [hW]; exact ((Below.refl _ _).alloc (Nat.le_refl _) _).alloc (by simp) _
  have hNb : Bk w.heap.size #[.int .i64 k, .int .i64 0, .string s0, .string ⟨#[]⟩, .slice none 0 0] 60 W := by rw [hW]; exact (Bk.new _ _ _).alloc _
  have hRb : Bk (w.heap.size + 1) #[.int .i64 0, .bool false] 87 W := by
    rw [hW]
    have := Bk.new (w.alloc (.cells #[.int .i64 k, .int .i64 0, .string s0, .string ⟨#[]⟩, .slice none 0 0] 60)) #[.int .i64 0, .bool false] 87
    simpa using this
  have hlt := hst.lt
  have N0 := Lib.hid (Mb.new (X := X0 w0.heap.size) hst hNb (Nat.le_refl _) (by unfold X0; omega))
  have F0 := Lib.hid (show Fy w0 a l.length cap (Xq w0.heap.size w.heap.size) (w.heap.size + 1) v z r w i v z r W from ⟨hst.keep hB, Ext.of (Gr.quiet hB), Mb.new hst hRb (by omega) (by unfold Xq; omega), by omega⟩)
  have HXB := Lib.hid (show Xq w0.heap.size w.heap.size w0.heap.size from Or.inl rfl)
  have HXN := Lib.hid (show Xq w0.heap.size w.heap.size w.heap.size from Or.inr rfl)
  have HNE := Lib.hid (show ¬ w.heap.size = w0.heap.size by omega)
  have HC := Lib.hid hc
  have HL := Lib.hid hl
  have HI := Lib.hid hi
  have HZ := Lib.hid hz
  have HZB := Lib.hid hzb
  have HZB0 := Lib.hid (show z.map (·.1) = zb ++ G1 zb.length [] by rw [hzb, G1_nil, List.append_nil])
  have HZ1 := Lib.hid (show z.length ≤ 1000000 by omega)
  have hib : i ≤ 50000 := by omega
  have hfs := fld_s
  have HNX := Lib.hid (next_any W F0.out.st hc (by omega) (Nat.le_of_lt hi))
  have HTA := Lib.hid (fun W2 (s2 : St w0 a l.length cap (i + 1) v z r W2) => take_any A W2 s2 hc (by omega) hi)
  obtain ⟨x, hx⟩ : ∃ x, tx l i = x := ⟨_, rfl⟩
  have hfin : ∀ ps j, fin k 0 (tx l i) ps j = fin k 0 x ps j := fun ps j => by rw [hx]
  rw [hx] at HNX
  have hdef : listed E l k A B i = (if kd l (i + 1) = A then (if B = 33 ∧ kd l (i + 2) = 33 then fin k 0 x [] (i + 3) else match els E l 6 6 [] (i + 2) with | .bad j => .bad j | .ok ps j => if kd l j = B then fin k 0 x ps (j + 1) else .bad j) else .bad (i + 1)) := by unfold listed; rw [hx]; rfl
  rw [hdef]
  clear hst hB hNb hRb hzb hz hi hl hlt hx hfin hdef
  by_cases h1 : kd l (i + 1) = A
  · rw [if_pos h1]
    rw [decide_eq_true h1, show aft l (i + 1) A = i + 2 from if_pos h1] at HTA
    have hi1 := kd_lt (l := l) (i := i + 1) (by omega)
    have HTB := Lib.hid (fun W2 (s2 : St w0 a l.length cap (i + 2) v z r W2) => take_any B W2 s2 hc (by have := HL.out; omega) hi1)
    by_cases h2 : B = 33 ∧ kd l (i + 2) = 33
    · rw [if_pos h2]
      obtain ⟨rfl, h3⟩ := h2
      rw [decide_eq_true h3, show aft l (i + 2) 33 = i + 3 from if_pos h3] at HTB
      clear h1 h3 hi1 hc hA hB0 hE hOk h0
      go_enter Tryz.func329, Tryz.ntmps329
      go_wp2_with fail
      rw [← hW]
      clear hW
      refine HNX.out.mono ?_
      rintro e w1 ⟨rfl, b1⟩
      have F1 := Lib.hid (F0.out.quiet b1)
      have N1 := Lib.hid (N0.out.ext (Ext.of (Gr.quiet b1)))
      clear b1
      have N2 := Lib.hid (N1.out.set 2 (.string x))
      have F2 := Lib.hid (F1.out.mset N1.out HXN.out 2 (.string x))
      have N3 := Lib.hid (N2.out.oth HNE.out 1 (.int .i64 ((i : Int) + 1)))
      have F3 := Lib.hid (F2.out.at HXB.out)
      obtain ⟨c0, c1, c2⟩ := F2.out.st.c
      have f1 := F2.out.st.f 1
      obtain ⟨n0, n1, n2, n3, n4⟩ := N1.out.bk.c5
      have nf := N1.out.bk.f 2
      go_wp2_with fail
      clear c0 c1 c2 f1 n0 n1 n2 n3 n4 nf
      refine (HTA.out _ F3.out.st).mono ?_
      rintro e w4 ⟨rfl, s4, g4⟩
      have F4 := Lib.hid (F3.out.take HXB.out s4 g4)
      have N4 := Lib.hid (N3.out.ext (Ext.of g4))
      clear s4 g4
      go_wp2_with fail
      refine (HTB.out _ F4.out.st).mono ?_
      rintro e w5 ⟨rfl, s5, g5⟩
      have F5 := Lib.hid (F4.out.take HXB.out s5 g5)
      have N5 := Lib.hid (N4.out.ext (Ext.of g5))
      clear s5 g5
      obtain ⟨r0, r1⟩ := F5.out.rb.bk.c2
      have g0 := F5.out.rb.bk.f 0
      have g1 := F5.out.rb.bk.f 1
      obtain ⟨n0, n1, n2, n3, n4⟩ := N5.out.bk.c5
      go_wp2_with fail
      clear r0 r1 g0 g1 n0 n1 n2 n3 n4
      refine ((addR k 0 x zb [] (.slice none 0 0) w0.heap.size _ F5.out.st HZ1.out (.inl ⟨rfl, rfl⟩) HZB0.out).mono fun e w' h => h.wide (Y := Xq w0.heap.size w.heap.size) (fun k _ h => by rcases h with h | h <;> exact Or.inl h)).mono ?_
      rintro e w9 h9
      obtain ⟨rfl, hv9⟩ := id h9
      have H9 := Lib.hid h9
      have R9 := Lib.hid (F5.out.rbk h9)
      obtain ⟨r0, r1⟩ := R9.out.c2
      have g0 := R9.out.f 0
      have g1 := R9.out.f 1
      clear h9 hv9
      go_wp2
      obtain ⟨t0, t1⟩ := (R9.out.put2 (.int .i64 (lvR (fin k 0 x [] (i + 3)))) (.bool (tgR (fin k 0 x [] (i + 3))))).c2
      exact bodyPost_ret (v := .agg #[.int .i64 (lvR (fin k 0 x [] (i + 3))), .bool (tgR (fin k 0 x [] (i + 3)))]) (by simp [results, Tryz.results329, go_sem, t0, t1]) rfl ((F5.out.res H9.out _ _).narrow (Nat.le_refl _))
    · rw [if_neg h2]
      have HEL := Lib.hid (fun W2 (s2 : St w0 a l.length cap (i + 2) v z r W2) n2 => elements_any hE hOk k 0 x 6 zb w.heap.size W2 (by omega) hi1 HL.out hc (by omega) (by omega) (by have := HZ.out; omega) s2 n2 HZB.out)
      have HOP := Lib.hid (els_ok (M := M) hOk 6 6 [] (i + 2) hi1 (fun q hq => by simp at hq))
      -- what comes behind the list, from the state in which it is read
      have HEND : ∀ (w5 : World), Fy w0 a l.length cap (Xq w0.heap.size w.heap.size) (w.heap.size + 1) v z r w (i + 2) v z r w5 → True := fun _ _ => trivial
      clear HEND
      cases hr : els E l 6 6 [] (i + 2) with
      | bad j =>
        simp only
        rw [hr] at HEL
        by_cases h33 : B = 33
        · subst h33
          have h3 : ¬ kd l (i + 2) = 33 := fun h => h2 ⟨rfl, h⟩
          rw [decide_eq_false h3, show aft l (i + 2) 33 = i + 2 from if_neg h3] at HTB
          clear h1 h2 h3 hi1 hc hA hB0 hE hOk h0 hr
          go_enter Tryz.func329, Tryz.ntmps329
          go_wp2_with fail
          rw [← hW]
          clear hW
          refine HNX.out.mono ?_
          rintro e w1 ⟨rfl, b1⟩
          have F1 := Lib.hid (F0.out.quiet b1)
          have N1 := Lib.hid (N0.out.ext (Ext.of (Gr.quiet b1)))
          clear b1
          have N2 := Lib.hid (N1.out.set 2 (.string x))
          have F2 := Lib.hid (F1.out.mset N1.out HXN.out 2 (.string x))
          have N3 := Lib.hid (N2.out.oth HNE.out 1 (.int .i64 ((i : Int) + 1)))
          have F3 := Lib.hid (F2.out.at HXB.out)
          obtain ⟨c0, c1, c2⟩ := F2.out.st.c
          have f1 := F2.out.st.f 1
          obtain ⟨n0, n1, n2, n3, n4⟩ := N1.out.bk.c5
          have nf := N1.out.bk.f 2
          go_wp2_with fail
          clear c0 c1 c2 f1 n0 n1 n2 n3 n4 nf
          refine (HTA.out _ F3.out.st).mono ?_
          rintro e w4 ⟨rfl, s4, g4⟩
          have F4 := Lib.hid (F3.out.take HXB.out s4 g4)
          have N4 := Lib.hid (N3.out.ext (Ext.of g4))
          clear s4 g4
          go_wp2_with fail
          refine (HTB.out _ F4.out.st).mono ?_
          rintro e w5 ⟨rfl, s5, g5⟩
          have F5 := Lib.hid (F4.out.take HXB.out s5 g5)
          have N5 := Lib.hid (N4.out.ext (Ext.of g5))
          clear s5 g5
          go_wp2_with fail
          refine (HEL.out _ F5.out.st N5.out).mono ?_
          rintro e w6 ⟨rfl, v6, z6, r6, u6, q6, s6, e6, n6, -⟩
          simp only [atP] at s6
          have F6 := Lib.hid (F5.out.go s6 e6)
          clear s6 e6 n6
          simp only [okP]
          obtain ⟨r0, r1⟩ := F6.out.rb.bk.c2
          have g0 := F6.out.rb.bk.f 0
          have g1 := F6.out.rb.bk.f 1
          go_wp2
          obtain ⟨t0, t1⟩ := (F6.out.rb.bk.put2 (.int .i64 0) (.bool false)).c2
          exact bodyPost_ret (v := .agg #[.int .i64 0, .bool false]) (by simp [results, Tryz.results329, go_sem, t0, t1]) rfl ((F6.out.bad _ _ rfl).narrow (Nat.le_refl _))
        · obtain ⟨b1', b2'⟩ := ne_facts h33
          clear h1 h2 hi1 hc hA hB0 hE hOk h0 hr
          go_enter Tryz.func329, Tryz.ntmps329
          go_wp2_with fail
          rw [← hW]
          clear hW
          refine HNX.out.mono ?_
          rintro e w1 ⟨rfl, b1⟩
          have F1 := Lib.hid (F0.out.quiet b1)
          have N1 := Lib.hid (N0.out.ext (Ext.of (Gr.quiet b1)))
          clear b1
          have N2 := Lib.hid (N1.out.set 2 (.string x))
          have F2 := Lib.hid (F1.out.mset N1.out HXN.out 2 (.string x))
          have N3 := Lib.hid (N2.out.oth HNE.out 1 (.int .i64 ((i : Int) + 1)))
          have F3 := Lib.hid (F2.out.at HXB.out)
          obtain ⟨c0, c1, c2⟩ := F2.out.st.c
          have f1 := F2.out.st.f 1
          obtain ⟨n0, n1, n2, n3, n4⟩ := N1.out.bk.c5
          have nf := N1.out.bk.f 2
          go_wp2_with fail
          clear c0 c1 c2 f1 n0 n1 n2 n3 n4 nf
          refine (HTA.out _ F3.out.st).mono ?_
          rintro e w4 ⟨rfl, s4, g4⟩
          have F4 := Lib.hid (F3.out.take HXB.out s4 g4)
          have N4 := Lib.hid (N3.out.ext (Ext.of g4))
          clear s4 g4
          go_wp2_with fail
          refine (HEL.out _ F4.out.st N4.out).mono ?_
          rintro e w6 ⟨rfl, v6, z6, r6, u6, q6, s6, e6, n6, -⟩
          simp only [atP] at s6
          have F6 := Lib.hid (F4.out.go s6 e6)
          clear s6 e6 n6
          simp only [okP]
          obtain ⟨r0, r1⟩ := F6.out.rb.bk.c2
          have g0 := F6.out.rb.bk.f 0
          have g1 := F6.out.rb.bk.f 1
          go_wp2
          obtain ⟨t0, t1⟩ := (F6.out.rb.bk.put2 (.int .i64 0) (.bool false)).c2
          exact bodyPost_ret (v := .agg #[.int .i64 0, .bool false]) (by simp [results, Tryz.results329, go_sem, t0, t1]) rfl ((F6.out.bad _ _ rfl).narrow (Nat.le_refl _))
      | ok ps j =>
        simp only
        rw [hr] at HEL HOP
        have hjl := HOP.out.2.1
        have HTC := Lib.hid (fun v2 z2 r2 W2 s2 => take_any (v := v2) (z := z2) (r := r2) (cap := cap) (i := j) B W2 s2 hc (by have := HL.out; omega) hjl)
        by_cases h4 : kd l j = B
        · rw [if_pos h4]
          rw [decide_eq_true h4, show aft l j B = j + 1 from if_pos h4] at HTC
          by_cases h33 : B = 33
          · subst h33
            have h3 : ¬ kd l (i + 2) = 33 := fun h => h2 ⟨rfl, h⟩
            rw [decide_eq_false h3, show aft l (i + 2) 33 = i + 2 from if_neg h3] at HTB
            clear h1 h2 h3 h4 hi1 hjl hc hA hB0 hE hOk h0 hr
            go_enter Tryz.func329, Tryz.ntmps329
            go_wp2_with fail
            rw [← hW]
            clear hW
            refine HNX.out.mono ?_
            rintro e w1 ⟨rfl, b1⟩
            have F1 := Lib.hid (F0.out.quiet b1)
            have N1 := Lib.hid (N0.out.ext (Ext.of (Gr.quiet b1)))
            clear b1
            have N2 := Lib.hid (N1.out.set 2 (.string x))
            have F2 := Lib.hid (F1.out.mset N1.out HXN.out 2 (.string x))
            have N3 := Lib.hid (N2.out.oth HNE.out 1 (.int .i64 ((i : Int) + 1)))
            have F3 := Lib.hid (F2.out.at HXB.out)
            obtain ⟨c0, c1, c2⟩ := F2.out.st.c
            have f1 := F2.out.st.f 1
            obtain ⟨n0, n1, n2, n3, n4⟩ := N1.out.bk.c5
            have nf := N1.out.bk.f 2
            go_wp2_with fail
            clear c0 c1 c2 f1 n0 n1 n2 n3 n4 nf
            refine (HTA.out _ F3.out.st).mono ?_
            rintro e w4 ⟨rfl, s4, g4⟩
            have F4 := Lib.hid (F3.out.take HXB.out s4 g4)
            have N4 := Lib.hid (N3.out.ext (Ext.of g4))
            clear s4 g4
            go_wp2_with fail
            refine (HTB.out _ F4.out.st).mono ?_
            rintro e w5 ⟨rfl, s5, g5⟩
            have F5 := Lib.hid (F4.out.take HXB.out s5 g5)
            have N5 := Lib.hid (N4.out.ext (Ext.of g5))
            clear s5 g5
            go_wp2_with fail
            refine (HEL.out _ F5.out.st N5.out).mono ?_
            rintro e w6 ⟨rfl, v6, z6, r6, u6, q6, s6, e6, n6, m6⟩
            obtain ⟨m6, x6, y6⟩ := m6 _ _ rfl
            simp only [atP] at s6
            have F6 := Lib.hid (F5.out.go s6 e6)
            have N6 := Lib.hid n6
            have X6 := Lib.hid x6
            have HM6 := Lib.hid m6
            have HQ6 := Lib.hid (show w.heap.size + 1 < q6 from Nat.lt_of_lt_of_le F5.out.rb.bk.lt y6)
            clear y6
            have HZ6 := Lib.hid (eres_len HZB.out m6 HOP.out (by have := HZ.out; omega))
            clear s6 e6 n6 m6 x6
            simp only [okP]
            go_wp2_with fail
            refine (HTC.out _ _ _ _ F6.out.st).mono ?_
            rintro e w7 ⟨rfl, s7, g7⟩
            have F7 := Lib.hid (F6.out.take HXB.out s7 g7)
            have N7 := Lib.hid (N6.out.ext (Ext.of g7))
            have X7 := Lib.hid (X6.out.take g7)
            clear s7 g7
            obtain ⟨r0, r1⟩ := F7.out.rb.bk.c2
            have g0 := F7.out.rb.bk.f 0
            have g1 := F7.out.rb.bk.f 1
            obtain ⟨n0, n1, n2, n3, n4⟩ := N7.out.bk.c5
            go_wp2_with fail
            clear r0 r1 g0 g1 n0 n1 n2 n3 n4
            refine (addR k 0 x zb ps u6 q6 _ F7.out.st HZ6.out X7.out HM6.out).mono ?_
            rintro e w9 h9
            obtain ⟨rfl, hv9⟩ := id h9
            have H9 := Lib.hid h9
            have R9 := Lib.hid (h9.bk F7.out.rb.bk (fun h => by rcases h with h | h; exact F7.out.rb.x (Or.inl h); have := HQ6.out; omega) F7.out.rb.o)
            obtain ⟨r0, r1⟩ := R9.out.c2
            have g0 := R9.out.f 0
            have g1 := R9.out.f 1
            clear h9 hv9
            go_wp2
            obtain ⟨t0, t1⟩ := (R9.out.put2 (.int .i64 (lvR (fin k 0 x ps (j + 1)))) (.bool (tgR (fin k 0 x ps (j + 1))))).c2
            exact bodyPost_ret (v := .agg #[.int .i64 (lvR (fin k 0 x ps (j + 1))), .bool (tgR (fin k 0 x ps (j + 1)))]) (by simp [results, Tryz.results329, go_sem, t0, t1]) rfl ((resq (by have := HQ6.out; omega) F7.out H9.out (Nat.le_refl _) (by have := HQ6.out; omega) _ _))
          · obtain ⟨b1', b2'⟩ := ne_facts h33
            clear h1 h2 h4 hi1 hjl hc hA hB0 hE hOk h0 hr
            go_enter Tryz.func329, Tryz.ntmps329
            go_wp2_with fail
            rw [← hW]
            clear hW
            refine HNX.out.mono ?_
            rintro e w1 ⟨rfl, b1⟩
            have F1 := Lib.hid (F0.out.quiet b1)
            have N1 := Lib.hid (N0.out.ext (Ext.of (Gr.quiet b1)))
            clear b1
            have N2 := Lib.hid (N1.out.set 2 (.string x))
            have F2 := Lib.hid (F1.out.mset N1.out HXN.out 2 (.string x))
            have N3 := Lib.hid (N2.out.oth HNE.out 1 (.int .i64 ((i : Int) + 1)))
            have F3 := Lib.hid (F2.out.at HXB.out)
            obtain ⟨c0, c1, c2⟩ := F2.out.st.c
            have f1 := F2.out.st.f 1
            obtain ⟨n0, n1, n2, n3, n4⟩ := N1.out.bk.c5
            have nf := N1.out.bk.f 2
            go_wp2_with fail
            clear c0 c1 c2 f1 n0 n1 n2 n3 n4 nf
            refine (HTA.out _ F3.out.st).mono ?_
            rintro e w4 ⟨rfl, s4, g4⟩
            have F4 := Lib.hid (F3.out.take HXB.out s4 g4)
            have N4 := Lib.hid (N3.out.ext (Ext.of g4))
            clear s4 g4
            go_wp2_with fail
            refine (HEL.out _ F4.out.st N4.out).mono ?_
            rintro e w6 ⟨rfl, v6, z6, r6, u6, q6, s6, e6, n6, m6⟩
            obtain ⟨m6, x6, y6⟩ := m6 _ _ rfl
            simp only [atP] at s6
            have F6 := Lib.hid (F4.out.go s6 e6)
            have N6 := Lib.hid n6
            have X6 := Lib.hid x6
            have HM6 := Lib.hid m6
            have HQ6 := Lib.hid (show w.heap.size + 1 < q6 from Nat.lt_of_lt_of_le F4.out.rb.bk.lt y6)
            clear y6
            have HZ6 := Lib.hid (eres_len HZB.out m6 HOP.out (by have := HZ.out; omega))
            clear s6 e6 n6 m6 x6
            simp only [okP]
            go_wp2_with fail
            refine (HTC.out _ _ _ _ F6.out.st).mono ?_
            rintro e w7 ⟨rfl, s7, g7⟩
            have F7 := Lib.hid (F6.out.take HXB.out s7 g7)
            have N7 := Lib.hid (N6.out.ext (Ext.of g7))
            have X7 := Lib.hid (X6.out.take g7)
            clear s7 g7
            obtain ⟨r0, r1⟩ := F7.out.rb.bk.c2
            have g0 := F7.out.rb.bk.f 0
            have g1 := F7.out.rb.bk.f 1
            obtain ⟨n0, n1, n2, n3, n4⟩ := N7.out.bk.c5
            go_wp2_with fail
            clear r0 r1 g0 g1 n0 n1 n2 n3 n4
            refine (addR k 0 x zb ps u6 q6 _ F7.out.st HZ6.out X7.out HM6.out).mono ?_
            rintro e w9 h9
            obtain ⟨rfl, hv9⟩ := id h9
            have H9 := Lib.hid h9
            have R9 := Lib.hid (h9.bk F7.out.rb.bk (fun h => by rcases h with h | h; exact F7.out.rb.x (Or.inl h); have := HQ6.out; omega) F7.out.rb.o)
            obtain ⟨r0, r1⟩ := R9.out.c2
            have g0 := R9.out.f 0
            have g1 := R9.out.f 1
            clear h9 hv9
            go_wp2
            obtain ⟨t0, t1⟩ := (R9.out.put2 (.int .i64 (lvR (fin k 0 x ps (j + 1)))) (.bool (tgR (fin k 0 x ps (j + 1))))).c2
            exact bodyPost_ret (v := .agg #[.int .i64 (lvR (fin k 0 x ps (j + 1))), .bool (tgR (fin k 0 x ps (j + 1)))]) (by simp [results, Tryz.results329, go_sem, t0, t1]) rfl ((resq (by have := HQ6.out; omega) F7.out H9.out (Nat.le_refl _) (by have := HQ6.out; omega) _ _))
        · rw [if_neg h4]
          rw [decide_eq_false h4, show aft l j B = j from if_neg h4] at HTC
          by_cases h33 : B = 33
          · subst h33
            have h3 : ¬ kd l (i + 2) = 33 := fun h => h2 ⟨rfl, h⟩
            rw [decide_eq_false h3, show aft l (i + 2) 33 = i + 2 from if_neg h3] at HTB
            clear h1 h2 h3 h4 hi1 hjl hc hA hB0 hE hOk h0 hr
            go_enter Tryz.func329, Tryz.ntmps329
            go_wp2_with fail
            rw [← hW]
            clear hW
            refine HNX.out.mono ?_
            rintro e w1 ⟨rfl, b1⟩
            have F1 := Lib.hid (F0.out.quiet b1)
            have N1 := Lib.hid (N0.out.ext (Ext.of (Gr.quiet b1)))
            clear b1
            have N2 := Lib.hid (N1.out.set 2 (.string x))
            have F2 := Lib.hid (F1.out.mset N1.out HXN.out 2 (.string x))
            have N3 := Lib.hid (N2.out.oth HNE.out 1 (.int .i64 ((i : Int) + 1)))
            have F3 := Lib.hid (F2.out.at HXB.out)
            obtain ⟨c0, c1, c2⟩ := F2.out.st.c
            have f1 := F2.out.st.f 1
            obtain ⟨n0, n1, n2, n3, n4⟩ := N1.out.bk.c5
            have nf := N1.out.bk.f 2
            go_wp2_with fail
            clear c0 c1 c2 f1 n0 n1 n2 n3 n4 nf
            refine (HTA.out _ F3.out.st).mono ?_
            rintro e w4 ⟨rfl, s4, g4⟩
            have F4 := Lib.hid (F3.out.take HXB.out s4 g4)
            have N4 := Lib.hid (N3.out.ext (Ext.of g4))
            clear s4 g4
            go_wp2_with fail
            refine (HTB.out _ F4.out.st).mono ?_
            rintro e w5 ⟨rfl, s5, g5⟩
            have F5 := Lib.hid (F4.out.take HXB.out s5 g5)
            have N5 := Lib.hid (N4.out.ext (Ext.of g5))
            clear s5 g5
            go_wp2_with fail
            refine (HEL.out _ F5.out.st N5.out).mono ?_
            rintro e w6 ⟨rfl, v6, z6, r6, u6, q6, s6, e6, n6, m6⟩
            obtain ⟨m6, x6, -⟩ := m6 _ _ rfl
            simp only [atP] at s6
            have F6 := Lib.hid (F5.out.go s6 e6)
            have N6 := Lib.hid n6
            have X6 := Lib.hid x6
            have HM6 := Lib.hid m6
            have HZ6 := Lib.hid (eres_len HZB.out m6 HOP.out (by have := HZ.out; omega))
            clear s6 e6 n6 m6 x6
            simp only [okP]
            go_wp2_with fail
            refine (HTC.out _ _ _ _ F6.out.st).mono ?_
            rintro e w7 ⟨rfl, s7, g7⟩
            have F7 := Lib.hid (F6.out.take HXB.out s7 g7)
            have N7 := Lib.hid (N6.out.ext (Ext.of g7))
            have X7 := Lib.hid (X6.out.take g7)
            clear s7 g7
            obtain ⟨r0, r1⟩ := F7.out.rb.bk.c2
            have g0 := F7.out.rb.bk.f 0
            have g1 := F7.out.rb.bk.f 1
            go_wp2
            obtain ⟨t0, t1⟩ := (F7.out.rb.bk.put2 (.int .i64 0) (.bool false)).c2
            exact bodyPost_ret (v := .agg #[.int .i64 0, .bool false]) (by simp [results, Tryz.results329, go_sem, t0, t1]) rfl ((F7.out.bad _ _ rfl).narrow (Nat.le_refl _))
          · obtain ⟨b1', b2'⟩ := ne_facts h33
            clear h1 h2 h4 hi1 hjl hc hA hB0 hE hOk h0 hr
            go_enter Tryz.func329, Tryz.ntmps329
            go_wp2_with fail
            rw [← hW]
            clear hW
            refine HNX.out.mono ?_
            rintro e w1 ⟨rfl, b1⟩
            have F1 := Lib.hid (F0.out.quiet b1)
            have N1 := Lib.hid (N0.out.ext (Ext.of (Gr.quiet b1)))
            clear b1
            have N2 := Lib.hid (N1.out.set 2 (.string x))
            have F2 := Lib.hid (F1.out.mset N1.out HXN.out 2 (.string x))
            have N3 := Lib.hid (N2.out.oth HNE.out 1 (.int .i64 ((i : Int) + 1)))
            have F3 := Lib.hid (F2.out.at HXB.out)
            obtain ⟨c0, c1, c2⟩ := F2.out.st.c
            have f1 := F2.out.st.f 1
            obtain ⟨n0, n1, n2, n3, n4⟩ := N1.out.bk.c5
            have nf := N1.out.bk.f 2
            go_wp2_with fail
            clear c0 c1 c2 f1 n0 n1 n2 n3 n4 nf
            refine (HTA.out _ F3.out.st).mono ?_
            rintro e w4 ⟨rfl, s4, g4⟩
            have F4 := Lib.hid (F3.out.take HXB.out s4 g4)
            have N4 := Lib.hid (N3.out.ext (Ext.of g4))
            clear s4 g4
            go_wp2_with fail
            refine (HEL.out _ F4.out.st N4.out).mono ?_
            rintro e w6 ⟨rfl, v6, z6, r6, u6, q6, s6, e6, n6, m6⟩
            obtain ⟨m6, x6, -⟩ := m6 _ _ rfl
            simp only [atP] at s6
            have F6 := Lib.hid (F4.out.go s6 e6)
            have N6 := Lib.hid n6
            have X6 := Lib.hid x6
            have HM6 := Lib.hid m6
            have HZ6 := Lib.hid (eres_len HZB.out m6 HOP.out (by have := HZ.out; omega))
            clear s6 e6 n6 m6 x6
            simp only [okP]
            go_wp2_with fail
            refine (HTC.out _ _ _ _ F6.out.st).mono ?_
            rintro e w7 ⟨rfl, s7, g7⟩
            have F7 := Lib.hid (F6.out.take HXB.out s7 g7)
            have N7 := Lib.hid (N6.out.ext (Ext.of g7))
            have X7 := Lib.hid (X6.out.take g7)
            clear s7 g7
            obtain ⟨r0, r1⟩ := F7.out.rb.bk.c2
            have g0 := F7.out.rb.bk.f 0
            have g1 := F7.out.rb.bk.f 1
            go_wp2
            obtain ⟨t0, t1⟩ := (F7.out.rb.bk.put2 (.int .i64 0) (.bool false)).c2
            exact bodyPost_ret (v := .agg #[.int .i64 0, .bool false]) (by simp [results, Tryz.results329, go_sem, t0, t1]) rfl ((F7.out.bad _ _ rfl).narrow (Nat.le_refl _))
  · rw [if_neg h1]
    rw [decide_eq_false h1, show aft l (i + 1) A = i + 1 from if_neg h1] at HTA
    clear h1 hc hA hB0 hE hOk h0
    go_enter Tryz.func329, Tryz.ntmps329
    go_wp2_with fail
    rw [← hW]
    clear hW
    refine HNX.out.mono ?_
    rintro e w1 ⟨rfl, b1⟩
    have F1 := Lib.hid (F0.out.quiet b1)
    have N1 := Lib.hid (N0.out.ext (Ext.of (Gr.quiet b1)))
    clear b1
    have N2 := Lib.hid (N1.out.set 2 (.string x))
    have F2 := Lib.hid (F1.out.mset N1.out HXN.out 2 (.string x))
    have N3 := Lib.hid (N2.out.oth HNE.out 1 (.int .i64 ((i : Int) + 1)))
    have F3 := Lib.hid (F2.out.at HXB.out)
    obtain ⟨c0, c1, c2⟩ := F2.out.st.c
    have f1 := F2.out.st.f 1
    obtain ⟨n0, n1, n2, n3, n4⟩ := N1.out.bk.c5
    have nf := N1.out.bk.f 2
    go_wp2_with fail
    clear c0 c1 c2 f1 n0 n1 n2 n3 n4 nf
    refine (HTA.out _ F3.out.st).mono ?_
    rintro e w4 ⟨rfl, s4, g4⟩
    have F4 := Lib.hid (F3.out.take HXB.out s4 g4)
    have N4 := Lib.hid (N3.out.ext (Ext.of g4))
    clear s4 g4
    obtain ⟨r0, r1⟩ := F4.out.rb.bk.c2
    have g0 := F4.out.rb.bk.f 0
    have g1 := F4.out.rb.bk.f 1
    go_wp2
    obtain ⟨t0, t1⟩ := (F4.out.rb.bk.put2 (.int .i64 0) (.bool false)).c2
    exact bodyPost_ret (v := .agg #[.int .i64 0, .bool false]) (by simp [results, Tryz.results329, go_sem, t0, t1]) rfl ((F4.out.bad _ _ rfl).narrow (Nat.le_refl _))
end
end Go.Proofs.YtiilpnoaocfjgaaGreatDoor.pr

namespace Go.Proofs.YtiilpnoaocfjgaaGreatDoor.pr
open Go.ChangeShapes Go.WideShapes Go.ChangeAt Go.RowKit
open tk (Tk)
open nd (Nd PT KidV IBlk OwnI shN makeT)
open ps (fits Ps B5 posOk kidI top)
open pe
set_option linter.unusedVariables false
set_option linter.unusedSimpArgs false
set_option maxRecDepth 20000

section
variable {w0 : World} {l : List Tk} {a : Option Addr} {cap i : Nat} {v : Value} {z : List (Nd × Value)} {r : Nat → Nat} {E : Ps → Nat → R} {M i0 : Nat}

theorem eres_len2 {zb : List Nd} {ps : List (List Nd)} {l : List Tk} {M i j : Nat} {z z2 : List (Nd × Value)} (hzb : z.map (·.1) = zb) (m2 : z2.map (·.1) = zb ++ G1 zb.length ps) (ho : OkP M l i 0 (.ok ps j)) (hz : z.length + 2 * (l.length - i) ≤ 200000) : z2.length + 2 * (l.length - (j + 1)) ≤ 200000 := by
  have h1 := congrArg List.length hzb
  have h2 := congrArg List.length m2
  rw [List.length_map] at h1
  rw [List.length_map, List.length_append, G1_len] at h2
  obtain ⟨o1, o2, o3, o4, o5⟩ := ho
  omega
set_option maxHeartbeats 6400000 in
theorem group_any (hE : CallE w0 a cap l E i0) (hOk : ∀ p i, i ≤ l.length → Ok M l i (E p i)) (p : Ps) (zb : List Nd) (w : World) (h0 : i0 ≤ i + 1) (hi : i < l.length) (hl : l.length ≤ 50000) (hc : tk.Lies w0.heap.size w0 a l) (hz : z.length + 2 * (l.length - i) ≤ 200000) (hst : St w0 a l.length cap i v z r w) (hzb : z.map (·.1) = zb) :
    Calls Tryz.prog 182 #[.pointer (some ⟨w0.heap.size, 0, none⟩), .agg #[.int .i64 p.l, .bool p.d, .bool p.i, .bool p.g, .bool p.s]] w (Res w0 a l.length cap zb (X0 w0.heap.size) v z r w (group E l p i)) := by
  obtain ⟨V, hV⟩ : ∃ V, V = (w.alloc (.cells #[.int .i64 p.l, .bool p.d, .bool p.i, .bool p.g, .bool p.s] 26)).alloc (.cells #[.int .i64 0, .bool false] 87) := ⟨_, rfl⟩
  have hB : Below w.heap.size w V := by rw [hV]; exact ((Below.refl _ _).alloc (Nat.le_refl _) _).alloc (by simp) _
  have hPb : Bk w.heap.size #[.int .i64 p.l, .bool p.d, .bool p.i, .bool p.g, .bool p.s] 26 V := by rw [hV]; exact (Bk.new _ _ _).alloc _
  have hRb : Bk (w.heap.size + 1) #[.int .i64 0, .bool false] 87 V := by
    rw [hV]
    have := Bk.new (w.alloc (.cells #[.int .i64 p.l, .bool p.d, .bool p.i, .bool p.g, .bool p.s] 26)) #[.int .i64 0, .bool false] 87
    simpa using this
  have hlt := hst.lt
  have P0 : Mb (Xq w0.heap.size (w.heap.size + 1 + 1)) w0.heap.size w.heap.size #[.int .i64 p.l, .bool p.d, .bool p.i, .bool p.g, .bool p.s] 26 v z r V := Mb.new hst hPb (Nat.le_refl _) (by unfold Xq; omega)
  have F0 : Fy w0 a l.length cap (Xq w0.heap.size (w.heap.size + 1 + 1)) (w.heap.size + 1) v z r w i v z r V := ⟨hst.keep hB, Ext.of (Gr.quiet hB), Mb.new hst hRb (by omega) (by unfold Xq; omega), by omega⟩
  have HXB := Lib.hid (show Xq w0.heap.size (w.heap.size + 1 + 1) w0.heap.size from Or.inl rfl)
  obtain ⟨W, hW⟩ : ∃ W, W = (V.setCell ⟨w0.heap.size, 1, none⟩ (.int .i64 ((i : Int) + 1))).alloc (.cells #[.int .i64 13, .int .i64 0, .string ⟨#[]⟩, .string ⟨#[]⟩, .slice none 0 0] 60) := ⟨_, rfl⟩
  have hgn : (V.setCell ⟨w0.heap.size, 1, none⟩ (.int .i64 ((i : Int) + 1))).heap.size = w.heap.size + 1 + 1 := by rw [hV]; simp
  have hB1 : Below (V.setCell ⟨w0.heap.size, 1, none⟩ (.int .i64 ((i : Int) + 1))).heap.size (V.setCell ⟨w0.heap.size, 1, none⟩ (.int .i64 ((i : Int) + 1))) W := by rw [hW]; exact (Below.refl _ _).alloc (Nat.le_refl _) _
  have f1' := F0.at HXB.out
  have F1 := Lib.hid (f1'.quiet hB1)
  have P1 := Lib.hid ((P0.oth (by omega : ¬ w.heap.size = w0.heap.size) 1 (.int .i64 ((i : Int) + 1))).ext (Ext.of (Gr.quiet hB1)))
  have N1 := Lib.hid (show Mb (X0 w0.heap.size) w0.heap.size (w.heap.size + 1 + 1) #[.int .i64 13, .int .i64 0, .string ⟨#[]⟩, .string ⟨#[]⟩, .slice none 0 0] 60 v z r W by
    refine Mb.new f1'.st ?_ (by rw [hgn]; exact Nat.le_refl _) (by unfold X0; omega)
    rw [hW, ← hgn]
    exact Bk.new _ _ _)
  obtain ⟨c0, c1, c2⟩ := F0.st.c
  have f1 := F0.st.f 1
  obtain ⟨p0, p1, p2, p3, p4⟩ := P1.out.bk.c5
  obtain ⟨n0, n1, n2, n3, n4⟩ := N1.out.bk.c5
  have HGW := Lib.hid (show w.heap.size ≤ w.heap.size + 1 + 1 by omega)
  have HC := Lib.hid hc
  have HL := Lib.hid hl
  have HI := Lib.hid hi
  have HZ := Lib.hid hz
  have HZB := Lib.hid hzb
  have hib : i ≤ 50000 := by omega
  have HOP := Lib.hid (els_ok (M := M) hOk (many p) (many p) [] (i + 1) hi (fun q hq => by simp at hq))
  have HPL := Lib.hid (els_len (E := E) (l := l) (many p) (many p) [] (i + 1))
  obtain ⟨m, hm⟩ : ∃ m, many p = m := ⟨_, rfl⟩
  have hm1 : 0 < m := by rw [← hm]; unfold many; split <;> omega
  have hm6 : m ≤ 6 := by rw [← hm]; unfold many; split <;> omega
  have HEL := Lib.hid (fun W2 (s2 : St w0 a l.length cap (i + 1) v z r W2) n2 => elements_any hE hOk 13 0 ⟨#[]⟩ m zb (w.heap.size + 1 + 1) W2 h0 hi hl hc hm1 hm6 (by omega) s2 n2 hzb)
  have HM6 := Lib.hid hm6
  have hdef : group E l p i = (match els E l m m [] (i + 1) with | .bad j => .bad j | .ok ps j => if kd l j = 33 then (if ps.length = 1 then .ok 15 false (ps.headD []) (j + 1) else inn l ps (j + 1)) else .bad j) := by unfold group; rw [hm]; rfl
  rw [hdef]
  have hFT : ft 13 0 p = decide (m = 6) := by
    rw [← hm]; unfold many
    cases ft 13 0 p <;> rfl
  have HFT := Lib.hid (show fits 13 0 p.l p.d p.i p.g p.s = decide (m = 6) from hFT)
  rw [hm] at HOP HPL
  have hm16 : m = 1 ∨ m = 6 := by rw [← hm]; unfold many; split <;> simp
  rw [hW] at p0 p1 p2 p3 p4 n0 n1 n2 n3 n4
  rw [hV] at hW c0 c1 c2 f1 p0 p1 p2 p3 p4 n0 n1 n2 n3 n4
  clear hst hB hB1 hPb hRb hzb hz hi hl hlt hdef hgn hm hFT P0 F0 f1' hV hE hOk h0 hm1 hm6
  cases hr : els E l m m [] (i + 1) with
  | bad j =>
    simp only
    rw [hr] at HEL
    clear hc hr
    rcases hm16 with rfl | rfl
    · go_enter Tryz.func182, Tryz.ntmps182
      go_wp2_with fail
      rw [← hW]
      clear hW c0 c1 c2 f1 p0 p1 p2 p3 p4 n0 n1 n2 n3 n4
      refine (_root_.Go.Proofs.YtiilpnoaocfjgaaGreatDoor.ps.impl_fits 13 0 p.l ⟨#[]⟩ ⟨#[]⟩ none 0 0 p.d p.i p.g p.s _).mono ?_
      rw [HFT.out]
      rintro e w2 ⟨rfl, b2⟩
      have F2 := Lib.hid (F1.out.quiet b2)
      have N2 := Lib.hid (N1.out.ext (Ext.of (Gr.quiet b2)))
      have P2 := Lib.hid (P1.out.ext (Ext.of (Gr.quiet b2)))
      clear b2
      go_wp2_with fail
      refine (HEL.out _ F2.out.st N2.out).mono ?_
      rintro e w6 ⟨rfl, v6, z6, r6, u6, q6, s6, e6, n6, -⟩
      simp only [atP] at s6
      have F6 := Lib.hid (F2.out.go s6 e6)
      clear s6 e6 n6
      simp only [okP]
      obtain ⟨r0, r1⟩ := F6.out.rb.bk.c2
      have g0 := F6.out.rb.bk.f 0
      have g1 := F6.out.rb.bk.f 1
      go_wp2
      obtain ⟨t0, t1⟩ := (F6.out.rb.bk.put2 (.int .i64 0) (.bool false)).c2
      exact bodyPost_ret (v := .agg #[.int .i64 0, .bool false]) (by simp [results, Tryz.results182, go_sem, t0, t1]) rfl ((F6.out.bad _ _ rfl).narrow HGW.out)
    · go_enter Tryz.func182, Tryz.ntmps182
      go_wp2_with fail
      rw [← hW]
      clear hW c0 c1 c2 f1 p0 p1 p2 p3 p4 n0 n1 n2 n3 n4
      refine (_root_.Go.Proofs.YtiilpnoaocfjgaaGreatDoor.ps.impl_fits 13 0 p.l ⟨#[]⟩ ⟨#[]⟩ none 0 0 p.d p.i p.g p.s _).mono ?_
      rw [HFT.out]
      rintro e w2 ⟨rfl, b2⟩
      have F2 := Lib.hid (F1.out.quiet b2)
      have N2 := Lib.hid (N1.out.ext (Ext.of (Gr.quiet b2)))
      have P2 := Lib.hid (P1.out.ext (Ext.of (Gr.quiet b2)))
      clear b2
      go_wp2_with fail
      refine (HEL.out _ F2.out.st N2.out).mono ?_
      rintro e w6 ⟨rfl, v6, z6, r6, u6, q6, s6, e6, n6, -⟩
      simp only [atP] at s6
      have F6 := Lib.hid (F2.out.go s6 e6)
      clear s6 e6 n6
      simp only [okP]
      obtain ⟨r0, r1⟩ := F6.out.rb.bk.c2
      have g0 := F6.out.rb.bk.f 0
      have g1 := F6.out.rb.bk.f 1
      go_wp2
      obtain ⟨t0, t1⟩ := (F6.out.rb.bk.put2 (.int .i64 0) (.bool false)).c2
      exact bodyPost_ret (v := .agg #[.int .i64 0, .bool false]) (by simp [results, Tryz.results182, go_sem, t0, t1]) rfl ((F6.out.bad _ _ rfl).narrow HGW.out)
  | ok ps j =>
    simp only
    rw [hr] at HEL HOP
    have hpl := HPL.out _ _ hr
    simp only [List.length_nil, Nat.zero_add] at hpl
    have hjl := HOP.out.2.1
    have hps := HOP.out.2.2.2.2
    have HPS := Lib.hid (show ps.length ≤ 6 by have := HM6.out; omega)
    have HTC := Lib.hid (fun v2 z2 r2 W2 s2 => take_any (v := v2) (z := z2) (r := r2) (cap := cap) (i := j) 33 W2 s2 hc (by have := HL.out; omega) hjl)
    by_cases h4 : kd l j = 33
    · rw [if_pos h4]
      rw [decide_eq_true h4, show aft l j 33 = j + 1 from if_pos h4] at HTC
      have hj1 := kd_lt (l := l) (i := j) (by omega)
      have HJ1 := Lib.hid hj1
      by_cases h5 : ps.length = 1
      · rw [if_pos h5]
        obtain ⟨t, rfl⟩ := List.length_eq_one_iff.1 h5
        clear hc hr hjl h4 h5 hpl hps hj1
        rcases hm16 with rfl | rfl
        · go_enter Tryz.func182, Tryz.ntmps182
          go_wp2_with fail
          rw [← hW]
          clear hW c0 c1 c2 f1 p0 p1 p2 p3 p4 n0 n1 n2 n3 n4
          refine (_root_.Go.Proofs.YtiilpnoaocfjgaaGreatDoor.ps.impl_fits 13 0 p.l ⟨#[]⟩ ⟨#[]⟩ none 0 0 p.d p.i p.g p.s _).mono ?_
          rw [HFT.out]
          rintro e w2 ⟨rfl, b2⟩
          have F2 := Lib.hid (F1.out.quiet b2)
          have N2 := Lib.hid (N1.out.ext (Ext.of (Gr.quiet b2)))
          have P2 := Lib.hid (P1.out.ext (Ext.of (Gr.quiet b2)))
          clear b2
          go_wp2_with fail
          refine (HEL.out _ F2.out.st N2.out).mono ?_
          rintro e w6 ⟨rfl, v6, z6, r6, u6, q6, s6, e6, n6, m6⟩
          obtain ⟨m6, x6, y6⟩ := m6 _ _ rfl
          simp only [atP] at s6
          have F6 := Lib.hid (F2.out.go s6 e6)
          have P6 := Lib.hid (P2.out.ext e6)
          have N6 := Lib.hid n6
          have X6 := Lib.hid x6
          have M6 := Lib.hid m6
          have HZ6 := Lib.hid (eres_len2 HZB.out m6 HOP.out (by have := HZ.out; omega))
          have HQ6 := Lib.hid (show w.heap.size + 1 < q6 from Nat.lt_of_lt_of_le F2.out.rb.bk.lt y6)
          clear s6 e6 n6 m6 x6 y6
          simp only [okP]
          go_wp2_with fail
          refine (HTC.out _ _ _ _ F6.out.st).mono ?_
          rintro e w7 ⟨rfl, s7, g7⟩
          have F7 := Lib.hid (F6.out.take HXB.out s7 g7)
          have P7 := Lib.hid (P6.out.ext (Ext.of (g7.wide (Y := Xq w0.heap.size (w.heap.size + 1 + 1)) (fun k _ h => Or.inl h))))
          have N7 := Lib.hid (N6.out.ext (Ext.of g7))
          have X7 := Lib.hid (X6.out.take g7)
          clear s7 g7
          obtain ⟨uk, uc, hu⟩ := X7.out.form
          rw [G2_len] at hu
          simp only [List.length_singleton] at hu
          subst hu
          obtain ⟨r0, r1⟩ := F7.out.rb.bk.c2
          have g0 := F7.out.rb.bk.f 0
          have g1 := F7.out.rb.bk.f 1
          obtain ⟨n0, n1, n2, n3, n4⟩ := N7.out.bk.c5
          go_wp2
          obtain ⟨t0, t1⟩ := (F7.out.rb.bk.put2 (.int .i64 15) (.bool false)).c2
          exact bodyPost_ret (v := .agg #[.int .i64 15, .bool false]) (by simp [results, Tryz.results182, go_sem, t0, t1]) rfl ((F7.out.ok (zb := zb) (lv := 15) (tg := false) (t := t) _ _ rfl (by rw [M6.out, G_one])).narrow HGW.out)
        · go_enter Tryz.func182, Tryz.ntmps182
          go_wp2_with fail
          rw [← hW]
          clear hW c0 c1 c2 f1 p0 p1 p2 p3 p4 n0 n1 n2 n3 n4
          refine (_root_.Go.Proofs.YtiilpnoaocfjgaaGreatDoor.ps.impl_fits 13 0 p.l ⟨#[]⟩ ⟨#[]⟩ none 0 0 p.d p.i p.g p.s _).mono ?_
          rw [HFT.out]
          rintro e w2 ⟨rfl, b2⟩
          have F2 := Lib.hid (F1.out.quiet b2)
          have N2 := Lib.hid (N1.out.ext (Ext.of (Gr.quiet b2)))
          have P2 := Lib.hid (P1.out.ext (Ext.of (Gr.quiet b2)))
          clear b2
          go_wp2_with fail
          refine (HEL.out _ F2.out.st N2.out).mono ?_
          rintro e w6 ⟨rfl, v6, z6, r6, u6, q6, s6, e6, n6, m6⟩
          obtain ⟨m6, x6, y6⟩ := m6 _ _ rfl
          simp only [atP] at s6
          have F6 := Lib.hid (F2.out.go s6 e6)
          have P6 := Lib.hid (P2.out.ext e6)
          have N6 := Lib.hid n6
          have X6 := Lib.hid x6
          have M6 := Lib.hid m6
          have HZ6 := Lib.hid (eres_len2 HZB.out m6 HOP.out (by have := HZ.out; omega))
          have HQ6 := Lib.hid (show w.heap.size + 1 < q6 from Nat.lt_of_lt_of_le F2.out.rb.bk.lt y6)
          clear s6 e6 n6 m6 x6 y6
          simp only [okP]
          go_wp2_with fail
          refine (HTC.out _ _ _ _ F6.out.st).mono ?_
          rintro e w7 ⟨rfl, s7, g7⟩
          have F7 := Lib.hid (F6.out.take HXB.out s7 g7)
          have P7 := Lib.hid (P6.out.ext (Ext.of (g7.wide (Y := Xq w0.heap.size (w.heap.size + 1 + 1)) (fun k _ h => Or.inl h))))
          have N7 := Lib.hid (N6.out.ext (Ext.of g7))
          have X7 := Lib.hid (X6.out.take g7)
          clear s7 g7
          obtain ⟨uk, uc, hu⟩ := X7.out.form
          rw [G2_len] at hu
          simp only [List.length_singleton] at hu
          subst hu
          obtain ⟨r0, r1⟩ := F7.out.rb.bk.c2
          have g0 := F7.out.rb.bk.f 0
          have g1 := F7.out.rb.bk.f 1
          obtain ⟨n0, n1, n2, n3, n4⟩ := N7.out.bk.c5
          go_wp2
          obtain ⟨t0, t1⟩ := (F7.out.rb.bk.put2 (.int .i64 15) (.bool false)).c2
          exact bodyPost_ret (v := .agg #[.int .i64 15, .bool false]) (by simp [results, Tryz.results182, go_sem, t0, t1]) rfl ((F7.out.ok (zb := zb) (lv := 15) (tg := false) (t := t) _ _ rfl (by rw [M6.out, G_one])).narrow HGW.out)
      · rw [if_neg h5]
        have HIN := Lib.hid (fun v2 z2 r2 W2 u q hz2 s2 hq2 hr2 hm2 => in_any (v := v2) (z := z2) (r := r2) (cap := cap) (i := j + 1) ⟨#[]⟩ zb ps u q p W2 hj1 HL.out hc hz2 s2 hq2 hr2 hm2)
        have h5a : ((ps.length : Int) == 1) = false := by rw [beq_eq_false_iff_ne]; omega
        have h5b : ¬ (ps.length : Int) = 1 := by omega
        have hpb : ps.length ≤ 6 := HPS.out
        obtain ⟨K, hK⟩ : ∃ K, ps.length = K := ⟨_, rfl⟩
        rw [hK] at h5a h5b hpb
        have HK := Lib.hid hK
        clear hc hr hjl h4 h5 hpl hps hj1 hK
        rcases hm16 with rfl | rfl
        · go_enter Tryz.func182, Tryz.ntmps182
          go_wp2_with fail
          rw [← hW]
          clear hW c0 c1 c2 f1 p0 p1 p2 p3 p4 n0 n1 n2 n3 n4
          refine (_root_.Go.Proofs.YtiilpnoaocfjgaaGreatDoor.ps.impl_fits 13 0 p.l ⟨#[]⟩ ⟨#[]⟩ none 0 0 p.d p.i p.g p.s _).mono ?_
          rw [HFT.out]
          rintro e w2 ⟨rfl, b2⟩
          have F2 := Lib.hid (F1.out.quiet b2)
          have N2 := Lib.hid (N1.out.ext (Ext.of (Gr.quiet b2)))
          have P2 := Lib.hid (P1.out.ext (Ext.of (Gr.quiet b2)))
          clear b2
          go_wp2_with fail
          refine (HEL.out _ F2.out.st N2.out).mono ?_
          rintro e w6 ⟨rfl, v6, z6, r6, u6, q6, s6, e6, n6, m6⟩
          obtain ⟨m6, x6, y6⟩ := m6 _ _ rfl
          simp only [atP] at s6
          have F6 := Lib.hid (F2.out.go s6 e6)
          have P6 := Lib.hid (P2.out.ext e6)
          have N6 := Lib.hid n6
          have X6 := Lib.hid x6
          have M6 := Lib.hid m6
          have HZ6 := Lib.hid (eres_len2 HZB.out m6 HOP.out (by have := HZ.out; omega))
          have HQ6 := Lib.hid (show w.heap.size + 1 < q6 from Nat.lt_of_lt_of_le F2.out.rb.bk.lt y6)
          clear s6 e6 n6 m6 x6 y6
          simp only [okP]
          go_wp2_with fail
          refine (HTC.out _ _ _ _ F6.out.st).mono ?_
          rintro e w7 ⟨rfl, s7, g7⟩
          have F7 := Lib.hid (F6.out.take HXB.out s7 g7)
          have P7 := Lib.hid (P6.out.ext (Ext.of (g7.wide (Y := Xq w0.heap.size (w.heap.size + 1 + 1)) (fun k _ h => Or.inl h))))
          have N7 := Lib.hid (N6.out.ext (Ext.of g7))
          have X7 := Lib.hid (X6.out.take g7)
          clear s7 g7
          obtain ⟨uk, uc, hu⟩ := X7.out.form
          rw [G2_len, HK.out] at hu
          subst hu
          obtain ⟨r0, r1⟩ := F7.out.rb.bk.c2
          have g0 := F7.out.rb.bk.f 0
          have g1 := F7.out.rb.bk.f 1
          obtain ⟨n0, n1, n2, n3, n4⟩ := N7.out.bk.c5
          obtain ⟨p0, p1, p2, p3, p4⟩ := P7.out.bk.c5
          have HQW := Lib.hid (show q6 < w7.heap.size by
            rcases X7.out with ⟨hh, -⟩ | hh
            · have := congrArg List.length hh; rw [G2_len, HK.out] at this; have := HOP.out.2.2.2.2; have := HK.out; simp at *; omega
            · exact hh.2.1)
          go_wp2_with fail
          clear n0 n1 n2 n3 n4 p0 p1 p2 p3 p4 r0 r1 g0 g1
          refine (HIN.out _ _ _ w7 _ q6 HZ6.out F7.out.st HQW.out X7.out M6.out).mono ?_
          rintro e w9 h9
          obtain ⟨rfl, hv9⟩ := id h9
          have H9 := Lib.hid h9
          have R9 := Lib.hid (h9.bk F7.out.rb.bk (fun h => by rcases h with h | h; exact F7.out.rb.x (Or.inl h); have := HQ6.out; omega) F7.out.rb.o)
          obtain ⟨r0, r1⟩ := R9.out.c2
          have g0 := R9.out.f 0
          have g1 := R9.out.f 1
          clear h9 hv9
          go_wp2
          obtain ⟨t0, t1⟩ := (R9.out.put2 (.int .i64 (lvR (inn l ps (j + 1)))) (.bool (tgR (inn l ps (j + 1))))).c2
          exact bodyPost_ret (v := .agg #[.int .i64 (lvR (inn l ps (j + 1))), .bool (tgR (inn l ps (j + 1)))]) (by simp [results, Tryz.results182, go_sem, t0, t1]) rfl (resq (by have := HQ6.out; omega) F7.out H9.out HGW.out (by have := HQ6.out; omega) _ _)
        · go_enter Tryz.func182, Tryz.ntmps182
          go_wp2_with fail
          rw [← hW]
          clear hW c0 c1 c2 f1 p0 p1 p2 p3 p4 n0 n1 n2 n3 n4
          refine (_root_.Go.Proofs.YtiilpnoaocfjgaaGreatDoor.ps.impl_fits 13 0 p.l ⟨#[]⟩ ⟨#[]⟩ none 0 0 p.d p.i p.g p.s _).mono ?_
          rw [HFT.out]
          rintro e w2 ⟨rfl, b2⟩
          have F2 := Lib.hid (F1.out.quiet b2)
          have N2 := Lib.hid (N1.out.ext (Ext.of (Gr.quiet b2)))
          have P2 := Lib.hid (P1.out.ext (Ext.of (Gr.quiet b2)))
          clear b2
          go_wp2_with fail
          refine (HEL.out _ F2.out.st N2.out).mono ?_
          rintro e w6 ⟨rfl, v6, z6, r6, u6, q6, s6, e6, n6, m6⟩
          obtain ⟨m6, x6, y6⟩ := m6 _ _ rfl
          simp only [atP] at s6
          have F6 := Lib.hid (F2.out.go s6 e6)
          have P6 := Lib.hid (P2.out.ext e6)
          have N6 := Lib.hid n6
          have X6 := Lib.hid x6
          have M6 := Lib.hid m6
          have HZ6 := Lib.hid (eres_len2 HZB.out m6 HOP.out (by have := HZ.out; omega))
          have HQ6 := Lib.hid (show w.heap.size + 1 < q6 from Nat.lt_of_lt_of_le F2.out.rb.bk.lt y6)
          clear s6 e6 n6 m6 x6 y6
          simp only [okP]
          go_wp2_with fail
          refine (HTC.out _ _ _ _ F6.out.st).mono ?_
          rintro e w7 ⟨rfl, s7, g7⟩
          have F7 := Lib.hid (F6.out.take HXB.out s7 g7)
          have P7 := Lib.hid (P6.out.ext (Ext.of (g7.wide (Y := Xq w0.heap.size (w.heap.size + 1 + 1)) (fun k _ h => Or.inl h))))
          have N7 := Lib.hid (N6.out.ext (Ext.of g7))
          have X7 := Lib.hid (X6.out.take g7)
          clear s7 g7
          obtain ⟨uk, uc, hu⟩ := X7.out.form
          rw [G2_len, HK.out] at hu
          subst hu
          obtain ⟨r0, r1⟩ := F7.out.rb.bk.c2
          have g0 := F7.out.rb.bk.f 0
          have g1 := F7.out.rb.bk.f 1
          obtain ⟨n0, n1, n2, n3, n4⟩ := N7.out.bk.c5
          obtain ⟨p0, p1, p2, p3, p4⟩ := P7.out.bk.c5
          have HQW := Lib.hid (show q6 < w7.heap.size by
            rcases X7.out with ⟨hh, -⟩ | hh
            · have := congrArg List.length hh; rw [G2_len, HK.out] at this; have := HOP.out.2.2.2.2; have := HK.out; simp at *; omega
            · exact hh.2.1)
          go_wp2_with fail
          clear n0 n1 n2 n3 n4 p0 p1 p2 p3 p4 r0 r1 g0 g1
          refine (HIN.out _ _ _ w7 _ q6 HZ6.out F7.out.st HQW.out X7.out M6.out).mono ?_
          rintro e w9 h9
          obtain ⟨rfl, hv9⟩ := id h9
          have H9 := Lib.hid h9
          have R9 := Lib.hid (h9.bk F7.out.rb.bk (fun h => by rcases h with h | h; exact F7.out.rb.x (Or.inl h); have := HQ6.out; omega) F7.out.rb.o)
          obtain ⟨r0, r1⟩ := R9.out.c2
          have g0 := R9.out.f 0
          have g1 := R9.out.f 1
          clear h9 hv9
          go_wp2
          obtain ⟨t0, t1⟩ := (R9.out.put2 (.int .i64 (lvR (inn l ps (j + 1)))) (.bool (tgR (inn l ps (j + 1))))).c2
          exact bodyPost_ret (v := .agg #[.int .i64 (lvR (inn l ps (j + 1))), .bool (tgR (inn l ps (j + 1)))]) (by simp [results, Tryz.results182, go_sem, t0, t1]) rfl (resq (by have := HQ6.out; omega) F7.out H9.out HGW.out (by have := HQ6.out; omega) _ _)
    · rw [if_neg h4]
      rw [decide_eq_false h4, show aft l j 33 = j from if_neg h4] at HTC
      clear hc hr hjl h4 hpl hps
      rcases hm16 with rfl | rfl
      · go_enter Tryz.func182, Tryz.ntmps182
        go_wp2_with fail
        rw [← hW]
        clear hW c0 c1 c2 f1 p0 p1 p2 p3 p4 n0 n1 n2 n3 n4
        refine (_root_.Go.Proofs.YtiilpnoaocfjgaaGreatDoor.ps.impl_fits 13 0 p.l ⟨#[]⟩ ⟨#[]⟩ none 0 0 p.d p.i p.g p.s _).mono ?_
        rw [HFT.out]
        rintro e w2 ⟨rfl, b2⟩
        have F2 := Lib.hid (F1.out.quiet b2)
        have N2 := Lib.hid (N1.out.ext (Ext.of (Gr.quiet b2)))
        have P2 := Lib.hid (P1.out.ext (Ext.of (Gr.quiet b2)))
        clear b2
        go_wp2_with fail
        refine (HEL.out _ F2.out.st N2.out).mono ?_
        rintro e w6 ⟨rfl, v6, z6, r6, u6, q6, s6, e6, n6, m6⟩
        obtain ⟨m6, x6, y6⟩ := m6 _ _ rfl
        simp only [atP] at s6
        have F6 := Lib.hid (F2.out.go s6 e6)
        have P6 := Lib.hid (P2.out.ext e6)
        have N6 := Lib.hid n6
        have X6 := Lib.hid x6
        have M6 := Lib.hid m6
        have HZ6 := Lib.hid (eres_len2 HZB.out m6 HOP.out (by have := HZ.out; omega))
        have HQ6 := Lib.hid (show w.heap.size + 1 < q6 from Nat.lt_of_lt_of_le F2.out.rb.bk.lt y6)
        clear s6 e6 n6 m6 x6 y6
        simp only [okP]
        go_wp2_with fail
        refine (HTC.out _ _ _ _ F6.out.st).mono ?_
        rintro e w7 ⟨rfl, s7, g7⟩
        have F7 := Lib.hid (F6.out.take HXB.out s7 g7)
        have P7 := Lib.hid (P6.out.ext (Ext.of (g7.wide (Y := Xq w0.heap.size (w.heap.size + 1 + 1)) (fun k _ h => Or.inl h))))
        have N7 := Lib.hid (N6.out.ext (Ext.of g7))
        have X7 := Lib.hid (X6.out.take g7)
        clear s7 g7
        obtain ⟨r0, r1⟩ := F7.out.rb.bk.c2
        have g0 := F7.out.rb.bk.f 0
        have g1 := F7.out.rb.bk.f 1
        go_wp2
        obtain ⟨t0, t1⟩ := (F7.out.rb.bk.put2 (.int .i64 0) (.bool false)).c2
        exact bodyPost_ret (v := .agg #[.int .i64 0, .bool false]) (by simp [results, Tryz.results182, go_sem, t0, t1]) rfl ((F7.out.bad _ _ rfl).narrow HGW.out)
      · go_enter Tryz.func182, Tryz.ntmps182
        go_wp2_with fail
        rw [← hW]
        clear hW c0 c1 c2 f1 p0 p1 p2 p3 p4 n0 n1 n2 n3 n4
        refine (_root_.Go.Proofs.YtiilpnoaocfjgaaGreatDoor.ps.impl_fits 13 0 p.l ⟨#[]⟩ ⟨#[]⟩ none 0 0 p.d p.i p.g p.s _).mono ?_
        rw [HFT.out]
        rintro e w2 ⟨rfl, b2⟩
        have F2 := Lib.hid (F1.out.quiet b2)
        have N2 := Lib.hid (N1.out.ext (Ext.of (Gr.quiet b2)))
        have P2 := Lib.hid (P1.out.ext (Ext.of (Gr.quiet b2)))
        clear b2
        go_wp2_with fail
        refine (HEL.out _ F2.out.st N2.out).mono ?_
        rintro e w6 ⟨rfl, v6, z6, r6, u6, q6, s6, e6, n6, m6⟩
        obtain ⟨m6, x6, y6⟩ := m6 _ _ rfl
        simp only [atP] at s6
        have F6 := Lib.hid (F2.out.go s6 e6)
        have P6 := Lib.hid (P2.out.ext e6)
        have N6 := Lib.hid n6
        have X6 := Lib.hid x6
        have M6 := Lib.hid m6
        have HZ6 := Lib.hid (eres_len2 HZB.out m6 HOP.out (by have := HZ.out; omega))
        have HQ6 := Lib.hid (show w.heap.size + 1 < q6 from Nat.lt_of_lt_of_le F2.out.rb.bk.lt y6)
        clear s6 e6 n6 m6 x6 y6
        simp only [okP]
        go_wp2_with fail
        refine (HTC.out _ _ _ _ F6.out.st).mono ?_
        rintro e w7 ⟨rfl, s7, g7⟩
        have F7 := Lib.hid (F6.out.take HXB.out s7 g7)
        have P7 := Lib.hid (P6.out.ext (Ext.of (g7.wide (Y := Xq w0.heap.size (w.heap.size + 1 + 1)) (fun k _ h => Or.inl h))))
        have N7 := Lib.hid (N6.out.ext (Ext.of g7))
        have X7 := Lib.hid (X6.out.take g7)
        clear s7 g7
        obtain ⟨r0, r1⟩ := F7.out.rb.bk.c2
        have g0 := F7.out.rb.bk.f 0
        have g1 := F7.out.rb.bk.f 1
        go_wp2
        obtain ⟨t0, t1⟩ := (F7.out.rb.bk.put2 (.int .i64 0) (.bool false)).c2
        exact bodyPost_ret (v := .agg #[.int .i64 0, .bool false]) (by simp [results, Tryz.results182, go_sem, t0, t1]) rfl ((F7.out.bad _ _ rfl).narrow HGW.out)
end
end Go.Proofs.YtiilpnoaocfjgaaGreatDoor.pr

namespace Go.Proofs.YtiilpnoaocfjgaaGreatDoor.pr
open Go.ChangeShapes Go.WideShapes Go.ChangeAt Go.RowKit
open tk (Tk)
open nd (Nd PT KidV IBlk OwnI shN makeT)
open ps (Ps B5 posOk kidI top)
open pe
set_option linter.unusedVariables false
set_option linter.unusedSimpArgs false
set_option maxRecDepth 20000

section
variable {w0 : World} {l : List Tk} {a : Option Addr} {cap i : Nat} {v : Value} {z : List (Nd × Value)} {r : Nat → Nat} {E : Ps → Nat → R} {M i0 : Nat}

set_option maxHeartbeats 3200000 in
theorem call_any (hE : CallE w0 a cap l E i0) (hOk : ∀ p i, i ≤ l.length → Ok M l i (E p i)) (k : Int) (s0 : ByteArray) (zb : List Nd) (p : Ps) (w : World) (h0 : i0 ≤ i + 1) (hi : i < l.length) (hl : l.length ≤ 50000) (hc : tk.Lies w0.heap.size w0 a l) (hz : z.length + 2 * (l.length - i) ≤ 200000) (hst : St w0 a l.length cap i v z r w) (hzb : z.map (·.1) = zb) :
    Calls Tryz.prog 264 #[.pointer (some ⟨w0.heap.size, 0, none⟩), .agg #[.int .i64 k, .int .i64 0, .string s0, .string ⟨#[]⟩, .slice none 0 0], .agg #[.int .i64 p.l, .bool p.d, .bool p.i, .bool p.g, .bool p.s]] w (Res w0 a l.length cap zb (X0 w0.heap.size) v z r w (listed E l k 32 33 i)) := by
  have hq : w0.heap.size < w.heap.size := hst.lt
  have hrw : Rw w0.heap.size w0.heap.size (.slice none 0 0) (G2 zb.length []) v z r w := .inl ⟨rfl, rfl⟩
  have hXX : ∀ (e : Ending) (w' : World), Res w0 a l.length cap zb (Xq w0.heap.size w0.heap.size) v z r w (listed E l k 32 33 i) e w' → Res w0 a l.length cap zb (X0 w0.heap.size) v z r w (listed E l k 32 33 i) e w' := fun e w' h => h.wide fun k _ h => by rcases h with h | h <;> exact h
  have HXX := Lib.hid hXX
  obtain ⟨W, hW⟩ : ∃ W, W = ((w.alloc (.cells #[.int .i64 k, .int .i64 0, .string s0, .string ⟨#[]⟩, .slice none 0 0] 60)).alloc (.cells #[.int .i64 p.l, .bool p.d, .bool p.i, .bool p.g, .bool p.s] 26)).alloc (.cells #[.int .i64 0, .bool false] 87) := ⟨_, rfl⟩
  have hB : Below w.heap.size w W := by rw [hW]; exact (((Below.refl _ _).alloc (Nat.le_refl _) _).alloc (by simp) _).alloc (by simp; omega) _
  have hN : Bk w.heap.size #[.int .i64 k, .int .i64 0, .string s0, .string ⟨#[]⟩, .slice none 0 0] 60 W := by rw [hW]; exact ((Bk.new _ _ _).alloc _).alloc _
  have hP : Bk (w.heap.size + 1) #[.int .i64 p.l, .bool p.d, .bool p.i, .bool p.g, .bool p.s] 26 W := by
    rw [hW]
    have := (Bk.new (w.alloc (.cells #[.int .i64 k, .int .i64 0, .string s0, .string ⟨#[]⟩, .slice none 0 0] 60)) #[.int .i64 p.l, .bool p.d, .bool p.i, .bool p.g, .bool p.s] 26).alloc (.cells #[.int .i64 0, .bool false] 87)
    simpa using this
  have hR : Bk (w.heap.size + 1 + 1) #[.int .i64 0, .bool false] 87 W := by
    rw [hW]
    have := Bk.new ((w.alloc (.cells #[.int .i64 k, .int .i64 0, .string s0, .string ⟨#[]⟩, .slice none 0 0] 60)).alloc (.cells #[.int .i64 p.l, .bool p.d, .bool p.i, .bool p.g, .bool p.s] 26)) #[.int .i64 0, .bool false] 87
    simpa using this
  have F0 := Lib.hid (Fx.start hst (xq_lt hst.lt hq) hN hP hR hB)
  have X0' := Lib.hid (hrw.quiet hB)
  have HQ := Lib.hid hq
  have HLT := Lib.hid hst.lt
  have HB0 := Lib.hid hB
  have HZB := Lib.hid hzb
  have HC := Lib.hid hc
  have HL := Lib.hid hl
  have HI := Lib.hid hi
  have HZ := Lib.hid hz
  have hXb : Xq w0.heap.size w0.heap.size w0.heap.size := Or.inl rfl
  have HXB := Lib.hid hXb
  have hib : i ≤ 50000 := by omega
  obtain ⟨c0, c1, c2⟩ := F0.out.st.c
  have f1 := F0.out.st.f 1
  obtain ⟨n0, n1, n2, n3, n4⟩ := F0.out.nb.bk.c5
  obtain ⟨p0, p1, p2, p3, p4⟩ := F0.out.pb.bk.c5
  obtain ⟨r0, r1⟩ := F0.out.rb.bk.c2
  have g0 := F0.out.rb.bk.f 0
  have g1 := F0.out.rb.bk.f 1
  have HLI := Lib.hid (fun W2 s2 => listed_any (v := v) (z := z) (r := r) (cap := cap) (i := i) hE hOk k 32 33 s0 zb W2 h0 (by decide) (by decide) hi hl hc hz s2 hzb)
  clear hst hB hrw hzb hz hi hl hc hq hN hP hR hXb hE hOk h0 hXX
  rw [hW] at c0 c1 c2 f1 n0 n1 n2 n3 n4 p0 p1 p2 p3 p4 r0 r1 g0 g1
  go_enter Tryz.func264, Tryz.ntmps264
  go_wp2_with fail
  rw [← hW]
  clear c0 c1 c2 f1 n0 n1 n2 n3 n4 p0 p1 p2 p3 p4 r0 r1 g0 g1 hW
  refine ((HLI.out _ F0.out.st).mono fun e w' h => h.wide (Y := Xq w0.heap.size w0.heap.size) (fun k _ h => Or.inl h)).mono ?_
  rintro e w9 h9
  obtain ⟨rfl, hv9⟩ := id h9
  have H9 := Lib.hid h9
  have R9 := Lib.hid (F0.out.rbk h9)
  obtain ⟨r0, r1⟩ := R9.out.c2
  have g0 := R9.out.f 0
  have g1 := R9.out.f 1
  clear h9 hv9
  go_wp2
  obtain ⟨t0, t1⟩ := (R9.out.put2 (.int .i64 (lvR (listed E l k 32 33 i))) (.bool (tgR (listed E l k 32 33 i)))).c2
  exact bodyPost_ret (v := .agg #[.int .i64 (lvR (listed E l k 32 33 i)), .bool (tgR (listed E l k 32 33 i))]) (by simp [results, Tryz.results264, go_sem, t0, t1]) rfl (HXX.out _ _ (F0.out.res H9.out _ _))

set_option maxHeartbeats 3200000 in
theorem name_any (hE : CallE w0 a cap l E i0) (hOk : ∀ p i, i ≤ l.length → Ok M l i (E p i)) (s0 : ByteArray) (zb : List Nd) (p : Ps) (w : World) (h0 : i0 ≤ i + 1) (hi : i < l.length) (hl : l.length ≤ 50000) (hc : tk.Lies w0.heap.size w0 a l) (hz : z.length + 2 * (l.length - i) ≤ 200000) (hst : St w0 a l.length cap i v z r w) (hzb : z.map (·.1) = zb) :
    Calls Tryz.prog 263 #[.pointer (some ⟨w0.heap.size, 0, none⟩), .agg #[.int .i64 1, .int .i64 0, .string s0, .string ⟨#[]⟩, .slice none 0 0], .agg #[.int .i64 p.l, .bool p.d, .bool p.i, .bool p.g, .bool p.s]] w (Res w0 a l.length cap zb (X0 w0.heap.size) v z r w (if kd l (i + 1) = 34 then listed E l 5 34 35 i else pe.word l 1 i)) := by
  have hq : w0.heap.size < w.heap.size := hst.lt
  have hrw : Rw w0.heap.size w0.heap.size (.slice none 0 0) (G2 zb.length []) v z r w := .inl ⟨rfl, rfl⟩
  have hXX : ∀ (e : Ending) (w' : World), Res w0 a l.length cap zb (Xq w0.heap.size w0.heap.size) v z r w (if kd l (i + 1) = 34 then listed E l 5 34 35 i else pe.word l 1 i) e w' → Res w0 a l.length cap zb (X0 w0.heap.size) v z r w (if kd l (i + 1) = 34 then listed E l 5 34 35 i else pe.word l 1 i) e w' := fun e w' h => h.wide fun k _ h => by rcases h with h | h <;> exact h
  have HXX := Lib.hid hXX
  obtain ⟨W, hW⟩ : ∃ W, W = ((w.alloc (.cells #[.int .i64 1, .int .i64 0, .string s0, .string ⟨#[]⟩, .slice none 0 0] 60)).alloc (.cells #[.int .i64 p.l, .bool p.d, .bool p.i, .bool p.g, .bool p.s] 26)).alloc (.cells #[.int .i64 0, .bool false] 87) := ⟨_, rfl⟩
  have hB : Below w.heap.size w W := by rw [hW]; exact (((Below.refl _ _).alloc (Nat.le_refl _) _).alloc (by simp) _).alloc (by simp; omega) _
  have hN : Bk w.heap.size #[.int .i64 1, .int .i64 0, .string s0, .string ⟨#[]⟩, .slice none 0 0] 60 W := by rw [hW]; exact ((Bk.new _ _ _).alloc _).alloc _
  have hP : Bk (w.heap.size + 1) #[.int .i64 p.l, .bool p.d, .bool p.i, .bool p.g, .bool p.s] 26 W := by
    rw [hW]
    have := (Bk.new (w.alloc (.cells #[.int .i64 1, .int .i64 0, .string s0, .string ⟨#[]⟩, .slice none 0 0] 60)) #[.int .i64 p.l, .bool p.d, .bool p.i, .bool p.g, .bool p.s] 26).alloc (.cells #[.int .i64 0, .bool false] 87)
    simpa using this
  have hR : Bk (w.heap.size + 1 + 1) #[.int .i64 0, .bool false] 87 W := by
    rw [hW]
    have := Bk.new ((w.alloc (.cells #[.int .i64 1, .int .i64 0, .string s0, .string ⟨#[]⟩, .slice none 0 0] 60)).alloc (.cells #[.int .i64 p.l, .bool p.d, .bool p.i, .bool p.g, .bool p.s] 26)) #[.int .i64 0, .bool false] 87
    simpa using this
  have F0 := Lib.hid (Fx.start hst (xq_lt hst.lt hq) hN hP hR hB)
  have X0' := Lib.hid (hrw.quiet hB)
  have HQ := Lib.hid hq
  have HLT := Lib.hid hst.lt
  have HB0 := Lib.hid hB
  have HZB := Lib.hid hzb
  have HC := Lib.hid hc
  have HL := Lib.hid hl
  have HI := Lib.hid hi
  have HZ := Lib.hid hz
  have hXb : Xq w0.heap.size w0.heap.size w0.heap.size := Or.inl rfl
  have HXB := Lib.hid hXb
  have hib : i ≤ 50000 := by omega
  obtain ⟨c0, c1, c2⟩ := F0.out.st.c
  have f1 := F0.out.st.f 1
  obtain ⟨n0, n1, n2, n3, n4⟩ := F0.out.nb.bk.c5
  obtain ⟨p0, p1, p2, p3, p4⟩ := F0.out.pb.bk.c5
  obtain ⟨r0, r1⟩ := F0.out.rb.bk.c2
  have g0 := F0.out.rb.bk.f 0
  have g1 := F0.out.rb.bk.f 1
  have HFO := Lib.hid (follower_any W F0.out.st hc (by omega) (Nat.le_of_lt hi))
  by_cases h1 : kd l (i + 1) = 34
  · rw [if_pos h1] at HXX ⊢
    rw [h1] at HFO
    have HLI := Lib.hid (fun W2 s2 => listed_any (v := v) (z := z) (r := r) (cap := cap) (i := i) hE hOk 5 34 35 ⟨#[]⟩ zb W2 h0 (by decide) (by decide) hi hl hc hz s2 hzb)
    clear h1
    clear hst hB hrw hzb hz hi hl hc hq hN hP hR hXb hE hOk h0 hXX
    rw [hW] at c0 c1 c2 f1 n0 n1 n2 n3 n4 p0 p1 p2 p3 p4 r0 r1 g0 g1
    go_enter Tryz.func263, Tryz.ntmps263
    go_wp2_with fail
    rw [← hW]
    clear c0 c1 c2 f1 n0 n1 n2 n3 n4 p0 p1 p2 p3 p4 r0 r1 g0 g1 hW
    refine HFO.out.mono ?_
    rintro e w1 ⟨rfl, b1⟩
    have F1 := Lib.hid (F0.out.quiet b1)
    clear b1
    obtain ⟨c0, c1, c2⟩ := F1.out.st.c
    have f1 := F1.out.st.f 1
    obtain ⟨n0, n1, n2, n3, n4⟩ := F1.out.nb.bk.c5
    obtain ⟨p0, p1, p2, p3, p4⟩ := F1.out.pb.bk.c5
    obtain ⟨r0, r1⟩ := F1.out.rb.bk.c2
    have g0 := F1.out.rb.bk.f 0
    have g1 := F1.out.rb.bk.f 1
    go_wp2_with fail
    clear c0 c1 c2 f1 n0 n1 n2 n3 n4 p0 p1 p2 p3 p4 r0 r1 g0 g1
    refine ((HLI.out _ F1.out.st).mono fun e w' h => h.wide (Y := Xq w0.heap.size w0.heap.size) (fun k _ h => Or.inl h)).mono ?_
    rintro e w9 h9
    obtain ⟨rfl, hv9⟩ := id h9
    have H9 := Lib.hid h9
    have R9 := Lib.hid (F1.out.rbk h9)
    obtain ⟨r0, r1⟩ := R9.out.c2
    have g0 := R9.out.f 0
    have g1 := R9.out.f 1
    clear h9 hv9
    go_wp2
    obtain ⟨t0, t1⟩ := (R9.out.put2 (.int .i64 (lvR (listed E l 5 34 35 i))) (.bool (tgR (listed E l 5 34 35 i)))).c2
    exact bodyPost_ret (v := .agg #[.int .i64 (lvR (listed E l 5 34 35 i)), .bool (tgR (listed E l 5 34 35 i))]) (by simp [results, Tryz.results263, go_sem, t0, t1]) rfl (HXX.out _ _ (F1.out.res H9.out _ _))
  · rw [if_neg h1] at HXX ⊢
    obtain ⟨c, hcc⟩ : ∃ c, kd l (i + 1) = c := ⟨_, rfl⟩
    rw [hcc] at HFO h1
    obtain ⟨q1, q2⟩ := ne_facts h1
    have hzb0 : z.map (·.1) = zb ++ G1 zb.length [] := by rw [hzb, G1_nil, List.append_nil]
    have HW := Lib.hid (fun W2 s2 hq2 => word_any (v := v) (z := z) (r := r) (cap := cap) (i := i) 1 0 s0 zb [] (.slice none 0 0) w0.heap.size p W2 hi hl hc (by omega) s2 hq2 (.inl ⟨rfl, rfl⟩) hzb0)
    clear h1 hcc hzb0
    clear hst hB hrw hzb hz hi hl hc hq hN hP hR hXb hE hOk h0 hXX
    rw [hW] at c0 c1 c2 f1 n0 n1 n2 n3 n4 p0 p1 p2 p3 p4 r0 r1 g0 g1
    go_enter Tryz.func263, Tryz.ntmps263
    go_wp2_with fail
    rw [← hW]
    clear c0 c1 c2 f1 n0 n1 n2 n3 n4 p0 p1 p2 p3 p4 r0 r1 g0 g1 hW
    refine HFO.out.mono ?_
    rintro e w1 ⟨rfl, b1⟩
    have F1 := Lib.hid (F0.out.quiet b1)
    clear b1
    obtain ⟨c0, c1, c2⟩ := F1.out.st.c
    have f1 := F1.out.st.f 1
    obtain ⟨n0, n1, n2, n3, n4⟩ := F1.out.nb.bk.c5
    obtain ⟨p0, p1, p2, p3, p4⟩ := F1.out.pb.bk.c5
    obtain ⟨r0, r1⟩ := F1.out.rb.bk.c2
    have g0 := F1.out.rb.bk.f 0
    have g1 := F1.out.rb.bk.f 1
    go_wp2_with fail
    clear c0 c1 c2 f1 n0 n1 n2 n3 n4 p0 p1 p2 p3 p4 r0 r1 g0 g1
    refine (show Calls _ _ _ _ (Res w0 a l.length cap zb (Xq w0.heap.size w0.heap.size) v z r w1 (pe.word l 1 i)) from HW.out _ F1.out.st F1.out.st.lt).mono ?_
    rintro e w9 h9
    obtain ⟨rfl, hv9⟩ := id h9
    have H9 := Lib.hid h9
    have R9 := Lib.hid (F1.out.rbk h9)
    obtain ⟨r0, r1⟩ := R9.out.c2
    have g0 := R9.out.f 0
    have g1 := R9.out.f 1
    clear h9 hv9
    go_wp2
    obtain ⟨t0, t1⟩ := (R9.out.put2 (.int .i64 (lvR (pe.word l 1 i))) (.bool (tgR (pe.word l 1 i)))).c2
    exact bodyPost_ret (v := .agg #[.int .i64 (lvR (pe.word l 1 i)), .bool (tgR (pe.word l 1 i))]) (by simp [results, Tryz.results263, go_sem, t0, t1]) rfl (HXX.out _ _ (F1.out.res H9.out _ _))

set_option maxHeartbeats 3200000 in
theorem builtin_any (hE : CallE w0 a cap l E i0) (hOk : ∀ p i, i ≤ l.length → Ok M l i (E p i)) (s0 : ByteArray) (zb : List Nd) (p : Ps) (w : World) (h0 : i0 ≤ i + 1) (hi : i < l.length) (hl : l.length ≤ 50000) (hc : tk.Lies w0.heap.size w0 a l) (hz : z.length + 2 * (l.length - i) ≤ 200000) (hst : St w0 a l.length cap i v z r w) (hzb : z.map (·.1) = zb) :
    Calls Tryz.prog 265 #[.pointer (some ⟨w0.heap.size, 0, none⟩), .agg #[.int .i64 8, .int .i64 0, .string s0, .string ⟨#[]⟩, .slice none 0 0], .agg #[.int .i64 p.l, .bool p.d, .bool p.i, .bool p.g, .bool p.s]] w (Res w0 a l.length cap zb (X0 w0.heap.size) v z r w (if isLen (tx l i) = true ∧ ¬ kd l (i + 1) = 32 then pe.word l 8 i else listed E l 8 32 33 i)) := by
  have hq : w0.heap.size < w.heap.size := hst.lt
  have hrw : Rw w0.heap.size w0.heap.size (.slice none 0 0) (G2 zb.length []) v z r w := .inl ⟨rfl, rfl⟩
  have hXX : ∀ (e : Ending) (w' : World), Res w0 a l.length cap zb (Xq w0.heap.size w0.heap.size) v z r w (if isLen (tx l i) = true ∧ ¬ kd l (i + 1) = 32 then pe.word l 8 i else listed E l 8 32 33 i) e w' → Res w0 a l.length cap zb (X0 w0.heap.size) v z r w (if isLen (tx l i) = true ∧ ¬ kd l (i + 1) = 32 then pe.word l 8 i else listed E l 8 32 33 i) e w' := fun e w' h => h.wide fun k _ h => by rcases h with h | h <;> exact h
  have HXX := Lib.hid hXX
  obtain ⟨W, hW⟩ : ∃ W, W = ((w.alloc (.cells #[.int .i64 8, .int .i64 0, .string s0, .string ⟨#[]⟩, .slice none 0 0] 60)).alloc (.cells #[.int .i64 p.l, .bool p.d, .bool p.i, .bool p.g, .bool p.s] 26)).alloc (.cells #[.int .i64 0, .bool false] 87) := ⟨_, rfl⟩
  have hB : Below w.heap.size w W := by rw [hW]; exact (((Below.refl _ _).alloc (Nat.le_refl _) _).alloc (by simp) _).alloc (by simp; omega) _
  have hN : Bk w.heap.size #[.int .i64 8, .int .i64 0, .string s0, .string ⟨#[]⟩, .slice none 0 0] 60 W := by rw [hW]; exact ((Bk.new _ _ _).alloc _).alloc _
  have hP : Bk (w.heap.size + 1) #[.int .i64 p.l, .bool p.d, .bool p.i, .bool p.g, .bool p.s] 26 W := by
    rw [hW]
    have := (Bk.new (w.alloc (.cells #[.int .i64 8, .int .i64 0, .string s0, .string ⟨#[]⟩, .slice none 0 0] 60)) #[.int .i64 p.l, .bool p.d, .bool p.i, .bool p.g, .bool p.s] 26).alloc (.cells #[.int .i64 0, .bool false] 87)
    simpa using this
  have hR : Bk (w.heap.size + 1 + 1) #[.int .i64 0, .bool false] 87 W := by
    rw [hW]
    have := Bk.new ((w.alloc (.cells #[.int .i64 8, .int .i64 0, .string s0, .string ⟨#[]⟩, .slice none 0 0] 60)).alloc (.cells #[.int .i64 p.l, .bool p.d, .bool p.i, .bool p.g, .bool p.s] 26)) #[.int .i64 0, .bool false] 87
    simpa using this
  have F0 := Lib.hid (Fx.start hst (xq_lt hst.lt hq) hN hP hR hB)
  have X0' := Lib.hid (hrw.quiet hB)
  have HQ := Lib.hid hq
  have HLT := Lib.hid hst.lt
  have HB0 := Lib.hid hB
  have HZB := Lib.hid hzb
  have HC := Lib.hid hc
  have HL := Lib.hid hl
  have HI := Lib.hid hi
  have HZ := Lib.hid hz
  have hXb : Xq w0.heap.size w0.heap.size w0.heap.size := Or.inl rfl
  have HXB := Lib.hid hXb
  have hib : i ≤ 50000 := by omega
  obtain ⟨c0, c1, c2⟩ := F0.out.st.c
  have f1 := F0.out.st.f 1
  obtain ⟨n0, n1, n2, n3, n4⟩ := F0.out.nb.bk.c5
  obtain ⟨p0, p1, p2, p3, p4⟩ := F0.out.pb.bk.c5
  obtain ⟨r0, r1⟩ := F0.out.rb.bk.c2
  have g0 := F0.out.rb.bk.f 0
  have g1 := F0.out.rb.bk.f 1
  have HFO := Lib.hid (fun W2 (s2 : St w0 a l.length cap i v z r W2) => follower_any W2 s2 hc (by omega) (Nat.le_of_lt hi))
  have HNX := Lib.hid (next_any W F0.out.st hc (by omega) (Nat.le_of_lt hi))
  have hzb0 : z.map (·.1) = zb ++ G1 zb.length [] := by rw [hzb, G1_nil, List.append_nil]
  have HW := Lib.hid (fun W2 s2 hq2 => word_any (v := v) (z := z) (r := r) (cap := cap) (i := i) 8 0 s0 zb [] (.slice none 0 0) w0.heap.size p W2 hi hl hc (by omega) s2 hq2 (.inl ⟨rfl, rfl⟩) hzb0)
  have HCA := Lib.hid (fun W2 s2 => call_any (v := v) (z := z) (r := r) (cap := cap) (i := i) hE hOk 8 s0 zb p W2 h0 hi hl hc hz s2 hzb)
  have hfs := fld_s
  obtain ⟨x, hx⟩ : ∃ x, tx l i = x := ⟨_, rfl⟩
  rw [hx] at HNX HXX ⊢
  obtain ⟨c, hcc⟩ : ∃ c, kd l (i + 1) = c := ⟨_, rfl⟩
  rw [hcc] at HFO HXX ⊢
  clear hzb0 hx hcc
  cases hlen : isLen x with
  | false =>
    rw [hlen] at HXX
    rw [if_neg (by simp)] at HXX ⊢
    have hl1 : (x.toList == [108, 101, 110, 103, 116, 104]) = false := hlen
    have hl2 : ¬ x.toList = [108, 101, 110, 103, 116, 104] := by simpa using hl1
    clear hlen
    clear hst hB hrw hzb hz hi hl hc hq hN hP hR hXb hE hOk h0 hXX
    rw [hW] at c0 c1 c2 f1 n0 n1 n2 n3 n4 p0 p1 p2 p3 p4 r0 r1 g0 g1
    go_enter Tryz.func265, Tryz.ntmps265
    go_wp2_with fail
    rw [← hW]
    clear c0 c1 c2 f1 n0 n1 n2 n3 n4 p0 p1 p2 p3 p4 r0 r1 g0 g1 hW
    refine HNX.out.mono ?_
    rintro e w1 ⟨rfl, b1⟩
    have F1 := Lib.hid (F0.out.quiet b1)
    clear b1
    obtain ⟨c0, c1, c2⟩ := F1.out.st.c
    have f1 := F1.out.st.f 1
    obtain ⟨n0, n1, n2, n3, n4⟩ := F1.out.nb.bk.c5
    obtain ⟨p0, p1, p2, p3, p4⟩ := F1.out.pb.bk.c5
    obtain ⟨r0, r1⟩ := F1.out.rb.bk.c2
    have g0 := F1.out.rb.bk.f 0
    have g1 := F1.out.rb.bk.f 1
    go_wp2_with fail
    clear c0 c1 c2 f1 n0 n1 n2 n3 n4 p0 p1 p2 p3 p4 r0 r1 g0 g1
    refine ((HCA.out _ F1.out.st).mono fun e w' h => h.wide (Y := Xq w0.heap.size w0.heap.size) (fun k _ h => Or.inl h)).mono ?_
    rintro e w9 h9
    obtain ⟨rfl, hv9⟩ := id h9
    have H9 := Lib.hid h9
    have R9 := Lib.hid (F1.out.rbk h9)
    obtain ⟨r0, r1⟩ := R9.out.c2
    have g0 := R9.out.f 0
    have g1 := R9.out.f 1
    clear h9 hv9
    go_wp2
    obtain ⟨t0, t1⟩ := (R9.out.put2 (.int .i64 (lvR (listed E l 8 32 33 i))) (.bool (tgR (listed E l 8 32 33 i)))).c2
    exact bodyPost_ret (v := .agg #[.int .i64 (lvR (listed E l 8 32 33 i)), .bool (tgR (listed E l 8 32 33 i))]) (by simp [results, Tryz.results265, go_sem, t0, t1]) rfl (HXX.out _ _ (F1.out.res H9.out _ _))
  | true =>
    rw [hlen] at HXX
    have hl1 : (x.toList == [108, 101, 110, 103, 116, 104]) = true := hlen
    have hl2 : x.toList = [108, 101, 110, 103, 116, 104] := by simpa using hl1
    clear hlen
    by_cases h32 : c = 32
    · rw [if_neg (by simp [h32])] at HXX ⊢
      obtain ⟨q1, q2⟩ := eq_facts h32
      clear h32
      clear hst hB hrw hzb hz hi hl hc hq hN hP hR hXb hE hOk h0 hXX
      rw [hW] at c0 c1 c2 f1 n0 n1 n2 n3 n4 p0 p1 p2 p3 p4 r0 r1 g0 g1
      go_enter Tryz.func265, Tryz.ntmps265
      go_wp2_with fail
      rw [← hW]
      clear c0 c1 c2 f1 n0 n1 n2 n3 n4 p0 p1 p2 p3 p4 r0 r1 g0 g1 hW
      refine HNX.out.mono ?_
      rintro e w1 ⟨rfl, b1⟩
      have F1 := Lib.hid (F0.out.quiet b1)
      clear b1
      go_wp2_with fail
      refine (HFO.out _ F1.out.st).mono ?_
      rintro e w2 ⟨rfl, b2⟩
      have F2 := Lib.hid (F1.out.quiet b2)
      clear b2
      obtain ⟨c0, c1, c2⟩ := F2.out.st.c
      have f1 := F2.out.st.f 1
      obtain ⟨n0, n1, n2, n3, n4⟩ := F2.out.nb.bk.c5
      obtain ⟨p0, p1, p2, p3, p4⟩ := F2.out.pb.bk.c5
      obtain ⟨r0, r1⟩ := F2.out.rb.bk.c2
      have g0 := F2.out.rb.bk.f 0
      have g1 := F2.out.rb.bk.f 1
      go_wp2_with fail
      clear c0 c1 c2 f1 n0 n1 n2 n3 n4 p0 p1 p2 p3 p4 r0 r1 g0 g1
      refine ((HCA.out _ F2.out.st).mono fun e w' h => h.wide (Y := Xq w0.heap.size w0.heap.size) (fun k _ h => Or.inl h)).mono ?_
      rintro e w9 h9
      obtain ⟨rfl, hv9⟩ := id h9
      have H9 := Lib.hid h9
      have R9 := Lib.hid (F2.out.rbk h9)
      obtain ⟨r0, r1⟩ := R9.out.c2
      have g0 := R9.out.f 0
      have g1 := R9.out.f 1
      clear h9 hv9
      go_wp2
      obtain ⟨t0, t1⟩ := (R9.out.put2 (.int .i64 (lvR (listed E l 8 32 33 i))) (.bool (tgR (listed E l 8 32 33 i)))).c2
      exact bodyPost_ret (v := .agg #[.int .i64 (lvR (listed E l 8 32 33 i)), .bool (tgR (listed E l 8 32 33 i))]) (by simp [results, Tryz.results265, go_sem, t0, t1]) rfl (HXX.out _ _ (F2.out.res H9.out _ _))
    · rw [if_pos ⟨rfl, h32⟩] at HXX ⊢
      obtain ⟨q1, q2⟩ := ne_facts h32
      clear h32
      clear hst hB hrw hzb hz hi hl hc hq hN hP hR hXb hE hOk h0 hXX
      rw [hW] at c0 c1 c2 f1 n0 n1 n2 n3 n4 p0 p1 p2 p3 p4 r0 r1 g0 g1
      go_enter Tryz.func265, Tryz.ntmps265
      go_wp2_with fail
      rw [← hW]
      clear c0 c1 c2 f1 n0 n1 n2 n3 n4 p0 p1 p2 p3 p4 r0 r1 g0 g1 hW
      refine HNX.out.mono ?_
      rintro e w1 ⟨rfl, b1⟩
      have F1 := Lib.hid (F0.out.quiet b1)
      clear b1
      go_wp2_with fail
      refine (HFO.out _ F1.out.st).mono ?_
      rintro e w2 ⟨rfl, b2⟩
      have F2 := Lib.hid (F1.out.quiet b2)
      clear b2
      obtain ⟨c0, c1, c2⟩ := F2.out.st.c
      have f1 := F2.out.st.f 1
      obtain ⟨n0, n1, n2, n3, n4⟩ := F2.out.nb.bk.c5
      obtain ⟨p0, p1, p2, p3, p4⟩ := F2.out.pb.bk.c5
      obtain ⟨r0, r1⟩ := F2.out.rb.bk.c2
      have g0 := F2.out.rb.bk.f 0
      have g1 := F2.out.rb.bk.f 1
      go_wp2_with fail
      clear c0 c1 c2 f1 n0 n1 n2 n3 n4 p0 p1 p2 p3 p4 r0 r1 g0 g1
      refine (show Calls _ _ _ _ (Res w0 a l.length cap zb (Xq w0.heap.size w0.heap.size) v z r w2 (pe.word l 8 i)) from HW.out _ F2.out.st F2.out.st.lt).mono ?_
      rintro e w9 h9
      obtain ⟨rfl, hv9⟩ := id h9
      have H9 := Lib.hid h9
      have R9 := Lib.hid (F2.out.rbk h9)
      obtain ⟨r0, r1⟩ := R9.out.c2
      have g0 := R9.out.f 0
      have g1 := R9.out.f 1
      clear h9 hv9
      go_wp2
      obtain ⟨t0, t1⟩ := (R9.out.put2 (.int .i64 (lvR (pe.word l 8 i))) (.bool (tgR (pe.word l 8 i)))).c2
      exact bodyPost_ret (v := .agg #[.int .i64 (lvR (pe.word l 8 i)), .bool (tgR (pe.word l 8 i))]) (by simp [results, Tryz.results265, go_sem, t0, t1]) rfl (HXX.out _ _ (F2.out.res H9.out _ _))
end
end Go.Proofs.YtiilpnoaocfjgaaGreatDoor.pr

namespace Go.Proofs.YtiilpnoaocfjgaaGreatDoor.pr
open Go.ChangeShapes Go.WideShapes Go.ChangeAt Go.RowKit
open tk (Tk)
open nd (Nd PT KidV IBlk OwnI shN makeT)
open ps (Ps B5 posOk kidI top)
open pe
set_option linter.unusedVariables false
set_option linter.unusedSimpArgs false
set_option maxRecDepth 20000

theorem impl_isAsg (c : Int) (w : World) : Calls Tryz.prog 93 #[.int .i64 c] w fun e w' => e = .returned (.bool (isAsg c)) ∧ w = w' := by
  go_enter Tryz.func93, Tryz.ntmps93
  by_cases h1 : c = 54
  · subst h1
    go_wp2
    go_ret
    exact ⟨rfl, rfl⟩
  · obtain ⟨q1, q2⟩ := ne_facts h1
    have HE := Lib.hid (show isAsg c = (decide (38 ≤ c) && decide (c ≤ 43)) by unfold isAsg; rw [q1]; rfl)
    by_cases h2 : 38 ≤ c
    · by_cases h3 : c ≤ 43
      · have HE2 := Lib.hid (show isAsg c = true by rw [HE.out]; simp [h2, h3])
        go_wp2
        go_ret
        exact ⟨by rw [HE2.out]; simp [h2, h3], rfl⟩
      · have HE2 := Lib.hid (show isAsg c = false by rw [HE.out]; simp [h3])
        go_wp2
        go_ret
        exact ⟨by rw [HE2.out]; simp [h2, h3], rfl⟩
    · have HE2 := Lib.hid (show isAsg c = false by rw [HE.out]; simp [h2])
      go_wp2
      go_ret
      exact ⟨by rw [HE2.out]; rfl, rfl⟩
theorem impl_isInc (c : Int) (w : World) : Calls Tryz.prog 94 #[.int .i64 c] w fun e w' => e = .returned (.bool (isInc c)) ∧ w = w' := by
  go_enter Tryz.func94, Tryz.ntmps94
  by_cases h1 : c = 51
  · subst h1
    go_wp2
    go_ret
    exact ⟨rfl, rfl⟩
  · obtain ⟨q1, q2⟩ := ne_facts h1
    have HE := Lib.hid (show isInc c = (c == 52) by unfold isInc; rw [q1]; rfl)
    go_wp2
    go_ret
    exact ⟨by rw [HE.out]; rfl, rfl⟩

/-- The methods that begun and continued name, the kids' rows that they make. -/
def rdB (x : Value) (c : Int) : Value :=
  if c = 3 ∨ c = 4 ∨ c = 5 then .func (.func 262) #[x] #[]
  else if c = 6 then .func (.func 263) #[x] #[]
  else if c = 7 then .func (.func 264) #[x] #[]
  else if c = 8 then .func (.func 265) #[x] #[]
  else if c = 68 ∨ c = 55 ∨ c = 56 ∨ c = 61 then .func (.func 266) #[x] #[]
  else if c = 51 ∨ c = 52 then .func (.func 267) #[x] #[]
  else .nilFunc
def knB (c : Int) : Nat := if c = 68 ∨ c = 51 ∨ c = 52 ∨ c = 55 ∨ c = 56 ∨ c = 61 then 1 else 0
def rdC (x : Value) (c : Int) : Value :=
  if isAsg c = true then .func (.func 184) #[x] #[]
  else if isInc c = true then .func (.func 185) #[x] #[]
  else if c = 65 then .func (.func 186) #[x] #[]
  else if c = 24 then .func (.func 187) #[x] #[]
  else if operand.begins c = true then .func (.func 188) #[x] #[]
  else if lv.opLevel c ≠ 0 then .func (.func 184) #[x] #[]
  else .nilFunc
def knC (c : Int) : Nat := if ctK c = 0 then 0 else ctN c
/-- A row of so many kids, new in w'. -/
def NewRow (m : Nat) (u : Value) (w w' : World) : Prop := (m = 0 ∧ u = .slice none 0 0) ∨ 0 < m ∧ ∃ q, w.heap.size < q ∧ u = .slice (some ⟨q, 0, none⟩) m m ∧ IBlk w' q m (zs m)
theorem NewRow.keep {m : Nat} {u : Value} {w w' w2 : World} (h : NewRow m u w w') (hb : Below w'.heap.size w' w2) : NewRow m u w w2 := by
  rcases h with h | ⟨hm, q, h0, h1, h2⟩
  · exact .inl h
  · exact .inr ⟨hm, q, h0, h1, h2.of_block (hb.block _ h2.lt)⟩
def Begun (K O : Int) (m : Nat) (F : Value) (w : World) (e : Ending) (w' : World) : Prop :=
  ∃ u, e = .returned (.tuple #[.agg #[.int .i64 K, .int .i64 O, .string ⟨#[]⟩, .string ⟨#[]⟩, u], F]) ∧ Below w.heap.size w w' ∧ NewRow m u w w'
theorem begun_leaf (w : World) (c : Array Value) : Bk w.heap.size c 60 (w.alloc (.cells c 60)) ∧ Below w.heap.size w (w.alloc (.cells c 60)) := ⟨Bk.new w _ _, (Below.refl _ _).alloc (Nat.le_refl _) _⟩
theorem begun_row (m : Nat) (w : World) (c : Array Value) : Bk w.heap.size c 60 ((w.alloc (.cells c 60)).alloc (.cells (madeCells #[.int .i64 0] m) 3)) ∧ Below w.heap.size w ((w.alloc (.cells c 60)).alloc (.cells (madeCells #[.int .i64 0] m) 3)) ∧ IBlk ((w.alloc (.cells c 60)).alloc (.cells (madeCells #[.int .i64 0] m) 3)) (w.heap.size + 1) m (zs m) := by
  refine ⟨(Bk.new w _ _).alloc _, ((Below.refl _ _).alloc (Nat.le_refl _) _).alloc (by simp) _, ?_⟩
  have h := IBlk.zeros (w.alloc (.cells c 60)) m
  rwa [show (w.alloc (.cells c 60)).heap.size = w.heap.size + 1 by simp] at h
section
variable {w0 : World} {l : List Tk} {a : Option Addr} {cap i : Nat} {v : Value} {z : List (Nd × Value)} {r : Nat → Nat} {E : Ps → Nat → R} {M i0 : Nat}

set_option maxHeartbeats 1600000 in
theorem begun_3 (x : Value) (w : World) : Calls Tryz.prog 183 #[x, .int .i64 3] w (Begun 2 0 0 (.func (.func 262) #[x] #[]) w) := by
  have hmf : ∀ (fn : Fn) (first cap : Array Value) (w : World), (Instr.makeFunc fn first cap).run Tryz.prog w = .ok (.func fn first cap) w := fun _ _ _ _ => rfl
  obtain ⟨hb, hbel⟩ := begun_leaf w #[.int .i64 2, .int .i64 0, .string ⟨#[]⟩, .string ⟨#[]⟩, .slice none 0 0]
  go_enter Tryz.func183, Tryz.ntmps183
  go_wp2
  obtain ⟨t0, t1, t2, t3, t4⟩ := hb.c5
  exact bodyPost_ret (v := .tuple #[.agg #[.int .i64 2, .int .i64 0, .string ⟨#[]⟩, .string ⟨#[]⟩, .slice none 0 0], .func (.func 262) #[x] #[]]) (by simp [results, Tryz.results183, go_sem, t0, t1, t2, t3, t4]) rfl ⟨.slice none 0 0, rfl, hbel, .inl ⟨rfl, rfl⟩⟩

set_option maxHeartbeats 1600000 in
theorem begun_4 (x : Value) (w : World) : Calls Tryz.prog 183 #[x, .int .i64 4] w (Begun 3 0 0 (.func (.func 262) #[x] #[]) w) := by
  have hmf : ∀ (fn : Fn) (first cap : Array Value) (w : World), (Instr.makeFunc fn first cap).run Tryz.prog w = .ok (.func fn first cap) w := fun _ _ _ _ => rfl
  obtain ⟨hb, hbel⟩ := begun_leaf w #[.int .i64 3, .int .i64 0, .string ⟨#[]⟩, .string ⟨#[]⟩, .slice none 0 0]
  go_enter Tryz.func183, Tryz.ntmps183
  go_wp2
  obtain ⟨t0, t1, t2, t3, t4⟩ := hb.c5
  exact bodyPost_ret (v := .tuple #[.agg #[.int .i64 3, .int .i64 0, .string ⟨#[]⟩, .string ⟨#[]⟩, .slice none 0 0], .func (.func 262) #[x] #[]]) (by simp [results, Tryz.results183, go_sem, t0, t1, t2, t3, t4]) rfl ⟨.slice none 0 0, rfl, hbel, .inl ⟨rfl, rfl⟩⟩

set_option maxHeartbeats 1600000 in
theorem begun_5 (x : Value) (w : World) : Calls Tryz.prog 183 #[x, .int .i64 5] w (Begun 4 0 0 (.func (.func 262) #[x] #[]) w) := by
  have hmf : ∀ (fn : Fn) (first cap : Array Value) (w : World), (Instr.makeFunc fn first cap).run Tryz.prog w = .ok (.func fn first cap) w := fun _ _ _ _ => rfl
  obtain ⟨hb, hbel⟩ := begun_leaf w #[.int .i64 4, .int .i64 0, .string ⟨#[]⟩, .string ⟨#[]⟩, .slice none 0 0]
  go_enter Tryz.func183, Tryz.ntmps183
  go_wp2
  obtain ⟨t0, t1, t2, t3, t4⟩ := hb.c5
  exact bodyPost_ret (v := .tuple #[.agg #[.int .i64 4, .int .i64 0, .string ⟨#[]⟩, .string ⟨#[]⟩, .slice none 0 0], .func (.func 262) #[x] #[]]) (by simp [results, Tryz.results183, go_sem, t0, t1, t2, t3, t4]) rfl ⟨.slice none 0 0, rfl, hbel, .inl ⟨rfl, rfl⟩⟩

set_option maxHeartbeats 1600000 in
theorem begun_6 (x : Value) (w : World) : Calls Tryz.prog 183 #[x, .int .i64 6] w (Begun 1 0 0 (.func (.func 263) #[x] #[]) w) := by
  have hmf : ∀ (fn : Fn) (first cap : Array Value) (w : World), (Instr.makeFunc fn first cap).run Tryz.prog w = .ok (.func fn first cap) w := fun _ _ _ _ => rfl
  obtain ⟨hb, hbel⟩ := begun_leaf w #[.int .i64 1, .int .i64 0, .string ⟨#[]⟩, .string ⟨#[]⟩, .slice none 0 0]
  go_enter Tryz.func183, Tryz.ntmps183
  go_wp2
  obtain ⟨t0, t1, t2, t3, t4⟩ := hb.c5
  exact bodyPost_ret (v := .tuple #[.agg #[.int .i64 1, .int .i64 0, .string ⟨#[]⟩, .string ⟨#[]⟩, .slice none 0 0], .func (.func 263) #[x] #[]]) (by simp [results, Tryz.results183, go_sem, t0, t1, t2, t3, t4]) rfl ⟨.slice none 0 0, rfl, hbel, .inl ⟨rfl, rfl⟩⟩

set_option maxHeartbeats 1600000 in
theorem begun_7 (x : Value) (w : World) : Calls Tryz.prog 183 #[x, .int .i64 7] w (Begun 7 0 0 (.func (.func 264) #[x] #[]) w) := by
  have hmf : ∀ (fn : Fn) (first cap : Array Value) (w : World), (Instr.makeFunc fn first cap).run Tryz.prog w = .ok (.func fn first cap) w := fun _ _ _ _ => rfl
  obtain ⟨hb, hbel⟩ := begun_leaf w #[.int .i64 7, .int .i64 0, .string ⟨#[]⟩, .string ⟨#[]⟩, .slice none 0 0]
  go_enter Tryz.func183, Tryz.ntmps183
  go_wp2
  obtain ⟨t0, t1, t2, t3, t4⟩ := hb.c5
  exact bodyPost_ret (v := .tuple #[.agg #[.int .i64 7, .int .i64 0, .string ⟨#[]⟩, .string ⟨#[]⟩, .slice none 0 0], .func (.func 264) #[x] #[]]) (by simp [results, Tryz.results183, go_sem, t0, t1, t2, t3, t4]) rfl ⟨.slice none 0 0, rfl, hbel, .inl ⟨rfl, rfl⟩⟩

set_option maxHeartbeats 1600000 in
theorem begun_8 (x : Value) (w : World) : Calls Tryz.prog 183 #[x, .int .i64 8] w (Begun 8 0 0 (.func (.func 265) #[x] #[]) w) := by
  have hmf : ∀ (fn : Fn) (first cap : Array Value) (w : World), (Instr.makeFunc fn first cap).run Tryz.prog w = .ok (.func fn first cap) w := fun _ _ _ _ => rfl
  obtain ⟨hb, hbel⟩ := begun_leaf w #[.int .i64 8, .int .i64 0, .string ⟨#[]⟩, .string ⟨#[]⟩, .slice none 0 0]
  go_enter Tryz.func183, Tryz.ntmps183
  go_wp2
  obtain ⟨t0, t1, t2, t3, t4⟩ := hb.c5
  exact bodyPost_ret (v := .tuple #[.agg #[.int .i64 8, .int .i64 0, .string ⟨#[]⟩, .string ⟨#[]⟩, .slice none 0 0], .func (.func 265) #[x] #[]]) (by simp [results, Tryz.results183, go_sem, t0, t1, t2, t3, t4]) rfl ⟨.slice none 0 0, rfl, hbel, .inl ⟨rfl, rfl⟩⟩

set_option maxHeartbeats 1600000 in
theorem begun_68 (x : Value) (w : World) : Calls Tryz.prog 183 #[x, .int .i64 68] w (Begun 6 0 1 (.func (.func 266) #[x] #[]) w) := by
  have hmf : ∀ (fn : Fn) (first cap : Array Value) (w : World), (Instr.makeFunc fn first cap).run Tryz.prog w = .ok (.func fn first cap) w := fun _ _ _ _ => rfl
  have hmk : ∀ w : World, (Instr.makeSlice 53 (.int .i64 1) (.int .i64 1)).run Tryz.prog w = .ok (.slice (some ⟨w.heap.size, 0, none⟩) 1 1) (w.alloc (.cells (madeCells #[.int .i64 0] 1) 3)) := fun w => nd.make_ints 1 (by omega) w
  obtain ⟨hb, hbel, hrow⟩ := begun_row 1 w #[.int .i64 6, .int .i64 0, .string ⟨#[]⟩, .string ⟨#[]⟩, .slice (some ⟨w.heap.size + 1, 0, none⟩) 1 1]
  go_enter Tryz.func183, Tryz.ntmps183
  go_wp2
  obtain ⟨t0, t1, t2, t3, t4⟩ := hb.c5
  exact bodyPost_ret (v := .tuple #[.agg #[.int .i64 6, .int .i64 0, .string ⟨#[]⟩, .string ⟨#[]⟩, .slice (some ⟨w.heap.size + 1, 0, none⟩) 1 1], .func (.func 266) #[x] #[]]) (by simp [results, Tryz.results183, go_sem, t0, t1, t2, t3, t4]) rfl ⟨.slice (some ⟨w.heap.size + 1, 0, none⟩) 1 1, rfl, hbel, .inr ⟨by decide, w.heap.size + 1, Nat.lt_succ_self _, rfl, hrow⟩⟩

set_option maxHeartbeats 1600000 in
theorem begun_51 (x : Value) (w : World) : Calls Tryz.prog 183 #[x, .int .i64 51] w (Begun 9 51 1 (.func (.func 267) #[x] #[]) w) := by
  have hmf : ∀ (fn : Fn) (first cap : Array Value) (w : World), (Instr.makeFunc fn first cap).run Tryz.prog w = .ok (.func fn first cap) w := fun _ _ _ _ => rfl
  have hmk : ∀ w : World, (Instr.makeSlice 53 (.int .i64 1) (.int .i64 1)).run Tryz.prog w = .ok (.slice (some ⟨w.heap.size, 0, none⟩) 1 1) (w.alloc (.cells (madeCells #[.int .i64 0] 1) 3)) := fun w => nd.make_ints 1 (by omega) w
  obtain ⟨hb, hbel, hrow⟩ := begun_row 1 w #[.int .i64 9, .int .i64 51, .string ⟨#[]⟩, .string ⟨#[]⟩, .slice (some ⟨w.heap.size + 1, 0, none⟩) 1 1]
  go_enter Tryz.func183, Tryz.ntmps183
  go_wp2
  obtain ⟨t0, t1, t2, t3, t4⟩ := hb.c5
  exact bodyPost_ret (v := .tuple #[.agg #[.int .i64 9, .int .i64 51, .string ⟨#[]⟩, .string ⟨#[]⟩, .slice (some ⟨w.heap.size + 1, 0, none⟩) 1 1], .func (.func 267) #[x] #[]]) (by simp [results, Tryz.results183, go_sem, t0, t1, t2, t3, t4]) rfl ⟨.slice (some ⟨w.heap.size + 1, 0, none⟩) 1 1, rfl, hbel, .inr ⟨by decide, w.heap.size + 1, Nat.lt_succ_self _, rfl, hrow⟩⟩

set_option maxHeartbeats 1600000 in
theorem begun_52 (x : Value) (w : World) : Calls Tryz.prog 183 #[x, .int .i64 52] w (Begun 9 52 1 (.func (.func 267) #[x] #[]) w) := by
  have hmf : ∀ (fn : Fn) (first cap : Array Value) (w : World), (Instr.makeFunc fn first cap).run Tryz.prog w = .ok (.func fn first cap) w := fun _ _ _ _ => rfl
  have hmk : ∀ w : World, (Instr.makeSlice 53 (.int .i64 1) (.int .i64 1)).run Tryz.prog w = .ok (.slice (some ⟨w.heap.size, 0, none⟩) 1 1) (w.alloc (.cells (madeCells #[.int .i64 0] 1) 3)) := fun w => nd.make_ints 1 (by omega) w
  obtain ⟨hb, hbel, hrow⟩ := begun_row 1 w #[.int .i64 9, .int .i64 52, .string ⟨#[]⟩, .string ⟨#[]⟩, .slice (some ⟨w.heap.size + 1, 0, none⟩) 1 1]
  go_enter Tryz.func183, Tryz.ntmps183
  go_wp2
  obtain ⟨t0, t1, t2, t3, t4⟩ := hb.c5
  exact bodyPost_ret (v := .tuple #[.agg #[.int .i64 9, .int .i64 52, .string ⟨#[]⟩, .string ⟨#[]⟩, .slice (some ⟨w.heap.size + 1, 0, none⟩) 1 1], .func (.func 267) #[x] #[]]) (by simp [results, Tryz.results183, go_sem, t0, t1, t2, t3, t4]) rfl ⟨.slice (some ⟨w.heap.size + 1, 0, none⟩) 1 1, rfl, hbel, .inr ⟨by decide, w.heap.size + 1, Nat.lt_succ_self _, rfl, hrow⟩⟩

set_option maxHeartbeats 1600000 in
theorem begun_55 (x : Value) (w : World) : Calls Tryz.prog 183 #[x, .int .i64 55] w (Begun 11 55 1 (.func (.func 266) #[x] #[]) w) := by
  have hmf : ∀ (fn : Fn) (first cap : Array Value) (w : World), (Instr.makeFunc fn first cap).run Tryz.prog w = .ok (.func fn first cap) w := fun _ _ _ _ => rfl
  have hmk : ∀ w : World, (Instr.makeSlice 53 (.int .i64 1) (.int .i64 1)).run Tryz.prog w = .ok (.slice (some ⟨w.heap.size, 0, none⟩) 1 1) (w.alloc (.cells (madeCells #[.int .i64 0] 1) 3)) := fun w => nd.make_ints 1 (by omega) w
  obtain ⟨hb, hbel, hrow⟩ := begun_row 1 w #[.int .i64 11, .int .i64 55, .string ⟨#[]⟩, .string ⟨#[]⟩, .slice (some ⟨w.heap.size + 1, 0, none⟩) 1 1]
  go_enter Tryz.func183, Tryz.ntmps183
  go_wp2
  obtain ⟨t0, t1, t2, t3, t4⟩ := hb.c5
  exact bodyPost_ret (v := .tuple #[.agg #[.int .i64 11, .int .i64 55, .string ⟨#[]⟩, .string ⟨#[]⟩, .slice (some ⟨w.heap.size + 1, 0, none⟩) 1 1], .func (.func 266) #[x] #[]]) (by simp [results, Tryz.results183, go_sem, t0, t1, t2, t3, t4]) rfl ⟨.slice (some ⟨w.heap.size + 1, 0, none⟩) 1 1, rfl, hbel, .inr ⟨by decide, w.heap.size + 1, Nat.lt_succ_self _, rfl, hrow⟩⟩

set_option maxHeartbeats 1600000 in
theorem begun_56 (x : Value) (w : World) : Calls Tryz.prog 183 #[x, .int .i64 56] w (Begun 11 56 1 (.func (.func 266) #[x] #[]) w) := by
  have hmf : ∀ (fn : Fn) (first cap : Array Value) (w : World), (Instr.makeFunc fn first cap).run Tryz.prog w = .ok (.func fn first cap) w := fun _ _ _ _ => rfl
  have hmk : ∀ w : World, (Instr.makeSlice 53 (.int .i64 1) (.int .i64 1)).run Tryz.prog w = .ok (.slice (some ⟨w.heap.size, 0, none⟩) 1 1) (w.alloc (.cells (madeCells #[.int .i64 0] 1) 3)) := fun w => nd.make_ints 1 (by omega) w
  obtain ⟨hb, hbel, hrow⟩ := begun_row 1 w #[.int .i64 11, .int .i64 56, .string ⟨#[]⟩, .string ⟨#[]⟩, .slice (some ⟨w.heap.size + 1, 0, none⟩) 1 1]
  go_enter Tryz.func183, Tryz.ntmps183
  go_wp2
  obtain ⟨t0, t1, t2, t3, t4⟩ := hb.c5
  exact bodyPost_ret (v := .tuple #[.agg #[.int .i64 11, .int .i64 56, .string ⟨#[]⟩, .string ⟨#[]⟩, .slice (some ⟨w.heap.size + 1, 0, none⟩) 1 1], .func (.func 266) #[x] #[]]) (by simp [results, Tryz.results183, go_sem, t0, t1, t2, t3, t4]) rfl ⟨.slice (some ⟨w.heap.size + 1, 0, none⟩) 1 1, rfl, hbel, .inr ⟨by decide, w.heap.size + 1, Nat.lt_succ_self _, rfl, hrow⟩⟩

set_option maxHeartbeats 1600000 in
theorem begun_61 (x : Value) (w : World) : Calls Tryz.prog 183 #[x, .int .i64 61] w (Begun 11 61 1 (.func (.func 266) #[x] #[]) w) := by
  have hmf : ∀ (fn : Fn) (first cap : Array Value) (w : World), (Instr.makeFunc fn first cap).run Tryz.prog w = .ok (.func fn first cap) w := fun _ _ _ _ => rfl
  have hmk : ∀ w : World, (Instr.makeSlice 53 (.int .i64 1) (.int .i64 1)).run Tryz.prog w = .ok (.slice (some ⟨w.heap.size, 0, none⟩) 1 1) (w.alloc (.cells (madeCells #[.int .i64 0] 1) 3)) := fun w => nd.make_ints 1 (by omega) w
  obtain ⟨hb, hbel, hrow⟩ := begun_row 1 w #[.int .i64 11, .int .i64 61, .string ⟨#[]⟩, .string ⟨#[]⟩, .slice (some ⟨w.heap.size + 1, 0, none⟩) 1 1]
  go_enter Tryz.func183, Tryz.ntmps183
  go_wp2
  obtain ⟨t0, t1, t2, t3, t4⟩ := hb.c5
  exact bodyPost_ret (v := .tuple #[.agg #[.int .i64 11, .int .i64 61, .string ⟨#[]⟩, .string ⟨#[]⟩, .slice (some ⟨w.heap.size + 1, 0, none⟩) 1 1], .func (.func 266) #[x] #[]]) (by simp [results, Tryz.results183, go_sem, t0, t1, t2, t3, t4]) rfl ⟨.slice (some ⟨w.heap.size + 1, 0, none⟩) 1 1, rfl, hbel, .inr ⟨by decide, w.heap.size + 1, Nat.lt_succ_self _, rfl, hrow⟩⟩

set_option maxHeartbeats 1600000 in
theorem begun_none (x : Value) (c : Int) (h : bgK c = 0) (w : World) : Calls Tryz.prog 183 #[x, .int .i64 c] w (Begun 0 0 0 .nilFunc w) := by
  obtain ⟨hb, hbel⟩ := begun_leaf w #[.int .i64 0, .int .i64 0, .string ⟨#[]⟩, .string ⟨#[]⟩, .slice none 0 0]
  have hn : ∀ y : Int, bgK y ≠ 0 → ¬ c = y := fun y hy e => hy (e ▸ h)
  obtain ⟨a3, b3⟩ := ne_facts (hn 3 (by decide))
  obtain ⟨a4, b4⟩ := ne_facts (hn 4 (by decide))
  obtain ⟨a5, b5⟩ := ne_facts (hn 5 (by decide))
  obtain ⟨a6, b6⟩ := ne_facts (hn 6 (by decide))
  obtain ⟨a7, b7⟩ := ne_facts (hn 7 (by decide))
  obtain ⟨a8, b8⟩ := ne_facts (hn 8 (by decide))
  obtain ⟨a68, b68⟩ := ne_facts (hn 68 (by decide))
  obtain ⟨a51, b51⟩ := ne_facts (hn 51 (by decide))
  obtain ⟨a52, b52⟩ := ne_facts (hn 52 (by decide))
  obtain ⟨a55, b55⟩ := ne_facts (hn 55 (by decide))
  obtain ⟨a56, b56⟩ := ne_facts (hn 56 (by decide))
  obtain ⟨a61, b61⟩ := ne_facts (hn 61 (by decide))
  clear hn h
  go_enter Tryz.func183, Tryz.ntmps183
  go_wp2
  obtain ⟨t0, t1, t2, t3, t4⟩ := hb.c5
  exact bodyPost_ret (v := .tuple #[.agg #[.int .i64 0, .int .i64 0, .string ⟨#[]⟩, .string ⟨#[]⟩, .slice none 0 0], .nilFunc]) (by simp [results, Tryz.results183, go_sem, t0, t1, t2, t3, t4]) rfl ⟨.slice none 0 0, rfl, hbel, .inl ⟨rfl, rfl⟩⟩

set_option maxHeartbeats 1600000 in
theorem cont_asg (x : Value) (c : Int) (h : isAsg c = true) (w : World) : Calls Tryz.prog 113 #[x, .int .i64 c] w (Begun 15 c 2 (.func (.func 184) #[x] #[]) w) := by
  have hmf : ∀ (fn : Fn) (first cap : Array Value) (w : World), (Instr.makeFunc fn first cap).run Tryz.prog w = .ok (.func fn first cap) w := fun _ _ _ _ => rfl
  have hmk : ∀ w : World, (Instr.makeSlice 53 (.int .i64 2) (.int .i64 2)).run Tryz.prog w = .ok (.slice (some ⟨w.heap.size, 0, none⟩) 2 2) (w.alloc (.cells (madeCells #[.int .i64 0] 2) 3)) := fun w => nd.make_ints 2 (by omega) w
  obtain ⟨hb, hbel, hrow⟩ := begun_row 2 w #[.int .i64 15, .int .i64 c, .string ⟨#[]⟩, .string ⟨#[]⟩, .slice (some ⟨w.heap.size + 1, 0, none⟩) 2 2]
  have HA := Lib.hid h
  have HI := Lib.hid h
  have HB := Lib.hid h
  have HO := Lib.hid h
  go_enter Tryz.func113, Tryz.ntmps113
  go_wp2_with (first | (go_at_call 93; refine (impl_isAsg _ _).mono ?_; rw [HA.out]; rintro e w2 ⟨rfl, rfl⟩) | (go_at_call 94; refine (impl_isInc _ _).mono ?_; rw [HI.out]; rintro e w2 ⟨rfl, rfl⟩) | (go_at_call 34; refine (operand.impl_begins _ _).mono ?_; rw [HB.out]; rintro e w2 ⟨rfl, rfl⟩) | (go_at_call 37; refine (lv.impl_op _ _).mono ?_; rw [HO.out]; rintro e w2 ⟨rfl, b2⟩; have HB2 := Lib.hid b2; have hsz2 : w2.heap.size = w2.heap.size := rfl))
  obtain ⟨t0, t1, t2, t3, t4⟩ := hb.c5
  exact bodyPost_ret (v := .tuple #[.agg #[.int .i64 15, .int .i64 c, .string ⟨#[]⟩, .string ⟨#[]⟩, .slice (some ⟨w.heap.size + 1, 0, none⟩) 2 2], .func (.func 184) #[x] #[]]) (by simp [results, Tryz.results113, go_sem, t0, t1, t2, t3, t4]) rfl ⟨.slice (some ⟨w.heap.size + 1, 0, none⟩) 2 2, rfl, hbel, .inr ⟨by decide, w.heap.size + 1, Nat.lt_succ_self _, rfl, hrow⟩⟩

set_option maxHeartbeats 1600000 in
theorem cont_inc (x : Value) (c : Int) (hA : isAsg c = false) (h : isInc c = true) (w : World) : Calls Tryz.prog 113 #[x, .int .i64 c] w (Begun 10 c 1 (.func (.func 185) #[x] #[]) w) := by
  have hmf : ∀ (fn : Fn) (first cap : Array Value) (w : World), (Instr.makeFunc fn first cap).run Tryz.prog w = .ok (.func fn first cap) w := fun _ _ _ _ => rfl
  have hmk : ∀ w : World, (Instr.makeSlice 53 (.int .i64 1) (.int .i64 1)).run Tryz.prog w = .ok (.slice (some ⟨w.heap.size, 0, none⟩) 1 1) (w.alloc (.cells (madeCells #[.int .i64 0] 1) 3)) := fun w => nd.make_ints 1 (by omega) w
  obtain ⟨hb, hbel, hrow⟩ := begun_row 1 w #[.int .i64 10, .int .i64 c, .string ⟨#[]⟩, .string ⟨#[]⟩, .slice (some ⟨w.heap.size + 1, 0, none⟩) 1 1]
  have HA := Lib.hid hA
  have HI := Lib.hid h
  have HB := Lib.hid h
  have HO := Lib.hid h
  go_enter Tryz.func113, Tryz.ntmps113
  go_wp2_with (first | (go_at_call 93; refine (impl_isAsg _ _).mono ?_; rw [HA.out]; rintro e w2 ⟨rfl, rfl⟩) | (go_at_call 94; refine (impl_isInc _ _).mono ?_; rw [HI.out]; rintro e w2 ⟨rfl, rfl⟩) | (go_at_call 34; refine (operand.impl_begins _ _).mono ?_; rw [HB.out]; rintro e w2 ⟨rfl, rfl⟩) | (go_at_call 37; refine (lv.impl_op _ _).mono ?_; rw [HO.out]; rintro e w2 ⟨rfl, b2⟩; have HB2 := Lib.hid b2; have hsz2 : w2.heap.size = w2.heap.size := rfl))
  obtain ⟨t0, t1, t2, t3, t4⟩ := hb.c5
  exact bodyPost_ret (v := .tuple #[.agg #[.int .i64 10, .int .i64 c, .string ⟨#[]⟩, .string ⟨#[]⟩, .slice (some ⟨w.heap.size + 1, 0, none⟩) 1 1], .func (.func 185) #[x] #[]]) (by simp [results, Tryz.results113, go_sem, t0, t1, t2, t3, t4]) rfl ⟨.slice (some ⟨w.heap.size + 1, 0, none⟩) 1 1, rfl, hbel, .inr ⟨by decide, w.heap.size + 1, Nat.lt_succ_self _, rfl, hrow⟩⟩

set_option maxHeartbeats 1600000 in
theorem cont_quest (x : Value) (c : Int) (h : c = 65) (w : World) : Calls Tryz.prog 113 #[x, .int .i64 c] w (Begun 14 0 3 (.func (.func 186) #[x] #[]) w) := by
  have hmf : ∀ (fn : Fn) (first cap : Array Value) (w : World), (Instr.makeFunc fn first cap).run Tryz.prog w = .ok (.func fn first cap) w := fun _ _ _ _ => rfl
  have hmk : ∀ w : World, (Instr.makeSlice 53 (.int .i64 3) (.int .i64 3)).run Tryz.prog w = .ok (.slice (some ⟨w.heap.size, 0, none⟩) 3 3) (w.alloc (.cells (madeCells #[.int .i64 0] 3) 3)) := fun w => nd.make_ints 3 (by omega) w
  obtain ⟨hb, hbel, hrow⟩ := begun_row 3 w #[.int .i64 14, .int .i64 0, .string ⟨#[]⟩, .string ⟨#[]⟩, .slice (some ⟨w.heap.size + 1, 0, none⟩) 3 3]
  subst h
  have HA := Lib.hid (show isAsg 65 = false from rfl)
  have HI := Lib.hid (show isInc 65 = false from rfl)
  have HB := Lib.hid (show isInc 65 = false from rfl)
  have HO := Lib.hid (show isInc 65 = false from rfl)
  go_enter Tryz.func113, Tryz.ntmps113
  go_wp2_with (first | (go_at_call 93; refine (impl_isAsg _ _).mono ?_; rw [HA.out]; rintro e w2 ⟨rfl, rfl⟩) | (go_at_call 94; refine (impl_isInc _ _).mono ?_; rw [HI.out]; rintro e w2 ⟨rfl, rfl⟩) | (go_at_call 34; refine (operand.impl_begins _ _).mono ?_; rw [HB.out]; rintro e w2 ⟨rfl, rfl⟩) | (go_at_call 37; refine (lv.impl_op _ _).mono ?_; rw [HO.out]; rintro e w2 ⟨rfl, b2⟩; have HB2 := Lib.hid b2; have hsz2 : w2.heap.size = w2.heap.size := rfl))
  obtain ⟨t0, t1, t2, t3, t4⟩ := hb.c5
  exact bodyPost_ret (v := .tuple #[.agg #[.int .i64 14, .int .i64 0, .string ⟨#[]⟩, .string ⟨#[]⟩, .slice (some ⟨w.heap.size + 1, 0, none⟩) 3 3], .func (.func 186) #[x] #[]]) (by simp [results, Tryz.results113, go_sem, t0, t1, t2, t3, t4]) rfl ⟨.slice (some ⟨w.heap.size + 1, 0, none⟩) 3 3, rfl, hbel, .inr ⟨by decide, w.heap.size + 1, Nat.lt_succ_self _, rfl, hrow⟩⟩

set_option maxHeartbeats 1600000 in
theorem cont_in (x : Value) (c : Int) (h : c = 24) (w : World) : Calls Tryz.prog 113 #[x, .int .i64 c] w (Begun 13 0 1 (.func (.func 187) #[x] #[]) w) := by
  have hmf : ∀ (fn : Fn) (first cap : Array Value) (w : World), (Instr.makeFunc fn first cap).run Tryz.prog w = .ok (.func fn first cap) w := fun _ _ _ _ => rfl
  have hmk : ∀ w : World, (Instr.makeSlice 53 (.int .i64 1) (.int .i64 1)).run Tryz.prog w = .ok (.slice (some ⟨w.heap.size, 0, none⟩) 1 1) (w.alloc (.cells (madeCells #[.int .i64 0] 1) 3)) := fun w => nd.make_ints 1 (by omega) w
  obtain ⟨hb, hbel, hrow⟩ := begun_row 1 w #[.int .i64 13, .int .i64 0, .string ⟨#[]⟩, .string ⟨#[]⟩, .slice (some ⟨w.heap.size + 1, 0, none⟩) 1 1]
  subst h
  have HA := Lib.hid (show isAsg 24 = false from rfl)
  have HI := Lib.hid (show isInc 24 = false from rfl)
  have HB := Lib.hid (show isInc 65 = false from rfl)
  have HO := Lib.hid (show isInc 65 = false from rfl)
  go_enter Tryz.func113, Tryz.ntmps113
  go_wp2_with (first | (go_at_call 93; refine (impl_isAsg _ _).mono ?_; rw [HA.out]; rintro e w2 ⟨rfl, rfl⟩) | (go_at_call 94; refine (impl_isInc _ _).mono ?_; rw [HI.out]; rintro e w2 ⟨rfl, rfl⟩) | (go_at_call 34; refine (operand.impl_begins _ _).mono ?_; rw [HB.out]; rintro e w2 ⟨rfl, rfl⟩) | (go_at_call 37; refine (lv.impl_op _ _).mono ?_; rw [HO.out]; rintro e w2 ⟨rfl, b2⟩; have HB2 := Lib.hid b2; have hsz2 : w2.heap.size = w2.heap.size := rfl))
  obtain ⟨t0, t1, t2, t3, t4⟩ := hb.c5
  exact bodyPost_ret (v := .tuple #[.agg #[.int .i64 13, .int .i64 0, .string ⟨#[]⟩, .string ⟨#[]⟩, .slice (some ⟨w.heap.size + 1, 0, none⟩) 1 1], .func (.func 187) #[x] #[]]) (by simp [results, Tryz.results113, go_sem, t0, t1, t2, t3, t4]) rfl ⟨.slice (some ⟨w.heap.size + 1, 0, none⟩) 1 1, rfl, hbel, .inr ⟨by decide, w.heap.size + 1, Nat.lt_succ_self _, rfl, hrow⟩⟩

set_option maxHeartbeats 1600000 in
theorem cont_cat (x : Value) (c : Int) (hA : isAsg c = false) (hI : isInc c = false) (h65 : ¬ c = 65) (h24 : ¬ c = 24) (h : operand.begins c = true) (w : World) : Calls Tryz.prog 113 #[x, .int .i64 c] w (Begun 12 99 2 (.func (.func 188) #[x] #[]) w) := by
  have hmf : ∀ (fn : Fn) (first cap : Array Value) (w : World), (Instr.makeFunc fn first cap).run Tryz.prog w = .ok (.func fn first cap) w := fun _ _ _ _ => rfl
  have hmk : ∀ w : World, (Instr.makeSlice 53 (.int .i64 2) (.int .i64 2)).run Tryz.prog w = .ok (.slice (some ⟨w.heap.size, 0, none⟩) 2 2) (w.alloc (.cells (madeCells #[.int .i64 0] 2) 3)) := fun w => nd.make_ints 2 (by omega) w
  obtain ⟨hb, hbel, hrow⟩ := begun_row 2 w #[.int .i64 12, .int .i64 99, .string ⟨#[]⟩, .string ⟨#[]⟩, .slice (some ⟨w.heap.size + 1, 0, none⟩) 2 2]
  have HA := Lib.hid hA
  have HI := Lib.hid hI
  have HB := Lib.hid h
  have HO := Lib.hid h
  obtain ⟨a65, b65⟩ := ne_facts (show ¬ c = 65 from h65)
  obtain ⟨a24, b24⟩ := ne_facts (show ¬ c = 24 from h24)
  go_enter Tryz.func113, Tryz.ntmps113
  go_wp2_with (first | (go_at_call 93; refine (impl_isAsg _ _).mono ?_; rw [HA.out]; rintro e w2 ⟨rfl, rfl⟩) | (go_at_call 94; refine (impl_isInc _ _).mono ?_; rw [HI.out]; rintro e w2 ⟨rfl, rfl⟩) | (go_at_call 34; refine (operand.impl_begins _ _).mono ?_; rw [HB.out]; rintro e w2 ⟨rfl, rfl⟩) | (go_at_call 37; refine (lv.impl_op _ _).mono ?_; rw [HO.out]; rintro e w2 ⟨rfl, b2⟩; have HB2 := Lib.hid b2; have hsz2 : w2.heap.size = w2.heap.size := rfl))
  obtain ⟨t0, t1, t2, t3, t4⟩ := hb.c5
  exact bodyPost_ret (v := .tuple #[.agg #[.int .i64 12, .int .i64 99, .string ⟨#[]⟩, .string ⟨#[]⟩, .slice (some ⟨w.heap.size + 1, 0, none⟩) 2 2], .func (.func 188) #[x] #[]]) (by simp [results, Tryz.results113, go_sem, t0, t1, t2, t3, t4]) rfl ⟨.slice (some ⟨w.heap.size + 1, 0, none⟩) 2 2, rfl, hbel, .inr ⟨by decide, w.heap.size + 1, Nat.lt_succ_self _, rfl, hrow⟩⟩

set_option maxHeartbeats 1600000 in
theorem cont_op (x : Value) (c : Int) (hA : isAsg c = false) (hI : isInc c = false) (h65 : ¬ c = 65) (h24 : ¬ c = 24) (hBB : operand.begins c = false) (h : lv.opLevel c ≠ 0) (w : World) : Calls Tryz.prog 113 #[x, .int .i64 c] w (Begun 12 c 2 (.func (.func 184) #[x] #[]) w) := by
  have hmf : ∀ (fn : Fn) (first cap : Array Value) (w : World), (Instr.makeFunc fn first cap).run Tryz.prog w = .ok (.func fn first cap) w := fun _ _ _ _ => rfl
  have hmk : ∀ w : World, (Instr.makeSlice 53 (.int .i64 2) (.int .i64 2)).run Tryz.prog w = .ok (.slice (some ⟨w.heap.size, 0, none⟩) 2 2) (w.alloc (.cells (madeCells #[.int .i64 0] 2) 3)) := fun w => nd.make_ints 2 (by omega) w
  obtain ⟨V, hV⟩ : ∃ V, lv.opLevel c = V := ⟨_, rfl⟩
  have HV := hV
  rw [hV] at h
  obtain ⟨v1, v2⟩ := ne_facts h
  obtain ⟨hb, hbel⟩ := begun_leaf w #[.int .i64 0, .int .i64 0, .string ⟨#[]⟩, .string ⟨#[]⟩, .slice none 0 0]
  have HN := Lib.hid hb
  have HBEL := Lib.hid hbel
  have HA := Lib.hid hA
  have HI := Lib.hid hI
  have HB := Lib.hid hBB
  obtain ⟨a65, b65⟩ := ne_facts (show ¬ c = 65 from h65)
  obtain ⟨a24, b24⟩ := ne_facts (show ¬ c = 24 from h24)
  have hcp : ∀ (w2 : World), w.heap.size < w2.heap.size → ∀ z, ¬ w.heap.size = w2.heap.size := fun w2 h z => by omega
  clear hb hbel hA hI hBB h h65 h24 hV hcp
  go_enter Tryz.func113, Tryz.ntmps113
  go_wp2_with (first | (go_at_call 93; refine (impl_isAsg _ _).mono ?_; rw [HA.out]; rintro e w1 ⟨rfl, rfl⟩) | (go_at_call 94; refine (impl_isInc _ _).mono ?_; rw [HI.out]; rintro e w1 ⟨rfl, rfl⟩) | (go_at_call 34; refine (operand.impl_begins _ _).mono ?_; rw [HB.out]; rintro e w1 ⟨rfl, rfl⟩) | (go_at_call 37; refine (lv.impl_op _ _).mono ?_; rw [HV]; rintro e w2 ⟨rfl, b2⟩; have N2 := Lib.hid (HN.out.keep b2); have B2 := Lib.hid (HBEL.out.trans (b2.mono HBEL.out.size)); have f0 := N2.out.f 0; have f1 := N2.out.f 1; have f2 := N2.out.f 2; have f3 := N2.out.f 3; have f4 := N2.out.f 4; obtain ⟨d0, d1, d2, d3, d4⟩ := N2.out.c5; have A0 : ∀ z, (w2.alloc z).cell? ⟨w.heap.size, 0, none⟩ = some (.int .i64 0) := fun z => nd.cell_past z d0; have A1 : ∀ z, (w2.alloc z).cell? ⟨w.heap.size, 1, none⟩ = some (.int .i64 0) := fun z => nd.cell_past z d1; have A2 : ∀ z, (w2.alloc z).cell? ⟨w.heap.size, 2, none⟩ = some (.string ⟨#[]⟩) := fun z => nd.cell_past z d2; have A3 : ∀ z, (w2.alloc z).cell? ⟨w.heap.size, 3, none⟩ = some (.string ⟨#[]⟩) := fun z => nd.cell_past z d3; have A4 : ∀ z, (w2.alloc z).cell? ⟨w.heap.size, 4, none⟩ = some (.slice none 0 0) := fun z => nd.cell_past z d4; have G0 := ((N2.out.alloc (.cells (madeCells #[.int .i64 0] 2) 3)).f 0); have G1 := ((N2.out.alloc (.cells (madeCells #[.int .i64 0] 2) 3)).f 1); have G2' := ((N2.out.alloc (.cells (madeCells #[.int .i64 0] 2) 3)).f 2); have G3 := ((N2.out.alloc (.cells (madeCells #[.int .i64 0] 2) 3)).f 3); have G4 := ((N2.out.alloc (.cells (madeCells #[.int .i64 0] 2) 3)).f 4)))
  have hne : w2.heap.size ≠ w.heap.size := by have := N2.out.lt; omega
  have hF : Bk w.heap.size #[.int .i64 12, .int .i64 c, .string ⟨#[]⟩, .string ⟨#[]⟩, .slice (some ⟨w2.heap.size, 0, none⟩) 2 2] 60 _ := ((N2.out.alloc (.cells (madeCells #[.int .i64 0] 2) 3)).put5 (.int .i64 12) (.int .i64 c) (.string ⟨#[]⟩) (.string ⟨#[]⟩) (.slice (some ⟨w2.heap.size, 0, none⟩) 2 2))
  obtain ⟨t0, t1, t2, t3, t4⟩ := hF.c5
  exact bodyPost_ret (v := .tuple #[.agg #[.int .i64 12, .int .i64 c, .string ⟨#[]⟩, .string ⟨#[]⟩, .slice (some ⟨w2.heap.size, 0, none⟩) 2 2], .func (.func 184) #[x] #[]]) (by simp [results, Tryz.results113, go_sem, t0, t1, t2, t3, t4]) rfl ⟨.slice (some ⟨w2.heap.size, 0, none⟩) 2 2, rfl, below_put5 (B2.out.alloc B2.out.size _) (Nat.le_refl _) _ _ _ _ _, .inr ⟨by decide, w2.heap.size, N2.out.lt, rfl, by
    have h := IBlk.zeros w2 2
    exact h.of_block (by rw [heap_setCell_other _ _ _ _ hne, heap_setCell_other _ _ _ _ hne, heap_setCell_other _ _ _ _ hne, heap_setCell_other _ _ _ _ hne, heap_setCell_other _ _ _ _ hne])⟩⟩

set_option maxHeartbeats 1600000 in
theorem cont_none (x : Value) (c : Int) (hA : isAsg c = false) (hI : isInc c = false) (h65 : ¬ c = 65) (h24 : ¬ c = 24) (hBB : operand.begins c = false) (HV : lv.opLevel c = 0) (w : World) : Calls Tryz.prog 113 #[x, .int .i64 c] w (Begun 0 0 0 .nilFunc w) := by
  obtain ⟨hb, hbel⟩ := begun_leaf w #[.int .i64 0, .int .i64 0, .string ⟨#[]⟩, .string ⟨#[]⟩, .slice none 0 0]
  have HN := Lib.hid hb
  have HBEL := Lib.hid hbel
  have HA := Lib.hid hA
  have HI := Lib.hid hI
  have HB := Lib.hid hBB
  obtain ⟨a65, b65⟩ := ne_facts (show ¬ c = 65 from h65)
  obtain ⟨a24, b24⟩ := ne_facts (show ¬ c = 24 from h24)
  clear hb hbel hA hI hBB h65 h24
  go_enter Tryz.func113, Tryz.ntmps113
  go_wp2_with (first | (go_at_call 93; refine (impl_isAsg _ _).mono ?_; rw [HA.out]; rintro e w1 ⟨rfl, rfl⟩) | (go_at_call 94; refine (impl_isInc _ _).mono ?_; rw [HI.out]; rintro e w1 ⟨rfl, rfl⟩) | (go_at_call 34; refine (operand.impl_begins _ _).mono ?_; rw [HB.out]; rintro e w1 ⟨rfl, rfl⟩) | (go_at_call 37; refine (lv.impl_op _ _).mono ?_; rw [HV]; rintro e w2 ⟨rfl, b2⟩; have N2 := Lib.hid (HN.out.keep b2); have B2 := Lib.hid (HBEL.out.trans (b2.mono HBEL.out.size)); have f0 := N2.out.f 0; have f1 := N2.out.f 1; have f2 := N2.out.f 2; have f3 := N2.out.f 3; have f4 := N2.out.f 4; obtain ⟨d0, d1, d2, d3, d4⟩ := N2.out.c5))
  have hF : Bk w.heap.size #[.int .i64 0, .int .i64 0, .string ⟨#[]⟩, .string ⟨#[]⟩, .slice none 0 0] 60 _ := (N2.out.put5 (.int .i64 0) (.int .i64 0) (.string ⟨#[]⟩) (.string ⟨#[]⟩) (.slice none 0 0))
  obtain ⟨t0, t1, t2, t3, t4⟩ := hF.c5
  exact bodyPost_ret (v := .tuple #[.agg #[.int .i64 0, .int .i64 0, .string ⟨#[]⟩, .string ⟨#[]⟩, .slice none 0 0], .nilFunc]) (by simp [results, Tryz.results113, go_sem, t0, t1, t2, t3, t4]) rfl ⟨.slice none 0 0, rfl, below_put5 B2.out (Nat.le_refl _) _ _ _ _ _, .inl ⟨rfl, rfl⟩⟩
/-- continued, whatever the kind. -/
theorem continued_any (x : Value) (c : Int) (w : World) : Calls Tryz.prog 113 #[x, .int .i64 c] w (Begun (ctK c) (ctO c) (knC c) (rdC x c) w) := by
  unfold rdC knC
  cases hA : isAsg c with
  | true =>
    obtain ⟨e1, e2, e3⟩ := asg_c hA
    rw [e1, e2, e3, if_pos rfl, if_neg (by decide)]
    exact cont_asg x c hA w
  | false =>
    rw [if_neg (show ¬ (false = true) by decide)]
    cases hI : isInc c with
    | true =>
      obtain ⟨e1, e2, e3⟩ := inc_c hI
      rw [e1, e2, e3, if_pos rfl, if_neg (by decide)]
      exact cont_inc x c hA hI w
    | false =>
      rw [if_neg (show ¬ (false = true) by decide)]
      by_cases h65 : c = 65
      · subst h65
        exact cont_quest x 65 rfl w
      rw [if_neg h65]
      by_cases h24 : c = 24
      · subst h24
        exact cont_in x 24 rfl w
      rw [if_neg h24]
      cases hB : operand.begins c with
      | true =>
        obtain ⟨e1, e2, e3, -⟩ := beg_c hB
        rw [e1, e2, e3, if_pos rfl, if_neg (by decide)]
        exact cont_cat x c hA hI h65 h24 hB w
      | false =>
        rw [if_neg (show ¬ (false = true) by decide)]
        by_cases hV : lv.opLevel c ≠ 0
        · obtain ⟨e1, e2, e3⟩ := op_c hV
          rw [e1, e2, e3, if_pos hV, if_neg (by decide)]
          exact cont_op x c hA hI h65 h24 hB hV w
        · have e1 : ctK c = 0 := by simp [ctK, hA, hI, h65, h24, hB, hV]
          have e2 : ctO c = 0 := by simp [ctO, hA, hI, h65, h24, hB, hV]
          rw [e1, e2, if_neg hV, if_pos rfl]
          exact cont_none x c hA hI h65 h24 hB (by simpa using hV) w
theorem begun_any (x : Value) (c : Int) (w : World) : Calls Tryz.prog 183 #[x, .int .i64 c] w (Begun (bgK c) (bgO c) (knB c) (rdB x c) w) := by
  by_cases h : c = 3 ∨ c = 4 ∨ c = 5 ∨ c = 6 ∨ c = 7 ∨ c = 8 ∨ c = 68 ∨ c = 51 ∨ c = 52 ∨ c = 55 ∨ c = 56 ∨ c = 61
  · rcases h with rfl | rfl | rfl | rfl | rfl | rfl | rfl | rfl | rfl | rfl | rfl | rfl
    · exact begun_3 x w
    · exact begun_4 x w
    · exact begun_5 x w
    · exact begun_6 x w
    · exact begun_7 x w
    · exact begun_8 x w
    · exact begun_68 x w
    · exact begun_51 x w
    · exact begun_52 x w
    · exact begun_55 x w
    · exact begun_56 x w
    · exact begun_61 x w
  · have e1 : bgK c = 0 := by unfold bgK; rw [if_neg (by omega), if_neg (by omega), if_neg (by omega), if_neg (by omega), if_neg (by omega), if_neg (by omega), if_neg (by omega), if_neg (by omega), if_neg (by omega)]
    have e2 : bgO c = 0 := by unfold bgO; rw [if_neg (by omega)]
    have e3 : knB c = 0 := by unfold knB; rw [if_neg (by omega)]
    have e4 : rdB x c = .nilFunc := by unfold rdB; rw [if_neg (by omega), if_neg (by omega), if_neg (by omega), if_neg (by omega), if_neg (by omega), if_neg (by omega)]
    rw [e1, e2, e3, e4]
    exact begun_none x c e1 w

set_option maxHeartbeats 1600000 in
theorem mbf_any (lv0 : Int) (tg : Bool) (c : Int) (ak : Option Addr) (nk ck : Nat) (p : Ps) (hn : nk = ctN c) (w : World) :
    Calls Tryz.prog 116 #[.agg #[.int .i64 lv0, .bool tg], .agg #[.int .i64 (ctK c), .int .i64 (ctO c), .string ⟨#[]⟩, .string ⟨#[]⟩, .slice ak nk ck], .agg #[.int .i64 p.l, .bool p.d, .bool p.i, .bool p.g, .bool p.s]] w fun e w' => e = .returned (.bool (may c lv0 tg p)) ∧ Below w.heap.size w w' := by
  obtain ⟨k, hk⟩ : ∃ k, ctK c = k := ⟨_, rfl⟩
  obtain ⟨op, hop⟩ : ∃ op, ctO c = op := ⟨_, rfl⟩
  have HMAY := Lib.hid (show may c lv0 tg p = if k = 15 ∨ k = 10 then tg else decide ((kidI k op nk 0 p.l p.d p.i p.g p.s).l ≤ lv0) by unfold may kq; rw [hk, hop, hn])
  rw [hk, hop]
  have hnb : nk ≤ 1048576 := by rw [hn]; unfold ctN; (repeat' split) <;> decide
  obtain ⟨W, hW⟩ : ∃ W, W = ((w.alloc (.cells #[.int .i64 lv0, .bool tg] 87)).alloc (.cells #[.int .i64 k, .int .i64 op, .string ⟨#[]⟩, .string ⟨#[]⟩, .slice ak nk ck] 60)).alloc (.cells #[.int .i64 p.l, .bool p.d, .bool p.i, .bool p.g, .bool p.s] 26) := ⟨_, rfl⟩
  have hB : Below w.heap.size w W := by rw [hW]; exact (((Below.refl _ _).alloc (Nat.le_refl _) _).alloc (by simp) _).alloc (by simp; omega) _
  have hO : Bk w.heap.size #[.int .i64 lv0, .bool tg] 87 W := by rw [hW]; exact ((Bk.new _ _ _).alloc _).alloc _
  have hN : Bk (w.heap.size + 1) #[.int .i64 k, .int .i64 op, .string ⟨#[]⟩, .string ⟨#[]⟩, .slice ak nk ck] 60 W := by
    rw [hW]
    have := (Bk.new (w.alloc (.cells #[.int .i64 lv0, .bool tg] 87)) #[.int .i64 k, .int .i64 op, .string ⟨#[]⟩, .string ⟨#[]⟩, .slice ak nk ck] 60).alloc (.cells #[.int .i64 p.l, .bool p.d, .bool p.i, .bool p.g, .bool p.s] 26)
    simpa using this
  have hP : Bk (w.heap.size + 1 + 1) #[.int .i64 p.l, .bool p.d, .bool p.i, .bool p.g, .bool p.s] 26 W := by
    rw [hW]
    have := Bk.new ((w.alloc (.cells #[.int .i64 lv0, .bool tg] 87)).alloc (.cells #[.int .i64 k, .int .i64 op, .string ⟨#[]⟩, .string ⟨#[]⟩, .slice ak nk ck] 60)) #[.int .i64 p.l, .bool p.d, .bool p.i, .bool p.g, .bool p.s] 26
    simpa using this
  obtain ⟨o0, o1⟩ := hO.c2
  obtain ⟨n0, n1, n2, n3, n4⟩ := hN.c5
  obtain ⟨p0, p1, p2, p3, p4⟩ := hP.c5
  have HB := Lib.hid hB
  have HO := Lib.hid hO
  have hfp := fld_p
  clear hB hO hN hP hn
  rw [hW] at o0 o1 n0 n1 n2 n3 n4 p0 p1 p2 p3 p4
  by_cases hkk : k = 15 ∨ k = 10
  · have HE := Lib.hid (show may c lv0 tg p = tg by rw [HMAY.out, if_pos hkk])
    clear hk hop
    rcases hkk with rfl | rfl
    all_goals
      go_enter Tryz.func116, Tryz.ntmps116
      go_wp2
      go_ret
      rw [← hW]
      exact ⟨by rw [HE.out]; rfl, HB.out⟩
  · obtain ⟨K, hK⟩ : ∃ K, (kidI k op nk 0 p.l p.d p.i p.g p.s).l = K := ⟨_, rfl⟩
    have HE := Lib.hid (show may c lv0 tg p = decide (K ≤ lv0) by rw [HMAY.out, if_neg hkk, hK])
    have HKP := Lib.hid (fun w2 => _root_.Go.Proofs.YtiilpnoaocfjgaaGreatDoor.ps.impl_kidPos k op ⟨#[]⟩ ⟨#[]⟩ ak nk ck 0 p.l p.d p.i p.g p.s w2 hnb)
    rw [hK] at HKP
    obtain ⟨a1, a2⟩ := ne_facts (show ¬ k = 15 from fun h => hkk (.inl h))
    obtain ⟨b1, b2⟩ := ne_facts (show ¬ k = 10 from fun h => hkk (.inr h))
    clear hk hop hkk hK
    go_enter Tryz.func116, Tryz.ntmps116
    go_wp2
    rw [← hW] at o0 o1 n0 n1 n2 n3 n4 p0 p1 p2 p3 p4 ⊢
    clear hW
    go_region_law (first | (go_simp; go_at_call 190; refine (HKP.out _).mono ?_; rintro e w5 ⟨rfl, b5⟩; obtain ⟨o0', o1'⟩ := (HO.out.keep (undrew b5)).c2; have B5 := HB.out.trans ((undrew b5).mono HB.out.size)))
    all_goals
      go_wp2
      go_ret
      exact ⟨by rw [HE.out]; first | rfl | (congr 2; simp), B5⟩
end
end Go.Proofs.YtiilpnoaocfjgaaGreatDoor.pr

namespace Go.Proofs.YtiilpnoaocfjgaaGreatDoor.pr
open Go.ChangeShapes Go.WideShapes Go.ChangeAt Go.RowKit
open tk (Tk)
open nd (Nd PT KidV IBlk OwnI shN makeT)
open ps (fits Ps B5 posOk kidI top)
open pe
set_option linter.unusedVariables false
set_option linter.unusedSimpArgs false
set_option maxRecDepth 20000

theorem resq0 {w0 : World} {a : Option Addr} {n cap : Nat} {zb : List Nd} {v0 v : Value} {z0 z : List (Nd × Value)} {r0 r : Nat → Nat} {ws w : World} {R : R} {e : Ending} {w' : World} {gR q i : Nat} (hq : ws.heap.size ≤ q ∨ q = w0.heap.size) (F : Fy w0 a n cap (X0 w0.heap.size) gR v0 z0 r0 ws i v z r w) (h : Res w0 a n cap zb (Xq w0.heap.size q) v z r w R e w') (hgq : gR ≠ q) (y0 y1 : Value) : Res w0 a n cap zb (X0 w0.heap.size) v0 z0 r0 ws R e ((w'.setCell ⟨gR, 0, none⟩ y0).setCell ⟨gR, 1, none⟩ y1) := by
  have m : Mb (Xq w0.heap.size q) w0.heap.size gR #[.int .i64 0, .bool false] 87 v z r w := ⟨F.rb.bk, fun hk => by rcases hk with h | h; exact F.rb.x h; exact hgq h, F.rb.b, F.rb.o, F.rb.r⟩
  exact (h.fin (F.tot.wide (fun k _ h => Or.inl h)) m F.ge y0 y1).wide fun k hk hx => by
    rcases hx with h1 | h1
    · exact h1
    · rcases hq with h2 | h2
      · omega
      · exact h1.trans h2
theorem resq0_bk {w0 : World} {a : Option Addr} {n cap : Nat} {zb : List Nd} {v0 v : Value} {z0 z : List (Nd × Value)} {r0 r : Nat → Nat} {ws w : World} {R : R} {e : Ending} {w' : World} {gR q i : Nat} (F : Fy w0 a n cap (X0 w0.heap.size) gR v0 z0 r0 ws i v z r w) (h : Res w0 a n cap zb (Xq w0.heap.size q) v z r w R e w') (hgq : gR ≠ q) : Bk gR #[.int .i64 0, .bool false] 87 w' :=
  h.bk F.rb.bk (fun hk => by rcases hk with h | h; exact F.rb.x h; exact hgq h) F.rb.o
/-- A new row, as the row of a node that is read. -/
theorem NewRow.rw {w0 : World} {a : Option Addr} {n cap i : Nat} {v : Value} {z : List (Nd × Value)} {r : Nat → Nat} {m : Nat} {u : Value} {w w' : World} (h : NewRow m u w w') (hm : 0 < m) (hm2 : m ≤ 10) (hst : St w0 a n cap i v z r w) : ∃ q, w.heap.size < q ∧ q < w'.heap.size ∧ u = .slice (some ⟨q, 0, none⟩) m m ∧ Rw w0.heap.size q u (zs m) v z r w' := by
  rcases h with ⟨h, -⟩ | ⟨-, q, h1, h2, h3⟩
  · omega
  · refine ⟨q, h1, h3.lt, h2, .inr ⟨.inr ⟨m, by rw [h2]; simp [zs], h3, by have := hst.lt; omega, by unfold maxLen; omega⟩, h3.lt, fun j hj => by have := hst.own.lt j hj; omega, fun e => hst.new (Nat.le_of_lt h1) e.symm, by have := hst.lt; omega⟩⟩
section
variable {w0 : World} {l : List Tk} {a : Option Addr} {cap i : Nat} {v : Value} {z : List (Nd × Value)} {r : Nat → Nat} {E : Ps → Nat → R} {M i0 : Nat}

set_option maxHeartbeats 6400000 in
theorem first_any (hE : CallE w0 a cap l E i0) (hOk : ∀ p i, i ≤ l.length → Ok M l i (E p i)) (p : Ps) (w : World) (h0 : i0 ≤ i + 1) (hi : i ≤ l.length) (hl : l.length ≤ 50000) (hc : tk.Lies w0.heap.size w0 a l) (hz : z.length + 2 * (l.length - i) ≤ 200000) (hst : St w0 a l.length cap i v z r w) :
    Calls Tryz.prog 112 #[.pointer (some ⟨w0.heap.size, 0, none⟩), .agg #[.int .i64 p.l, .bool p.d, .bool p.i, .bool p.g, .bool p.s]] w (Res w0 a l.length cap (z.map (·.1)) (X0 w0.heap.size) v z r w (first E l p i)) := by
  obtain ⟨W, hW⟩ : ∃ W, W = (w.alloc (.cells #[.int .i64 p.l, .bool p.d, .bool p.i, .bool p.g, .bool p.s] 26)).alloc (.cells #[.int .i64 0, .bool false] 87) := ⟨_, rfl⟩
  have hB : Below w.heap.size w W := by rw [hW]; exact ((Below.refl _ _).alloc (Nat.le_refl _) _).alloc (by simp) _
  have hPb : Bk w.heap.size #[.int .i64 p.l, .bool p.d, .bool p.i, .bool p.g, .bool p.s] 26 W := by rw [hW]; exact (Bk.new _ _ _).alloc _
  have hRb : Bk (w.heap.size + 1) #[.int .i64 0, .bool false] 87 W := by
    rw [hW]
    have := Bk.new (w.alloc (.cells #[.int .i64 p.l, .bool p.d, .bool p.i, .bool p.g, .bool p.s] 26)) #[.int .i64 0, .bool false] 87
    simpa using this
  have hlt := hst.lt
  have P0 := Lib.hid (Mb.new (X := X0 w0.heap.size) hst hPb (Nat.le_refl _) (by unfold X0; omega))
  have F0 := Lib.hid (show Fy w0 a l.length cap (X0 w0.heap.size) (w.heap.size + 1) v z r w i v z r W from ⟨hst.keep hB, Ext.of (Gr.quiet hB), Mb.new hst hRb (by omega) (by unfold X0; omega), by omega⟩)
  have HXB := Lib.hid (show X0 w0.heap.size w0.heap.size from rfl)
  have HC := Lib.hid hc
  have HL := Lib.hid hl
  have HI := Lib.hid hi
  have HZ := Lib.hid hz
  have HLT := Lib.hid hlt
  have HBW := Lib.hid hB.size
  have HNX := Lib.hid (next_any W F0.out.st hc (by omega) hi)
  have hfk := fld_k
  obtain ⟨c, hcc⟩ : ∃ c, kd l i = c := ⟨_, rfl⟩
  rw [hcc] at HNX
  have hzb0 : z.map (·.1) = z.map (·.1) ++ G1 (z.map (·.1)).length [] := by rw [G1_nil, List.append_nil]
  by_cases h32 : c = 32
  · subst h32
    rw [show first E l p i = group E l p i from by unfold first; rw [if_pos hcc]]
    have hi1 := kd_lt (l := l) (i := i) (by omega)
    have HGR := Lib.hid (fun W2 (s2 : St w0 a l.length cap i v z r W2) => group_any hE hOk p (z.map (·.1)) W2 h0 hi1 hl hc hz s2 rfl)
    clear hzb0 hcc hi1 hE hOk h0
    clear hst hB hPb hRb hz hi hl hc hlt
    go_enter Tryz.func112, Tryz.ntmps112
    go_wp2_with fail
    rw [← hW]
    clear hW
    refine HNX.out.mono ?_
    rintro e w1 ⟨rfl, b1⟩
    have F1 := Lib.hid (F0.out.quiet b1)
    have P1 := Lib.hid (P0.out.ext (Ext.of (Gr.quiet b1)))
    clear b1
    obtain ⟨p0, p1, p2, p3, p4⟩ := P1.out.bk.c5
    go_wp2_with fail
    clear p0 p1 p2 p3 p4
    refine (HGR.out _ F1.out.st).mono ?_
    rintro e w9 h9
    obtain ⟨rfl, hv9⟩ := id h9
    have H9 := Lib.hid h9
    have R9 := Lib.hid (F1.out.rbk h9)
    obtain ⟨r0, r1⟩ := R9.out.c2
    have g0 := R9.out.f 0
    have g1 := R9.out.f 1
    clear h9 hv9
    go_wp2
    obtain ⟨t0, t1⟩ := (R9.out.put2 (.int .i64 (lvR (group E l p i))) (.bool (tgR (group E l p i)))).c2
    exact bodyPost_ret (v := .agg #[.int .i64 (lvR (group E l p i)), .bool (tgR (group E l p i))]) (by simp [results, Tryz.results112, go_sem, t0, t1]) rfl ((F1.out.res H9.out _ _))
  have hfst : first E l p i = if ft (bgK c) (bgO c) p = true then bgR E l c p i else .bad i := by unfold first; rw [hcc, if_neg h32]
  rw [hfst]
  clear hfst
  obtain ⟨a32, b32⟩ := ne_facts h32
  by_cases hc3 : c = 3
  · subst hc3
    have hi1 := kd_lt (l := l) (i := i) (by omega)
    have HM := (fun W2 (s2 : St w0 a l.length cap i v z r W2) hq2 => word_any 2 0 ⟨#[]⟩ (z.map (·.1)) [] (.slice none 0 0) w0.heap.size p W2 hi1 hl hc (by omega) s2 hq2 (.inl ⟨rfl, rfl⟩) hzb0)
    rw [show bgR E l 3 p i = (pe.word l 2 i) from by simp [bgR]]
    have HM := Lib.hid HM
    rw [show bgK 3 = 2 from rfl, show bgO 3 = 0 from rfl]
    cases hft : ft 2 0 p with
    | false =>
      have HFT := Lib.hid (show fits 2 0 p.l p.d p.i p.g p.s = false from hft)
      rw [if_neg (by decide)]
      clear hzb0 hcc hi1 hE hOk h0 hft h32
      clear hst hB hPb hRb hz hi hl hc hlt
      go_enter Tryz.func112, Tryz.ntmps112
      go_wp2_with fail
      rw [← hW]
      clear hW
      refine HNX.out.mono ?_
      rintro e w1 ⟨rfl, b1⟩
      have F1 := Lib.hid (F0.out.quiet b1)
      have P1 := Lib.hid (P0.out.ext (Ext.of (Gr.quiet b1)))
      clear b1
      go_wp2_with fail
      refine (begun_3 _ _).mono ?_
      rintro e w2 ⟨u, rfl, b2, nr⟩
      have F2 := Lib.hid (F1.out.quiet b2)
      have P2 := Lib.hid (P1.out.ext (Ext.of (Gr.quiet b2)))
      rcases nr with ⟨-, rfl⟩ | ⟨hm, -⟩
      case inr => exact absurd hm (by decide)
      case inl =>
        clear b2
        have NB3 := Lib.hid (Bk.new w2 #[.int .i64 2, .int .i64 0, .string ⟨#[]⟩, .string ⟨#[]⟩, .slice none 0 0] 60)
        have B3 := Lib.hid (show Below w2.heap.size w2 (w2.alloc (.cells #[.int .i64 2, .int .i64 0, .string ⟨#[]⟩, .string ⟨#[]⟩, .slice none 0 0] 60)) from (Below.refl _ _).alloc (Nat.le_refl _) _)
        have F3 := Lib.hid (F2.out.quiet B3.out)
        have P3 := Lib.hid (P2.out.ext (Ext.of (Gr.quiet B3.out)))
        have N3 := Lib.hid (show Mb (X0 w0.heap.size) w0.heap.size w2.heap.size _ _ v z r _ from Mb.new F2.out.st NB3.out (Nat.le_refl _) (by have := F2.out.st.lt; unfold X0; omega))
        obtain ⟨p0, p1, p2, p3, p4⟩ := P3.out.bk.c5
        obtain ⟨n0, n1, n2, n3, n4⟩ := NB3.out.c5
        go_wp2_with fail
        clear p0 p1 p2 p3 p4 n0 n1 n2 n3 n4
        refine (_root_.Go.Proofs.YtiilpnoaocfjgaaGreatDoor.ps.impl_fits 2 0 p.l ⟨#[]⟩ ⟨#[]⟩ none 0 0 p.d p.i p.g p.s _).mono ?_
        rw [HFT.out]
        rintro e w4 ⟨rfl, b4⟩
        have F4 := Lib.hid (F3.out.quiet b4)
        have P4 := Lib.hid (P3.out.ext (Ext.of (Gr.quiet b4)))
        have N4 := Lib.hid (N3.out.ext (Ext.of (Gr.quiet b4)))
        clear b4
        obtain ⟨r0, r1⟩ := F4.out.rb.bk.c2
        have g0 := F4.out.rb.bk.f 0
        have g1 := F4.out.rb.bk.f 1
        go_wp2
        obtain ⟨t0, t1⟩ := (F4.out.rb.bk.put2 (.int .i64 0) (.bool false)).c2
        exact bodyPost_ret (v := .agg #[.int .i64 0, .bool false]) (by simp [results, Tryz.results112, go_sem, t0, t1]) rfl ((F4.out.bad _ _ rfl))
    | true =>
      have HFT := Lib.hid (show fits 2 0 p.l p.d p.i p.g p.s = true from hft)
      rw [if_pos rfl]
      clear hzb0 hcc hi1 hE hOk h0 hft h32
      clear hst hB hPb hRb hz hi hl hc hlt
      go_enter Tryz.func112, Tryz.ntmps112
      go_wp2_with fail
      rw [← hW]
      clear hW
      refine HNX.out.mono ?_
      rintro e w1 ⟨rfl, b1⟩
      have F1 := Lib.hid (F0.out.quiet b1)
      have P1 := Lib.hid (P0.out.ext (Ext.of (Gr.quiet b1)))
      clear b1
      go_wp2_with fail
      refine (begun_3 _ _).mono ?_
      rintro e w2 ⟨u, rfl, b2, nr⟩
      have F2 := Lib.hid (F1.out.quiet b2)
      have P2 := Lib.hid (P1.out.ext (Ext.of (Gr.quiet b2)))
      rcases nr with ⟨-, rfl⟩ | ⟨hm, -⟩
      case inr => exact absurd hm (by decide)
      case inl =>
        clear b2
        have NB3 := Lib.hid (Bk.new w2 #[.int .i64 2, .int .i64 0, .string ⟨#[]⟩, .string ⟨#[]⟩, .slice none 0 0] 60)
        have B3 := Lib.hid (show Below w2.heap.size w2 (w2.alloc (.cells #[.int .i64 2, .int .i64 0, .string ⟨#[]⟩, .string ⟨#[]⟩, .slice none 0 0] 60)) from (Below.refl _ _).alloc (Nat.le_refl _) _)
        have F3 := Lib.hid (F2.out.quiet B3.out)
        have P3 := Lib.hid (P2.out.ext (Ext.of (Gr.quiet B3.out)))
        have N3 := Lib.hid (show Mb (X0 w0.heap.size) w0.heap.size w2.heap.size _ _ v z r _ from Mb.new F2.out.st NB3.out (Nat.le_refl _) (by have := F2.out.st.lt; unfold X0; omega))
        obtain ⟨p0, p1, p2, p3, p4⟩ := P3.out.bk.c5
        obtain ⟨n0, n1, n2, n3, n4⟩ := NB3.out.c5
        go_wp2_with fail
        clear p0 p1 p2 p3 p4 n0 n1 n2 n3 n4
        refine (_root_.Go.Proofs.YtiilpnoaocfjgaaGreatDoor.ps.impl_fits 2 0 p.l ⟨#[]⟩ ⟨#[]⟩ none 0 0 p.d p.i p.g p.s _).mono ?_
        rw [HFT.out]
        rintro e w4 ⟨rfl, b4⟩
        have F4 := Lib.hid (F3.out.quiet b4)
        have P4 := Lib.hid (P3.out.ext (Ext.of (Gr.quiet b4)))
        have N4 := Lib.hid (N3.out.ext (Ext.of (Gr.quiet b4)))
        clear b4
        obtain ⟨p0, p1, p2, p3, p4⟩ := P4.out.bk.c5
        obtain ⟨n0, n1, n2, n3, n4⟩ := N4.out.bk.c5
        go_wp2_with fail
        clear p0 p1 p2 p3 p4 n0 n1 n2 n3 n4
        refine (show Calls _ _ _ _ (Res w0 a l.length cap (z.map (·.1)) (Xq w0.heap.size w0.heap.size) v z r w4 (pe.word l 2 i)) from HM.out _ F4.out.st F4.out.st.lt).mono ?_
        rintro e w9 h9
        obtain ⟨rfl, hv9⟩ := id h9
        have H9 := Lib.hid h9
        have R9 := Lib.hid (resq0_bk F4.out h9 (by have := HLT.out; omega))
        obtain ⟨r0, r1⟩ := R9.out.c2
        have g0 := R9.out.f 0
        have g1 := R9.out.f 1
        clear h9 hv9
        go_wp2
        obtain ⟨t0, t1⟩ := (R9.out.put2 (.int .i64 (lvR (pe.word l 2 i))) (.bool (tgR (pe.word l 2 i)))).c2
        exact bodyPost_ret (v := .agg #[.int .i64 (lvR (pe.word l 2 i)), .bool (tgR (pe.word l 2 i))]) (by simp [results, Tryz.results112, go_sem, t0, t1]) rfl (resq0 (.inr rfl) F4.out H9.out (by have := HLT.out; omega) _ _)
  by_cases hc4 : c = 4
  · subst hc4
    have hi1 := kd_lt (l := l) (i := i) (by omega)
    have HM := (fun W2 (s2 : St w0 a l.length cap i v z r W2) hq2 => word_any 3 0 ⟨#[]⟩ (z.map (·.1)) [] (.slice none 0 0) w0.heap.size p W2 hi1 hl hc (by omega) s2 hq2 (.inl ⟨rfl, rfl⟩) hzb0)
    rw [show bgR E l 4 p i = (pe.word l 3 i) from by simp [bgR]]
    have HM := Lib.hid HM
    rw [show bgK 4 = 3 from rfl, show bgO 4 = 0 from rfl]
    cases hft : ft 3 0 p with
    | false =>
      have HFT := Lib.hid (show fits 3 0 p.l p.d p.i p.g p.s = false from hft)
      rw [if_neg (by decide)]
      clear hzb0 hcc hi1 hE hOk h0 hft h32
      clear hst hB hPb hRb hz hi hl hc hlt
      go_enter Tryz.func112, Tryz.ntmps112
      go_wp2_with fail
      rw [← hW]
      clear hW
      refine HNX.out.mono ?_
      rintro e w1 ⟨rfl, b1⟩
      have F1 := Lib.hid (F0.out.quiet b1)
      have P1 := Lib.hid (P0.out.ext (Ext.of (Gr.quiet b1)))
      clear b1
      go_wp2_with fail
      refine (begun_4 _ _).mono ?_
      rintro e w2 ⟨u, rfl, b2, nr⟩
      have F2 := Lib.hid (F1.out.quiet b2)
      have P2 := Lib.hid (P1.out.ext (Ext.of (Gr.quiet b2)))
      rcases nr with ⟨-, rfl⟩ | ⟨hm, -⟩
      case inr => exact absurd hm (by decide)
      case inl =>
        clear b2
        have NB3 := Lib.hid (Bk.new w2 #[.int .i64 3, .int .i64 0, .string ⟨#[]⟩, .string ⟨#[]⟩, .slice none 0 0] 60)
        have B3 := Lib.hid (show Below w2.heap.size w2 (w2.alloc (.cells #[.int .i64 3, .int .i64 0, .string ⟨#[]⟩, .string ⟨#[]⟩, .slice none 0 0] 60)) from (Below.refl _ _).alloc (Nat.le_refl _) _)
        have F3 := Lib.hid (F2.out.quiet B3.out)
        have P3 := Lib.hid (P2.out.ext (Ext.of (Gr.quiet B3.out)))
        have N3 := Lib.hid (show Mb (X0 w0.heap.size) w0.heap.size w2.heap.size _ _ v z r _ from Mb.new F2.out.st NB3.out (Nat.le_refl _) (by have := F2.out.st.lt; unfold X0; omega))
        obtain ⟨p0, p1, p2, p3, p4⟩ := P3.out.bk.c5
        obtain ⟨n0, n1, n2, n3, n4⟩ := NB3.out.c5
        go_wp2_with fail
        clear p0 p1 p2 p3 p4 n0 n1 n2 n3 n4
        refine (_root_.Go.Proofs.YtiilpnoaocfjgaaGreatDoor.ps.impl_fits 3 0 p.l ⟨#[]⟩ ⟨#[]⟩ none 0 0 p.d p.i p.g p.s _).mono ?_
        rw [HFT.out]
        rintro e w4 ⟨rfl, b4⟩
        have F4 := Lib.hid (F3.out.quiet b4)
        have P4 := Lib.hid (P3.out.ext (Ext.of (Gr.quiet b4)))
        have N4 := Lib.hid (N3.out.ext (Ext.of (Gr.quiet b4)))
        clear b4
        obtain ⟨r0, r1⟩ := F4.out.rb.bk.c2
        have g0 := F4.out.rb.bk.f 0
        have g1 := F4.out.rb.bk.f 1
        go_wp2
        obtain ⟨t0, t1⟩ := (F4.out.rb.bk.put2 (.int .i64 0) (.bool false)).c2
        exact bodyPost_ret (v := .agg #[.int .i64 0, .bool false]) (by simp [results, Tryz.results112, go_sem, t0, t1]) rfl ((F4.out.bad _ _ rfl))
    | true =>
      have HFT := Lib.hid (show fits 3 0 p.l p.d p.i p.g p.s = true from hft)
      rw [if_pos rfl]
      clear hzb0 hcc hi1 hE hOk h0 hft h32
      clear hst hB hPb hRb hz hi hl hc hlt
      go_enter Tryz.func112, Tryz.ntmps112
      go_wp2_with fail
      rw [← hW]
      clear hW
      refine HNX.out.mono ?_
      rintro e w1 ⟨rfl, b1⟩
      have F1 := Lib.hid (F0.out.quiet b1)
      have P1 := Lib.hid (P0.out.ext (Ext.of (Gr.quiet b1)))
      clear b1
      go_wp2_with fail
      refine (begun_4 _ _).mono ?_
      rintro e w2 ⟨u, rfl, b2, nr⟩
      have F2 := Lib.hid (F1.out.quiet b2)
      have P2 := Lib.hid (P1.out.ext (Ext.of (Gr.quiet b2)))
      rcases nr with ⟨-, rfl⟩ | ⟨hm, -⟩
      case inr => exact absurd hm (by decide)
      case inl =>
        clear b2
        have NB3 := Lib.hid (Bk.new w2 #[.int .i64 3, .int .i64 0, .string ⟨#[]⟩, .string ⟨#[]⟩, .slice none 0 0] 60)
        have B3 := Lib.hid (show Below w2.heap.size w2 (w2.alloc (.cells #[.int .i64 3, .int .i64 0, .string ⟨#[]⟩, .string ⟨#[]⟩, .slice none 0 0] 60)) from (Below.refl _ _).alloc (Nat.le_refl _) _)
        have F3 := Lib.hid (F2.out.quiet B3.out)
        have P3 := Lib.hid (P2.out.ext (Ext.of (Gr.quiet B3.out)))
        have N3 := Lib.hid (show Mb (X0 w0.heap.size) w0.heap.size w2.heap.size _ _ v z r _ from Mb.new F2.out.st NB3.out (Nat.le_refl _) (by have := F2.out.st.lt; unfold X0; omega))
        obtain ⟨p0, p1, p2, p3, p4⟩ := P3.out.bk.c5
        obtain ⟨n0, n1, n2, n3, n4⟩ := NB3.out.c5
        go_wp2_with fail
        clear p0 p1 p2 p3 p4 n0 n1 n2 n3 n4
        refine (_root_.Go.Proofs.YtiilpnoaocfjgaaGreatDoor.ps.impl_fits 3 0 p.l ⟨#[]⟩ ⟨#[]⟩ none 0 0 p.d p.i p.g p.s _).mono ?_
        rw [HFT.out]
        rintro e w4 ⟨rfl, b4⟩
        have F4 := Lib.hid (F3.out.quiet b4)
        have P4 := Lib.hid (P3.out.ext (Ext.of (Gr.quiet b4)))
        have N4 := Lib.hid (N3.out.ext (Ext.of (Gr.quiet b4)))
        clear b4
        obtain ⟨p0, p1, p2, p3, p4⟩ := P4.out.bk.c5
        obtain ⟨n0, n1, n2, n3, n4⟩ := N4.out.bk.c5
        go_wp2_with fail
        clear p0 p1 p2 p3 p4 n0 n1 n2 n3 n4
        refine (show Calls _ _ _ _ (Res w0 a l.length cap (z.map (·.1)) (Xq w0.heap.size w0.heap.size) v z r w4 (pe.word l 3 i)) from HM.out _ F4.out.st F4.out.st.lt).mono ?_
        rintro e w9 h9
        obtain ⟨rfl, hv9⟩ := id h9
        have H9 := Lib.hid h9
        have R9 := Lib.hid (resq0_bk F4.out h9 (by have := HLT.out; omega))
        obtain ⟨r0, r1⟩ := R9.out.c2
        have g0 := R9.out.f 0
        have g1 := R9.out.f 1
        clear h9 hv9
        go_wp2
        obtain ⟨t0, t1⟩ := (R9.out.put2 (.int .i64 (lvR (pe.word l 3 i))) (.bool (tgR (pe.word l 3 i)))).c2
        exact bodyPost_ret (v := .agg #[.int .i64 (lvR (pe.word l 3 i)), .bool (tgR (pe.word l 3 i))]) (by simp [results, Tryz.results112, go_sem, t0, t1]) rfl (resq0 (.inr rfl) F4.out H9.out (by have := HLT.out; omega) _ _)
  by_cases hc5 : c = 5
  · subst hc5
    have hi1 := kd_lt (l := l) (i := i) (by omega)
    have HM := (fun W2 (s2 : St w0 a l.length cap i v z r W2) hq2 => word_any 4 0 ⟨#[]⟩ (z.map (·.1)) [] (.slice none 0 0) w0.heap.size p W2 hi1 hl hc (by omega) s2 hq2 (.inl ⟨rfl, rfl⟩) hzb0)
    rw [show bgR E l 5 p i = (pe.word l 4 i) from by simp [bgR]]
    have HM := Lib.hid HM
    rw [show bgK 5 = 4 from rfl, show bgO 5 = 0 from rfl]
    cases hft : ft 4 0 p with
    | false =>
      have HFT := Lib.hid (show fits 4 0 p.l p.d p.i p.g p.s = false from hft)
      rw [if_neg (by decide)]
      clear hzb0 hcc hi1 hE hOk h0 hft h32
      clear hst hB hPb hRb hz hi hl hc hlt
      go_enter Tryz.func112, Tryz.ntmps112
      go_wp2_with fail
      rw [← hW]
      clear hW
      refine HNX.out.mono ?_
      rintro e w1 ⟨rfl, b1⟩
      have F1 := Lib.hid (F0.out.quiet b1)
      have P1 := Lib.hid (P0.out.ext (Ext.of (Gr.quiet b1)))
      clear b1
      go_wp2_with fail
      refine (begun_5 _ _).mono ?_
      rintro e w2 ⟨u, rfl, b2, nr⟩
      have F2 := Lib.hid (F1.out.quiet b2)
      have P2 := Lib.hid (P1.out.ext (Ext.of (Gr.quiet b2)))
      rcases nr with ⟨-, rfl⟩ | ⟨hm, -⟩
      case inr => exact absurd hm (by decide)
      case inl =>
        clear b2
        have NB3 := Lib.hid (Bk.new w2 #[.int .i64 4, .int .i64 0, .string ⟨#[]⟩, .string ⟨#[]⟩, .slice none 0 0] 60)
        have B3 := Lib.hid (show Below w2.heap.size w2 (w2.alloc (.cells #[.int .i64 4, .int .i64 0, .string ⟨#[]⟩, .string ⟨#[]⟩, .slice none 0 0] 60)) from (Below.refl _ _).alloc (Nat.le_refl _) _)
        have F3 := Lib.hid (F2.out.quiet B3.out)
        have P3 := Lib.hid (P2.out.ext (Ext.of (Gr.quiet B3.out)))
        have N3 := Lib.hid (show Mb (X0 w0.heap.size) w0.heap.size w2.heap.size _ _ v z r _ from Mb.new F2.out.st NB3.out (Nat.le_refl _) (by have := F2.out.st.lt; unfold X0; omega))
        obtain ⟨p0, p1, p2, p3, p4⟩ := P3.out.bk.c5
        obtain ⟨n0, n1, n2, n3, n4⟩ := NB3.out.c5
        go_wp2_with fail
        clear p0 p1 p2 p3 p4 n0 n1 n2 n3 n4
        refine (_root_.Go.Proofs.YtiilpnoaocfjgaaGreatDoor.ps.impl_fits 4 0 p.l ⟨#[]⟩ ⟨#[]⟩ none 0 0 p.d p.i p.g p.s _).mono ?_
        rw [HFT.out]
        rintro e w4 ⟨rfl, b4⟩
        have F4 := Lib.hid (F3.out.quiet b4)
        have P4 := Lib.hid (P3.out.ext (Ext.of (Gr.quiet b4)))
        have N4 := Lib.hid (N3.out.ext (Ext.of (Gr.quiet b4)))
        clear b4
        obtain ⟨r0, r1⟩ := F4.out.rb.bk.c2
        have g0 := F4.out.rb.bk.f 0
        have g1 := F4.out.rb.bk.f 1
        go_wp2
        obtain ⟨t0, t1⟩ := (F4.out.rb.bk.put2 (.int .i64 0) (.bool false)).c2
        exact bodyPost_ret (v := .agg #[.int .i64 0, .bool false]) (by simp [results, Tryz.results112, go_sem, t0, t1]) rfl ((F4.out.bad _ _ rfl))
    | true =>
      have HFT := Lib.hid (show fits 4 0 p.l p.d p.i p.g p.s = true from hft)
      rw [if_pos rfl]
      clear hzb0 hcc hi1 hE hOk h0 hft h32
      clear hst hB hPb hRb hz hi hl hc hlt
      go_enter Tryz.func112, Tryz.ntmps112
      go_wp2_with fail
      rw [← hW]
      clear hW
      refine HNX.out.mono ?_
      rintro e w1 ⟨rfl, b1⟩
      have F1 := Lib.hid (F0.out.quiet b1)
      have P1 := Lib.hid (P0.out.ext (Ext.of (Gr.quiet b1)))
      clear b1
      go_wp2_with fail
      refine (begun_5 _ _).mono ?_
      rintro e w2 ⟨u, rfl, b2, nr⟩
      have F2 := Lib.hid (F1.out.quiet b2)
      have P2 := Lib.hid (P1.out.ext (Ext.of (Gr.quiet b2)))
      rcases nr with ⟨-, rfl⟩ | ⟨hm, -⟩
      case inr => exact absurd hm (by decide)
      case inl =>
        clear b2
        have NB3 := Lib.hid (Bk.new w2 #[.int .i64 4, .int .i64 0, .string ⟨#[]⟩, .string ⟨#[]⟩, .slice none 0 0] 60)
        have B3 := Lib.hid (show Below w2.heap.size w2 (w2.alloc (.cells #[.int .i64 4, .int .i64 0, .string ⟨#[]⟩, .string ⟨#[]⟩, .slice none 0 0] 60)) from (Below.refl _ _).alloc (Nat.le_refl _) _)
        have F3 := Lib.hid (F2.out.quiet B3.out)
        have P3 := Lib.hid (P2.out.ext (Ext.of (Gr.quiet B3.out)))
        have N3 := Lib.hid (show Mb (X0 w0.heap.size) w0.heap.size w2.heap.size _ _ v z r _ from Mb.new F2.out.st NB3.out (Nat.le_refl _) (by have := F2.out.st.lt; unfold X0; omega))
        obtain ⟨p0, p1, p2, p3, p4⟩ := P3.out.bk.c5
        obtain ⟨n0, n1, n2, n3, n4⟩ := NB3.out.c5
        go_wp2_with fail
        clear p0 p1 p2 p3 p4 n0 n1 n2 n3 n4
        refine (_root_.Go.Proofs.YtiilpnoaocfjgaaGreatDoor.ps.impl_fits 4 0 p.l ⟨#[]⟩ ⟨#[]⟩ none 0 0 p.d p.i p.g p.s _).mono ?_
        rw [HFT.out]
        rintro e w4 ⟨rfl, b4⟩
        have F4 := Lib.hid (F3.out.quiet b4)
        have P4 := Lib.hid (P3.out.ext (Ext.of (Gr.quiet b4)))
        have N4 := Lib.hid (N3.out.ext (Ext.of (Gr.quiet b4)))
        clear b4
        obtain ⟨p0, p1, p2, p3, p4⟩ := P4.out.bk.c5
        obtain ⟨n0, n1, n2, n3, n4⟩ := N4.out.bk.c5
        go_wp2_with fail
        clear p0 p1 p2 p3 p4 n0 n1 n2 n3 n4
        refine (show Calls _ _ _ _ (Res w0 a l.length cap (z.map (·.1)) (Xq w0.heap.size w0.heap.size) v z r w4 (pe.word l 4 i)) from HM.out _ F4.out.st F4.out.st.lt).mono ?_
        rintro e w9 h9
        obtain ⟨rfl, hv9⟩ := id h9
        have H9 := Lib.hid h9
        have R9 := Lib.hid (resq0_bk F4.out h9 (by have := HLT.out; omega))
        obtain ⟨r0, r1⟩ := R9.out.c2
        have g0 := R9.out.f 0
        have g1 := R9.out.f 1
        clear h9 hv9
        go_wp2
        obtain ⟨t0, t1⟩ := (R9.out.put2 (.int .i64 (lvR (pe.word l 4 i))) (.bool (tgR (pe.word l 4 i)))).c2
        exact bodyPost_ret (v := .agg #[.int .i64 (lvR (pe.word l 4 i)), .bool (tgR (pe.word l 4 i))]) (by simp [results, Tryz.results112, go_sem, t0, t1]) rfl (resq0 (.inr rfl) F4.out H9.out (by have := HLT.out; omega) _ _)
  by_cases hc6 : c = 6
  · subst hc6
    have hi1 := kd_lt (l := l) (i := i) (by omega)
    have HM := (fun W2 (s2 : St w0 a l.length cap i v z r W2) => name_any hE hOk ⟨#[]⟩ (z.map (·.1)) p W2 h0 hi1 hl hc hz s2 rfl)
    rw [show bgR E l 6 p i = (if kd l (i + 1) = 34 then listed E l 5 34 35 i else pe.word l 1 i) from by simp [bgR]]
    obtain ⟨RR, hRR⟩ : ∃ RR, (if kd l (i + 1) = 34 then listed E l 5 34 35 i else pe.word l 1 i) = RR := ⟨_, rfl⟩
    simp only [hRR] at HM
    rw [hRR]
    have HM := Lib.hid HM
    clear hRR
    rw [show bgK 6 = 1 from rfl, show bgO 6 = 0 from rfl]
    cases hft : ft 1 0 p with
    | false =>
      have HFT := Lib.hid (show fits 1 0 p.l p.d p.i p.g p.s = false from hft)
      rw [if_neg (by decide)]
      clear hzb0 hcc hi1 hE hOk h0 hft h32
      clear hst hB hPb hRb hz hi hl hc hlt
      go_enter Tryz.func112, Tryz.ntmps112
      go_wp2_with fail
      rw [← hW]
      clear hW
      refine HNX.out.mono ?_
      rintro e w1 ⟨rfl, b1⟩
      have F1 := Lib.hid (F0.out.quiet b1)
      have P1 := Lib.hid (P0.out.ext (Ext.of (Gr.quiet b1)))
      clear b1
      go_wp2_with fail
      refine (begun_6 _ _).mono ?_
      rintro e w2 ⟨u, rfl, b2, nr⟩
      have F2 := Lib.hid (F1.out.quiet b2)
      have P2 := Lib.hid (P1.out.ext (Ext.of (Gr.quiet b2)))
      rcases nr with ⟨-, rfl⟩ | ⟨hm, -⟩
      case inr => exact absurd hm (by decide)
      case inl =>
        clear b2
        have NB3 := Lib.hid (Bk.new w2 #[.int .i64 1, .int .i64 0, .string ⟨#[]⟩, .string ⟨#[]⟩, .slice none 0 0] 60)
        have B3 := Lib.hid (show Below w2.heap.size w2 (w2.alloc (.cells #[.int .i64 1, .int .i64 0, .string ⟨#[]⟩, .string ⟨#[]⟩, .slice none 0 0] 60)) from (Below.refl _ _).alloc (Nat.le_refl _) _)
        have F3 := Lib.hid (F2.out.quiet B3.out)
        have P3 := Lib.hid (P2.out.ext (Ext.of (Gr.quiet B3.out)))
        have N3 := Lib.hid (show Mb (X0 w0.heap.size) w0.heap.size w2.heap.size _ _ v z r _ from Mb.new F2.out.st NB3.out (Nat.le_refl _) (by have := F2.out.st.lt; unfold X0; omega))
        obtain ⟨p0, p1, p2, p3, p4⟩ := P3.out.bk.c5
        obtain ⟨n0, n1, n2, n3, n4⟩ := NB3.out.c5
        go_wp2_with fail
        clear p0 p1 p2 p3 p4 n0 n1 n2 n3 n4
        refine (_root_.Go.Proofs.YtiilpnoaocfjgaaGreatDoor.ps.impl_fits 1 0 p.l ⟨#[]⟩ ⟨#[]⟩ none 0 0 p.d p.i p.g p.s _).mono ?_
        rw [HFT.out]
        rintro e w4 ⟨rfl, b4⟩
        have F4 := Lib.hid (F3.out.quiet b4)
        have P4 := Lib.hid (P3.out.ext (Ext.of (Gr.quiet b4)))
        have N4 := Lib.hid (N3.out.ext (Ext.of (Gr.quiet b4)))
        clear b4
        obtain ⟨r0, r1⟩ := F4.out.rb.bk.c2
        have g0 := F4.out.rb.bk.f 0
        have g1 := F4.out.rb.bk.f 1
        go_wp2
        obtain ⟨t0, t1⟩ := (F4.out.rb.bk.put2 (.int .i64 0) (.bool false)).c2
        exact bodyPost_ret (v := .agg #[.int .i64 0, .bool false]) (by simp [results, Tryz.results112, go_sem, t0, t1]) rfl ((F4.out.bad _ _ rfl))
    | true =>
      have HFT := Lib.hid (show fits 1 0 p.l p.d p.i p.g p.s = true from hft)
      rw [if_pos rfl]
      clear hzb0 hcc hi1 hE hOk h0 hft h32
      clear hst hB hPb hRb hz hi hl hc hlt
      go_enter Tryz.func112, Tryz.ntmps112
      go_wp2_with fail
      rw [← hW]
      clear hW
      refine HNX.out.mono ?_
      rintro e w1 ⟨rfl, b1⟩
      have F1 := Lib.hid (F0.out.quiet b1)
      have P1 := Lib.hid (P0.out.ext (Ext.of (Gr.quiet b1)))
      clear b1
      go_wp2_with fail
      refine (begun_6 _ _).mono ?_
      rintro e w2 ⟨u, rfl, b2, nr⟩
      have F2 := Lib.hid (F1.out.quiet b2)
      have P2 := Lib.hid (P1.out.ext (Ext.of (Gr.quiet b2)))
      rcases nr with ⟨-, rfl⟩ | ⟨hm, -⟩
      case inr => exact absurd hm (by decide)
      case inl =>
        clear b2
        have NB3 := Lib.hid (Bk.new w2 #[.int .i64 1, .int .i64 0, .string ⟨#[]⟩, .string ⟨#[]⟩, .slice none 0 0] 60)
        have B3 := Lib.hid (show Below w2.heap.size w2 (w2.alloc (.cells #[.int .i64 1, .int .i64 0, .string ⟨#[]⟩, .string ⟨#[]⟩, .slice none 0 0] 60)) from (Below.refl _ _).alloc (Nat.le_refl _) _)
        have F3 := Lib.hid (F2.out.quiet B3.out)
        have P3 := Lib.hid (P2.out.ext (Ext.of (Gr.quiet B3.out)))
        have N3 := Lib.hid (show Mb (X0 w0.heap.size) w0.heap.size w2.heap.size _ _ v z r _ from Mb.new F2.out.st NB3.out (Nat.le_refl _) (by have := F2.out.st.lt; unfold X0; omega))
        obtain ⟨p0, p1, p2, p3, p4⟩ := P3.out.bk.c5
        obtain ⟨n0, n1, n2, n3, n4⟩ := NB3.out.c5
        go_wp2_with fail
        clear p0 p1 p2 p3 p4 n0 n1 n2 n3 n4
        refine (_root_.Go.Proofs.YtiilpnoaocfjgaaGreatDoor.ps.impl_fits 1 0 p.l ⟨#[]⟩ ⟨#[]⟩ none 0 0 p.d p.i p.g p.s _).mono ?_
        rw [HFT.out]
        rintro e w4 ⟨rfl, b4⟩
        have F4 := Lib.hid (F3.out.quiet b4)
        have P4 := Lib.hid (P3.out.ext (Ext.of (Gr.quiet b4)))
        have N4 := Lib.hid (N3.out.ext (Ext.of (Gr.quiet b4)))
        clear b4
        obtain ⟨p0, p1, p2, p3, p4⟩ := P4.out.bk.c5
        obtain ⟨n0, n1, n2, n3, n4⟩ := N4.out.bk.c5
        go_wp2_with fail
        clear p0 p1 p2 p3 p4 n0 n1 n2 n3 n4
        refine (HM.out _ F4.out.st).mono ?_
        rintro e w9 h9
        obtain ⟨rfl, hv9⟩ := id h9
        have H9 := Lib.hid h9
        have R9 := Lib.hid (F4.out.rbk h9)
        obtain ⟨r0, r1⟩ := R9.out.c2
        have g0 := R9.out.f 0
        have g1 := R9.out.f 1
        clear h9 hv9
        go_wp2
        obtain ⟨t0, t1⟩ := (R9.out.put2 (.int .i64 (lvR RR)) (.bool (tgR RR))).c2
        exact bodyPost_ret (v := .agg #[.int .i64 (lvR RR), .bool (tgR RR)]) (by simp [results, Tryz.results112, go_sem, t0, t1]) rfl ((F4.out.res H9.out _ _))
  by_cases hc7 : c = 7
  · subst hc7
    have hi1 := kd_lt (l := l) (i := i) (by omega)
    have HM := (fun W2 (s2 : St w0 a l.length cap i v z r W2) => call_any hE hOk 7 ⟨#[]⟩ (z.map (·.1)) p W2 h0 hi1 hl hc hz s2 rfl)
    rw [show bgR E l 7 p i = (listed E l 7 32 33 i) from by simp [bgR]]
    have HM := Lib.hid HM
    rw [show bgK 7 = 7 from rfl, show bgO 7 = 0 from rfl]
    cases hft : ft 7 0 p with
    | false =>
      have HFT := Lib.hid (show fits 7 0 p.l p.d p.i p.g p.s = false from hft)
      rw [if_neg (by decide)]
      clear hzb0 hcc hi1 hE hOk h0 hft h32
      clear hst hB hPb hRb hz hi hl hc hlt
      go_enter Tryz.func112, Tryz.ntmps112
      go_wp2_with fail
      rw [← hW]
      clear hW
      refine HNX.out.mono ?_
      rintro e w1 ⟨rfl, b1⟩
      have F1 := Lib.hid (F0.out.quiet b1)
      have P1 := Lib.hid (P0.out.ext (Ext.of (Gr.quiet b1)))
      clear b1
      go_wp2_with fail
      refine (begun_7 _ _).mono ?_
      rintro e w2 ⟨u, rfl, b2, nr⟩
      have F2 := Lib.hid (F1.out.quiet b2)
      have P2 := Lib.hid (P1.out.ext (Ext.of (Gr.quiet b2)))
      rcases nr with ⟨-, rfl⟩ | ⟨hm, -⟩
      case inr => exact absurd hm (by decide)
      case inl =>
        clear b2
        have NB3 := Lib.hid (Bk.new w2 #[.int .i64 7, .int .i64 0, .string ⟨#[]⟩, .string ⟨#[]⟩, .slice none 0 0] 60)
        have B3 := Lib.hid (show Below w2.heap.size w2 (w2.alloc (.cells #[.int .i64 7, .int .i64 0, .string ⟨#[]⟩, .string ⟨#[]⟩, .slice none 0 0] 60)) from (Below.refl _ _).alloc (Nat.le_refl _) _)
        have F3 := Lib.hid (F2.out.quiet B3.out)
        have P3 := Lib.hid (P2.out.ext (Ext.of (Gr.quiet B3.out)))
        have N3 := Lib.hid (show Mb (X0 w0.heap.size) w0.heap.size w2.heap.size _ _ v z r _ from Mb.new F2.out.st NB3.out (Nat.le_refl _) (by have := F2.out.st.lt; unfold X0; omega))
        obtain ⟨p0, p1, p2, p3, p4⟩ := P3.out.bk.c5
        obtain ⟨n0, n1, n2, n3, n4⟩ := NB3.out.c5
        go_wp2_with fail
        clear p0 p1 p2 p3 p4 n0 n1 n2 n3 n4
        refine (_root_.Go.Proofs.YtiilpnoaocfjgaaGreatDoor.ps.impl_fits 7 0 p.l ⟨#[]⟩ ⟨#[]⟩ none 0 0 p.d p.i p.g p.s _).mono ?_
        rw [HFT.out]
        rintro e w4 ⟨rfl, b4⟩
        have F4 := Lib.hid (F3.out.quiet b4)
        have P4 := Lib.hid (P3.out.ext (Ext.of (Gr.quiet b4)))
        have N4 := Lib.hid (N3.out.ext (Ext.of (Gr.quiet b4)))
        clear b4
        obtain ⟨r0, r1⟩ := F4.out.rb.bk.c2
        have g0 := F4.out.rb.bk.f 0
        have g1 := F4.out.rb.bk.f 1
        go_wp2
        obtain ⟨t0, t1⟩ := (F4.out.rb.bk.put2 (.int .i64 0) (.bool false)).c2
        exact bodyPost_ret (v := .agg #[.int .i64 0, .bool false]) (by simp [results, Tryz.results112, go_sem, t0, t1]) rfl ((F4.out.bad _ _ rfl))
    | true =>
      have HFT := Lib.hid (show fits 7 0 p.l p.d p.i p.g p.s = true from hft)
      rw [if_pos rfl]
      clear hzb0 hcc hi1 hE hOk h0 hft h32
      clear hst hB hPb hRb hz hi hl hc hlt
      go_enter Tryz.func112, Tryz.ntmps112
      go_wp2_with fail
      rw [← hW]
      clear hW
      refine HNX.out.mono ?_
      rintro e w1 ⟨rfl, b1⟩
      have F1 := Lib.hid (F0.out.quiet b1)
      have P1 := Lib.hid (P0.out.ext (Ext.of (Gr.quiet b1)))
      clear b1
      go_wp2_with fail
      refine (begun_7 _ _).mono ?_
      rintro e w2 ⟨u, rfl, b2, nr⟩
      have F2 := Lib.hid (F1.out.quiet b2)
      have P2 := Lib.hid (P1.out.ext (Ext.of (Gr.quiet b2)))
      rcases nr with ⟨-, rfl⟩ | ⟨hm, -⟩
      case inr => exact absurd hm (by decide)
      case inl =>
        clear b2
        have NB3 := Lib.hid (Bk.new w2 #[.int .i64 7, .int .i64 0, .string ⟨#[]⟩, .string ⟨#[]⟩, .slice none 0 0] 60)
        have B3 := Lib.hid (show Below w2.heap.size w2 (w2.alloc (.cells #[.int .i64 7, .int .i64 0, .string ⟨#[]⟩, .string ⟨#[]⟩, .slice none 0 0] 60)) from (Below.refl _ _).alloc (Nat.le_refl _) _)
        have F3 := Lib.hid (F2.out.quiet B3.out)
        have P3 := Lib.hid (P2.out.ext (Ext.of (Gr.quiet B3.out)))
        have N3 := Lib.hid (show Mb (X0 w0.heap.size) w0.heap.size w2.heap.size _ _ v z r _ from Mb.new F2.out.st NB3.out (Nat.le_refl _) (by have := F2.out.st.lt; unfold X0; omega))
        obtain ⟨p0, p1, p2, p3, p4⟩ := P3.out.bk.c5
        obtain ⟨n0, n1, n2, n3, n4⟩ := NB3.out.c5
        go_wp2_with fail
        clear p0 p1 p2 p3 p4 n0 n1 n2 n3 n4
        refine (_root_.Go.Proofs.YtiilpnoaocfjgaaGreatDoor.ps.impl_fits 7 0 p.l ⟨#[]⟩ ⟨#[]⟩ none 0 0 p.d p.i p.g p.s _).mono ?_
        rw [HFT.out]
        rintro e w4 ⟨rfl, b4⟩
        have F4 := Lib.hid (F3.out.quiet b4)
        have P4 := Lib.hid (P3.out.ext (Ext.of (Gr.quiet b4)))
        have N4 := Lib.hid (N3.out.ext (Ext.of (Gr.quiet b4)))
        clear b4
        obtain ⟨p0, p1, p2, p3, p4⟩ := P4.out.bk.c5
        obtain ⟨n0, n1, n2, n3, n4⟩ := N4.out.bk.c5
        go_wp2_with fail
        clear p0 p1 p2 p3 p4 n0 n1 n2 n3 n4
        refine (HM.out _ F4.out.st).mono ?_
        rintro e w9 h9
        obtain ⟨rfl, hv9⟩ := id h9
        have H9 := Lib.hid h9
        have R9 := Lib.hid (F4.out.rbk h9)
        obtain ⟨r0, r1⟩ := R9.out.c2
        have g0 := R9.out.f 0
        have g1 := R9.out.f 1
        clear h9 hv9
        go_wp2
        obtain ⟨t0, t1⟩ := (R9.out.put2 (.int .i64 (lvR (listed E l 7 32 33 i))) (.bool (tgR (listed E l 7 32 33 i)))).c2
        exact bodyPost_ret (v := .agg #[.int .i64 (lvR (listed E l 7 32 33 i)), .bool (tgR (listed E l 7 32 33 i))]) (by simp [results, Tryz.results112, go_sem, t0, t1]) rfl ((F4.out.res H9.out _ _))
  by_cases hc8 : c = 8
  · subst hc8
    have hi1 := kd_lt (l := l) (i := i) (by omega)
    have HM := (fun W2 (s2 : St w0 a l.length cap i v z r W2) => builtin_any hE hOk ⟨#[]⟩ (z.map (·.1)) p W2 h0 hi1 hl hc hz s2 rfl)
    rw [show bgR E l 8 p i = (if isLen (tx l i) = true ∧ ¬ kd l (i + 1) = 32 then pe.word l 8 i else listed E l 8 32 33 i) from by simp [bgR]]
    obtain ⟨RR, hRR⟩ : ∃ RR, (if isLen (tx l i) = true ∧ ¬ kd l (i + 1) = 32 then pe.word l 8 i else listed E l 8 32 33 i) = RR := ⟨_, rfl⟩
    simp only [hRR] at HM
    rw [hRR]
    have HM := Lib.hid HM
    clear hRR
    rw [show bgK 8 = 8 from rfl, show bgO 8 = 0 from rfl]
    cases hft : ft 8 0 p with
    | false =>
      have HFT := Lib.hid (show fits 8 0 p.l p.d p.i p.g p.s = false from hft)
      rw [if_neg (by decide)]
      clear hzb0 hcc hi1 hE hOk h0 hft h32
      clear hst hB hPb hRb hz hi hl hc hlt
      go_enter Tryz.func112, Tryz.ntmps112
      go_wp2_with fail
      rw [← hW]
      clear hW
      refine HNX.out.mono ?_
      rintro e w1 ⟨rfl, b1⟩
      have F1 := Lib.hid (F0.out.quiet b1)
      have P1 := Lib.hid (P0.out.ext (Ext.of (Gr.quiet b1)))
      clear b1
      go_wp2_with fail
      refine (begun_8 _ _).mono ?_
      rintro e w2 ⟨u, rfl, b2, nr⟩
      have F2 := Lib.hid (F1.out.quiet b2)
      have P2 := Lib.hid (P1.out.ext (Ext.of (Gr.quiet b2)))
      rcases nr with ⟨-, rfl⟩ | ⟨hm, -⟩
      case inr => exact absurd hm (by decide)
      case inl =>
        clear b2
        have NB3 := Lib.hid (Bk.new w2 #[.int .i64 8, .int .i64 0, .string ⟨#[]⟩, .string ⟨#[]⟩, .slice none 0 0] 60)
        have B3 := Lib.hid (show Below w2.heap.size w2 (w2.alloc (.cells #[.int .i64 8, .int .i64 0, .string ⟨#[]⟩, .string ⟨#[]⟩, .slice none 0 0] 60)) from (Below.refl _ _).alloc (Nat.le_refl _) _)
        have F3 := Lib.hid (F2.out.quiet B3.out)
        have P3 := Lib.hid (P2.out.ext (Ext.of (Gr.quiet B3.out)))
        have N3 := Lib.hid (show Mb (X0 w0.heap.size) w0.heap.size w2.heap.size _ _ v z r _ from Mb.new F2.out.st NB3.out (Nat.le_refl _) (by have := F2.out.st.lt; unfold X0; omega))
        obtain ⟨p0, p1, p2, p3, p4⟩ := P3.out.bk.c5
        obtain ⟨n0, n1, n2, n3, n4⟩ := NB3.out.c5
        go_wp2_with fail
        clear p0 p1 p2 p3 p4 n0 n1 n2 n3 n4
        refine (_root_.Go.Proofs.YtiilpnoaocfjgaaGreatDoor.ps.impl_fits 8 0 p.l ⟨#[]⟩ ⟨#[]⟩ none 0 0 p.d p.i p.g p.s _).mono ?_
        rw [HFT.out]
        rintro e w4 ⟨rfl, b4⟩
        have F4 := Lib.hid (F3.out.quiet b4)
        have P4 := Lib.hid (P3.out.ext (Ext.of (Gr.quiet b4)))
        have N4 := Lib.hid (N3.out.ext (Ext.of (Gr.quiet b4)))
        clear b4
        obtain ⟨r0, r1⟩ := F4.out.rb.bk.c2
        have g0 := F4.out.rb.bk.f 0
        have g1 := F4.out.rb.bk.f 1
        go_wp2
        obtain ⟨t0, t1⟩ := (F4.out.rb.bk.put2 (.int .i64 0) (.bool false)).c2
        exact bodyPost_ret (v := .agg #[.int .i64 0, .bool false]) (by simp [results, Tryz.results112, go_sem, t0, t1]) rfl ((F4.out.bad _ _ rfl))
    | true =>
      have HFT := Lib.hid (show fits 8 0 p.l p.d p.i p.g p.s = true from hft)
      rw [if_pos rfl]
      clear hzb0 hcc hi1 hE hOk h0 hft h32
      clear hst hB hPb hRb hz hi hl hc hlt
      go_enter Tryz.func112, Tryz.ntmps112
      go_wp2_with fail
      rw [← hW]
      clear hW
      refine HNX.out.mono ?_
      rintro e w1 ⟨rfl, b1⟩
      have F1 := Lib.hid (F0.out.quiet b1)
      have P1 := Lib.hid (P0.out.ext (Ext.of (Gr.quiet b1)))
      clear b1
      go_wp2_with fail
      refine (begun_8 _ _).mono ?_
      rintro e w2 ⟨u, rfl, b2, nr⟩
      have F2 := Lib.hid (F1.out.quiet b2)
      have P2 := Lib.hid (P1.out.ext (Ext.of (Gr.quiet b2)))
      rcases nr with ⟨-, rfl⟩ | ⟨hm, -⟩
      case inr => exact absurd hm (by decide)
      case inl =>
        clear b2
        have NB3 := Lib.hid (Bk.new w2 #[.int .i64 8, .int .i64 0, .string ⟨#[]⟩, .string ⟨#[]⟩, .slice none 0 0] 60)
        have B3 := Lib.hid (show Below w2.heap.size w2 (w2.alloc (.cells #[.int .i64 8, .int .i64 0, .string ⟨#[]⟩, .string ⟨#[]⟩, .slice none 0 0] 60)) from (Below.refl _ _).alloc (Nat.le_refl _) _)
        have F3 := Lib.hid (F2.out.quiet B3.out)
        have P3 := Lib.hid (P2.out.ext (Ext.of (Gr.quiet B3.out)))
        have N3 := Lib.hid (show Mb (X0 w0.heap.size) w0.heap.size w2.heap.size _ _ v z r _ from Mb.new F2.out.st NB3.out (Nat.le_refl _) (by have := F2.out.st.lt; unfold X0; omega))
        obtain ⟨p0, p1, p2, p3, p4⟩ := P3.out.bk.c5
        obtain ⟨n0, n1, n2, n3, n4⟩ := NB3.out.c5
        go_wp2_with fail
        clear p0 p1 p2 p3 p4 n0 n1 n2 n3 n4
        refine (_root_.Go.Proofs.YtiilpnoaocfjgaaGreatDoor.ps.impl_fits 8 0 p.l ⟨#[]⟩ ⟨#[]⟩ none 0 0 p.d p.i p.g p.s _).mono ?_
        rw [HFT.out]
        rintro e w4 ⟨rfl, b4⟩
        have F4 := Lib.hid (F3.out.quiet b4)
        have P4 := Lib.hid (P3.out.ext (Ext.of (Gr.quiet b4)))
        have N4 := Lib.hid (N3.out.ext (Ext.of (Gr.quiet b4)))
        clear b4
        obtain ⟨p0, p1, p2, p3, p4⟩ := P4.out.bk.c5
        obtain ⟨n0, n1, n2, n3, n4⟩ := N4.out.bk.c5
        go_wp2_with fail
        clear p0 p1 p2 p3 p4 n0 n1 n2 n3 n4
        refine (HM.out _ F4.out.st).mono ?_
        rintro e w9 h9
        obtain ⟨rfl, hv9⟩ := id h9
        have H9 := Lib.hid h9
        have R9 := Lib.hid (F4.out.rbk h9)
        obtain ⟨r0, r1⟩ := R9.out.c2
        have g0 := R9.out.f 0
        have g1 := R9.out.f 1
        clear h9 hv9
        go_wp2
        obtain ⟨t0, t1⟩ := (R9.out.put2 (.int .i64 (lvR RR)) (.bool (tgR RR))).c2
        exact bodyPost_ret (v := .agg #[.int .i64 (lvR RR), .bool (tgR RR)]) (by simp [results, Tryz.results112, go_sem, t0, t1]) rfl ((F4.out.res H9.out _ _))
  by_cases hc68 : c = 68
  · subst hc68
    have hi1 := kd_lt (l := l) (i := i) (by omega)
    have HM := (fun u q W2 (s2 : St w0 a l.length cap i v z r W2) hq2 hr2 => prefixed_any hE hOk 6 0 ⟨#[]⟩ rfl h0 (z.map (·.1)) u q p W2 hi1 hl hc hz s2 hq2 hr2 hzb0)
    rw [show bgR E l 68 p i = (pfx E 6 0 p i) from by simp [bgR]]
    have HM := Lib.hid HM
    rw [show bgK 68 = 6 from rfl, show bgO 68 = 0 from rfl]
    cases hft : ft 6 0 p with
    | false =>
      have HFT := Lib.hid (show fits 6 0 p.l p.d p.i p.g p.s = false from hft)
      rw [if_neg (by decide)]
      clear hzb0 hcc hi1 hE hOk h0 hft h32
      clear hst hB hPb hRb hz hi hl hc hlt
      go_enter Tryz.func112, Tryz.ntmps112
      go_wp2_with fail
      rw [← hW]
      clear hW
      refine HNX.out.mono ?_
      rintro e w1 ⟨rfl, b1⟩
      have F1 := Lib.hid (F0.out.quiet b1)
      have P1 := Lib.hid (P0.out.ext (Ext.of (Gr.quiet b1)))
      clear b1
      go_wp2_with fail
      refine (begun_68 _ _).mono ?_
      rintro e w2 ⟨u, rfl, b2, nr⟩
      have F2 := Lib.hid (F1.out.quiet b2)
      have P2 := Lib.hid (P1.out.ext (Ext.of (Gr.quiet b2)))
      obtain ⟨q, hq1, hq2, rfl, rw2⟩ := nr.rw (by decide) (by decide) F1.out.st
      have HQ1 := Lib.hid (show w.heap.size + 1 < q from Nat.lt_trans F1.out.rb.bk.lt hq1)
      have X2 := Lib.hid rw2
      have HQ2 := Lib.hid hq2
      clear hq1 hq2 rw2
      clear b2
      have NB3 := Lib.hid (Bk.new w2 #[.int .i64 6, .int .i64 0, .string ⟨#[]⟩, .string ⟨#[]⟩, .slice (some ⟨q, 0, none⟩) 1 1] 60)
      have B3 := Lib.hid (show Below w2.heap.size w2 (w2.alloc (.cells #[.int .i64 6, .int .i64 0, .string ⟨#[]⟩, .string ⟨#[]⟩, .slice (some ⟨q, 0, none⟩) 1 1] 60)) from (Below.refl _ _).alloc (Nat.le_refl _) _)
      have F3 := Lib.hid (F2.out.quiet B3.out)
      have P3 := Lib.hid (P2.out.ext (Ext.of (Gr.quiet B3.out)))
      have N3 := Lib.hid (show Mb (X0 w0.heap.size) w0.heap.size w2.heap.size _ _ v z r _ from Mb.new F2.out.st NB3.out (Nat.le_refl _) (by have := F2.out.st.lt; unfold X0; omega))
      obtain ⟨p0, p1, p2, p3, p4⟩ := P3.out.bk.c5
      obtain ⟨n0, n1, n2, n3, n4⟩ := NB3.out.c5
      go_wp2_with fail
      clear p0 p1 p2 p3 p4 n0 n1 n2 n3 n4
      refine (_root_.Go.Proofs.YtiilpnoaocfjgaaGreatDoor.ps.impl_fits 6 0 p.l ⟨#[]⟩ ⟨#[]⟩ (some ⟨q, 0, none⟩) 1 1 p.d p.i p.g p.s _).mono ?_
      rw [HFT.out]
      rintro e w4 ⟨rfl, b4⟩
      have F4 := Lib.hid (F3.out.quiet b4)
      have P4 := Lib.hid (P3.out.ext (Ext.of (Gr.quiet b4)))
      have N4 := Lib.hid (N3.out.ext (Ext.of (Gr.quiet b4)))
      have X4 := Lib.hid ((X2.out.quiet B3.out).quiet b4)
      have HQ4 := Lib.hid (show q < w4.heap.size from Nat.lt_of_lt_of_le HQ2.out (Nat.le_trans B3.out.size b4.size))
      clear b4
      obtain ⟨r0, r1⟩ := F4.out.rb.bk.c2
      have g0 := F4.out.rb.bk.f 0
      have g1 := F4.out.rb.bk.f 1
      go_wp2
      obtain ⟨t0, t1⟩ := (F4.out.rb.bk.put2 (.int .i64 0) (.bool false)).c2
      exact bodyPost_ret (v := .agg #[.int .i64 0, .bool false]) (by simp [results, Tryz.results112, go_sem, t0, t1]) rfl ((F4.out.bad _ _ rfl))
    | true =>
      have HFT := Lib.hid (show fits 6 0 p.l p.d p.i p.g p.s = true from hft)
      rw [if_pos rfl]
      clear hzb0 hcc hi1 hE hOk h0 hft h32
      clear hst hB hPb hRb hz hi hl hc hlt
      go_enter Tryz.func112, Tryz.ntmps112
      go_wp2_with fail
      rw [← hW]
      clear hW
      refine HNX.out.mono ?_
      rintro e w1 ⟨rfl, b1⟩
      have F1 := Lib.hid (F0.out.quiet b1)
      have P1 := Lib.hid (P0.out.ext (Ext.of (Gr.quiet b1)))
      clear b1
      go_wp2_with fail
      refine (begun_68 _ _).mono ?_
      rintro e w2 ⟨u, rfl, b2, nr⟩
      have F2 := Lib.hid (F1.out.quiet b2)
      have P2 := Lib.hid (P1.out.ext (Ext.of (Gr.quiet b2)))
      obtain ⟨q, hq1, hq2, rfl, rw2⟩ := nr.rw (by decide) (by decide) F1.out.st
      have HQ1 := Lib.hid (show w.heap.size + 1 < q from Nat.lt_trans F1.out.rb.bk.lt hq1)
      have X2 := Lib.hid rw2
      have HQ2 := Lib.hid hq2
      clear hq1 hq2 rw2
      clear b2
      have NB3 := Lib.hid (Bk.new w2 #[.int .i64 6, .int .i64 0, .string ⟨#[]⟩, .string ⟨#[]⟩, .slice (some ⟨q, 0, none⟩) 1 1] 60)
      have B3 := Lib.hid (show Below w2.heap.size w2 (w2.alloc (.cells #[.int .i64 6, .int .i64 0, .string ⟨#[]⟩, .string ⟨#[]⟩, .slice (some ⟨q, 0, none⟩) 1 1] 60)) from (Below.refl _ _).alloc (Nat.le_refl _) _)
      have F3 := Lib.hid (F2.out.quiet B3.out)
      have P3 := Lib.hid (P2.out.ext (Ext.of (Gr.quiet B3.out)))
      have N3 := Lib.hid (show Mb (X0 w0.heap.size) w0.heap.size w2.heap.size _ _ v z r _ from Mb.new F2.out.st NB3.out (Nat.le_refl _) (by have := F2.out.st.lt; unfold X0; omega))
      obtain ⟨p0, p1, p2, p3, p4⟩ := P3.out.bk.c5
      obtain ⟨n0, n1, n2, n3, n4⟩ := NB3.out.c5
      go_wp2_with fail
      clear p0 p1 p2 p3 p4 n0 n1 n2 n3 n4
      refine (_root_.Go.Proofs.YtiilpnoaocfjgaaGreatDoor.ps.impl_fits 6 0 p.l ⟨#[]⟩ ⟨#[]⟩ (some ⟨q, 0, none⟩) 1 1 p.d p.i p.g p.s _).mono ?_
      rw [HFT.out]
      rintro e w4 ⟨rfl, b4⟩
      have F4 := Lib.hid (F3.out.quiet b4)
      have P4 := Lib.hid (P3.out.ext (Ext.of (Gr.quiet b4)))
      have N4 := Lib.hid (N3.out.ext (Ext.of (Gr.quiet b4)))
      have X4 := Lib.hid ((X2.out.quiet B3.out).quiet b4)
      have HQ4 := Lib.hid (show q < w4.heap.size from Nat.lt_of_lt_of_le HQ2.out (Nat.le_trans B3.out.size b4.size))
      clear b4
      obtain ⟨p0, p1, p2, p3, p4⟩ := P4.out.bk.c5
      obtain ⟨n0, n1, n2, n3, n4⟩ := N4.out.bk.c5
      go_wp2_with fail
      clear p0 p1 p2 p3 p4 n0 n1 n2 n3 n4
      refine (HM.out _ q _ F4.out.st HQ4.out X4.out).mono ?_
      rintro e w9 h9
      obtain ⟨rfl, hv9⟩ := id h9
      have H9 := Lib.hid h9
      have R9 := Lib.hid (resq0_bk F4.out h9 (by have := HQ1.out; omega))
      obtain ⟨r0, r1⟩ := R9.out.c2
      have g0 := R9.out.f 0
      have g1 := R9.out.f 1
      clear h9 hv9
      go_wp2
      obtain ⟨t0, t1⟩ := (R9.out.put2 (.int .i64 (lvR (pfx E 6 0 p i))) (.bool (tgR (pfx E 6 0 p i)))).c2
      exact bodyPost_ret (v := .agg #[.int .i64 (lvR (pfx E 6 0 p i)), .bool (tgR (pfx E 6 0 p i))]) (by simp [results, Tryz.results112, go_sem, t0, t1]) rfl (resq0 (.inl (by have := HQ1.out; omega)) F4.out H9.out (by have := HQ1.out; omega) _ _)
  by_cases hc51 : c = 51
  · subst hc51
    have hi1 := kd_lt (l := l) (i := i) (by omega)
    have HM := (fun u q W2 (s2 : St w0 a l.length cap i v z r W2) hq2 hr2 => pre_any hE hOk 51 ⟨#[]⟩ rfl h0 (z.map (·.1)) u q p W2 hi1 hl hc hz s2 hq2 hr2 hzb0)
    rw [show bgR E l 51 p i = (if kd l (i + 1) = 6 ∨ kd l (i + 1) = 68 then pfx E 9 51 p i else .bad (i + 1)) from by simp [bgR]]
    obtain ⟨RR, hRR⟩ : ∃ RR, (if kd l (i + 1) = 6 ∨ kd l (i + 1) = 68 then pfx E 9 51 p i else .bad (i + 1)) = RR := ⟨_, rfl⟩
    simp only [hRR] at HM
    rw [hRR]
    have HM := Lib.hid HM
    clear hRR
    rw [show bgK 51 = 9 from rfl, show bgO 51 = 51 from rfl]
    cases hft : ft 9 51 p with
    | false =>
      have HFT := Lib.hid (show fits 9 51 p.l p.d p.i p.g p.s = false from hft)
      rw [if_neg (by decide)]
      clear hzb0 hcc hi1 hE hOk h0 hft h32
      clear hst hB hPb hRb hz hi hl hc hlt
      go_enter Tryz.func112, Tryz.ntmps112
      go_wp2_with fail
      rw [← hW]
      clear hW
      refine HNX.out.mono ?_
      rintro e w1 ⟨rfl, b1⟩
      have F1 := Lib.hid (F0.out.quiet b1)
      have P1 := Lib.hid (P0.out.ext (Ext.of (Gr.quiet b1)))
      clear b1
      go_wp2_with fail
      refine (begun_51 _ _).mono ?_
      rintro e w2 ⟨u, rfl, b2, nr⟩
      have F2 := Lib.hid (F1.out.quiet b2)
      have P2 := Lib.hid (P1.out.ext (Ext.of (Gr.quiet b2)))
      obtain ⟨q, hq1, hq2, rfl, rw2⟩ := nr.rw (by decide) (by decide) F1.out.st
      have HQ1 := Lib.hid (show w.heap.size + 1 < q from Nat.lt_trans F1.out.rb.bk.lt hq1)
      have X2 := Lib.hid rw2
      have HQ2 := Lib.hid hq2
      clear hq1 hq2 rw2
      clear b2
      have NB3 := Lib.hid (Bk.new w2 #[.int .i64 9, .int .i64 51, .string ⟨#[]⟩, .string ⟨#[]⟩, .slice (some ⟨q, 0, none⟩) 1 1] 60)
      have B3 := Lib.hid (show Below w2.heap.size w2 (w2.alloc (.cells #[.int .i64 9, .int .i64 51, .string ⟨#[]⟩, .string ⟨#[]⟩, .slice (some ⟨q, 0, none⟩) 1 1] 60)) from (Below.refl _ _).alloc (Nat.le_refl _) _)
      have F3 := Lib.hid (F2.out.quiet B3.out)
      have P3 := Lib.hid (P2.out.ext (Ext.of (Gr.quiet B3.out)))
      have N3 := Lib.hid (show Mb (X0 w0.heap.size) w0.heap.size w2.heap.size _ _ v z r _ from Mb.new F2.out.st NB3.out (Nat.le_refl _) (by have := F2.out.st.lt; unfold X0; omega))
      obtain ⟨p0, p1, p2, p3, p4⟩ := P3.out.bk.c5
      obtain ⟨n0, n1, n2, n3, n4⟩ := NB3.out.c5
      go_wp2_with fail
      clear p0 p1 p2 p3 p4 n0 n1 n2 n3 n4
      refine (_root_.Go.Proofs.YtiilpnoaocfjgaaGreatDoor.ps.impl_fits 9 51 p.l ⟨#[]⟩ ⟨#[]⟩ (some ⟨q, 0, none⟩) 1 1 p.d p.i p.g p.s _).mono ?_
      rw [HFT.out]
      rintro e w4 ⟨rfl, b4⟩
      have F4 := Lib.hid (F3.out.quiet b4)
      have P4 := Lib.hid (P3.out.ext (Ext.of (Gr.quiet b4)))
      have N4 := Lib.hid (N3.out.ext (Ext.of (Gr.quiet b4)))
      have X4 := Lib.hid ((X2.out.quiet B3.out).quiet b4)
      have HQ4 := Lib.hid (show q < w4.heap.size from Nat.lt_of_lt_of_le HQ2.out (Nat.le_trans B3.out.size b4.size))
      clear b4
      obtain ⟨r0, r1⟩ := F4.out.rb.bk.c2
      have g0 := F4.out.rb.bk.f 0
      have g1 := F4.out.rb.bk.f 1
      go_wp2
      obtain ⟨t0, t1⟩ := (F4.out.rb.bk.put2 (.int .i64 0) (.bool false)).c2
      exact bodyPost_ret (v := .agg #[.int .i64 0, .bool false]) (by simp [results, Tryz.results112, go_sem, t0, t1]) rfl ((F4.out.bad _ _ rfl))
    | true =>
      have HFT := Lib.hid (show fits 9 51 p.l p.d p.i p.g p.s = true from hft)
      rw [if_pos rfl]
      clear hzb0 hcc hi1 hE hOk h0 hft h32
      clear hst hB hPb hRb hz hi hl hc hlt
      go_enter Tryz.func112, Tryz.ntmps112
      go_wp2_with fail
      rw [← hW]
      clear hW
      refine HNX.out.mono ?_
      rintro e w1 ⟨rfl, b1⟩
      have F1 := Lib.hid (F0.out.quiet b1)
      have P1 := Lib.hid (P0.out.ext (Ext.of (Gr.quiet b1)))
      clear b1
      go_wp2_with fail
      refine (begun_51 _ _).mono ?_
      rintro e w2 ⟨u, rfl, b2, nr⟩
      have F2 := Lib.hid (F1.out.quiet b2)
      have P2 := Lib.hid (P1.out.ext (Ext.of (Gr.quiet b2)))
      obtain ⟨q, hq1, hq2, rfl, rw2⟩ := nr.rw (by decide) (by decide) F1.out.st
      have HQ1 := Lib.hid (show w.heap.size + 1 < q from Nat.lt_trans F1.out.rb.bk.lt hq1)
      have X2 := Lib.hid rw2
      have HQ2 := Lib.hid hq2
      clear hq1 hq2 rw2
      clear b2
      have NB3 := Lib.hid (Bk.new w2 #[.int .i64 9, .int .i64 51, .string ⟨#[]⟩, .string ⟨#[]⟩, .slice (some ⟨q, 0, none⟩) 1 1] 60)
      have B3 := Lib.hid (show Below w2.heap.size w2 (w2.alloc (.cells #[.int .i64 9, .int .i64 51, .string ⟨#[]⟩, .string ⟨#[]⟩, .slice (some ⟨q, 0, none⟩) 1 1] 60)) from (Below.refl _ _).alloc (Nat.le_refl _) _)
      have F3 := Lib.hid (F2.out.quiet B3.out)
      have P3 := Lib.hid (P2.out.ext (Ext.of (Gr.quiet B3.out)))
      have N3 := Lib.hid (show Mb (X0 w0.heap.size) w0.heap.size w2.heap.size _ _ v z r _ from Mb.new F2.out.st NB3.out (Nat.le_refl _) (by have := F2.out.st.lt; unfold X0; omega))
      obtain ⟨p0, p1, p2, p3, p4⟩ := P3.out.bk.c5
      obtain ⟨n0, n1, n2, n3, n4⟩ := NB3.out.c5
      go_wp2_with fail
      clear p0 p1 p2 p3 p4 n0 n1 n2 n3 n4
      refine (_root_.Go.Proofs.YtiilpnoaocfjgaaGreatDoor.ps.impl_fits 9 51 p.l ⟨#[]⟩ ⟨#[]⟩ (some ⟨q, 0, none⟩) 1 1 p.d p.i p.g p.s _).mono ?_
      rw [HFT.out]
      rintro e w4 ⟨rfl, b4⟩
      have F4 := Lib.hid (F3.out.quiet b4)
      have P4 := Lib.hid (P3.out.ext (Ext.of (Gr.quiet b4)))
      have N4 := Lib.hid (N3.out.ext (Ext.of (Gr.quiet b4)))
      have X4 := Lib.hid ((X2.out.quiet B3.out).quiet b4)
      have HQ4 := Lib.hid (show q < w4.heap.size from Nat.lt_of_lt_of_le HQ2.out (Nat.le_trans B3.out.size b4.size))
      clear b4
      obtain ⟨p0, p1, p2, p3, p4⟩ := P4.out.bk.c5
      obtain ⟨n0, n1, n2, n3, n4⟩ := N4.out.bk.c5
      go_wp2_with fail
      clear p0 p1 p2 p3 p4 n0 n1 n2 n3 n4
      refine (HM.out _ q _ F4.out.st HQ4.out X4.out).mono ?_
      rintro e w9 h9
      obtain ⟨rfl, hv9⟩ := id h9
      have H9 := Lib.hid h9
      have R9 := Lib.hid (resq0_bk F4.out h9 (by have := HQ1.out; omega))
      obtain ⟨r0, r1⟩ := R9.out.c2
      have g0 := R9.out.f 0
      have g1 := R9.out.f 1
      clear h9 hv9
      go_wp2
      obtain ⟨t0, t1⟩ := (R9.out.put2 (.int .i64 (lvR RR)) (.bool (tgR RR))).c2
      exact bodyPost_ret (v := .agg #[.int .i64 (lvR RR), .bool (tgR RR)]) (by simp [results, Tryz.results112, go_sem, t0, t1]) rfl (resq0 (.inl (by have := HQ1.out; omega)) F4.out H9.out (by have := HQ1.out; omega) _ _)
  by_cases hc52 : c = 52
  · subst hc52
    have hi1 := kd_lt (l := l) (i := i) (by omega)
    have HM := (fun u q W2 (s2 : St w0 a l.length cap i v z r W2) hq2 hr2 => pre_any hE hOk 52 ⟨#[]⟩ rfl h0 (z.map (·.1)) u q p W2 hi1 hl hc hz s2 hq2 hr2 hzb0)
    rw [show bgR E l 52 p i = (if kd l (i + 1) = 6 ∨ kd l (i + 1) = 68 then pfx E 9 52 p i else .bad (i + 1)) from by simp [bgR]]
    obtain ⟨RR, hRR⟩ : ∃ RR, (if kd l (i + 1) = 6 ∨ kd l (i + 1) = 68 then pfx E 9 52 p i else .bad (i + 1)) = RR := ⟨_, rfl⟩
    simp only [hRR] at HM
    rw [hRR]
    have HM := Lib.hid HM
    clear hRR
    rw [show bgK 52 = 9 from rfl, show bgO 52 = 52 from rfl]
    cases hft : ft 9 52 p with
    | false =>
      have HFT := Lib.hid (show fits 9 52 p.l p.d p.i p.g p.s = false from hft)
      rw [if_neg (by decide)]
      clear hzb0 hcc hi1 hE hOk h0 hft h32
      clear hst hB hPb hRb hz hi hl hc hlt
      go_enter Tryz.func112, Tryz.ntmps112
      go_wp2_with fail
      rw [← hW]
      clear hW
      refine HNX.out.mono ?_
      rintro e w1 ⟨rfl, b1⟩
      have F1 := Lib.hid (F0.out.quiet b1)
      have P1 := Lib.hid (P0.out.ext (Ext.of (Gr.quiet b1)))
      clear b1
      go_wp2_with fail
      refine (begun_52 _ _).mono ?_
      rintro e w2 ⟨u, rfl, b2, nr⟩
      have F2 := Lib.hid (F1.out.quiet b2)
      have P2 := Lib.hid (P1.out.ext (Ext.of (Gr.quiet b2)))
      obtain ⟨q, hq1, hq2, rfl, rw2⟩ := nr.rw (by decide) (by decide) F1.out.st
      have HQ1 := Lib.hid (show w.heap.size + 1 < q from Nat.lt_trans F1.out.rb.bk.lt hq1)
      have X2 := Lib.hid rw2
      have HQ2 := Lib.hid hq2
      clear hq1 hq2 rw2
      clear b2
      have NB3 := Lib.hid (Bk.new w2 #[.int .i64 9, .int .i64 52, .string ⟨#[]⟩, .string ⟨#[]⟩, .slice (some ⟨q, 0, none⟩) 1 1] 60)
      have B3 := Lib.hid (show Below w2.heap.size w2 (w2.alloc (.cells #[.int .i64 9, .int .i64 52, .string ⟨#[]⟩, .string ⟨#[]⟩, .slice (some ⟨q, 0, none⟩) 1 1] 60)) from (Below.refl _ _).alloc (Nat.le_refl _) _)
      have F3 := Lib.hid (F2.out.quiet B3.out)
      have P3 := Lib.hid (P2.out.ext (Ext.of (Gr.quiet B3.out)))
      have N3 := Lib.hid (show Mb (X0 w0.heap.size) w0.heap.size w2.heap.size _ _ v z r _ from Mb.new F2.out.st NB3.out (Nat.le_refl _) (by have := F2.out.st.lt; unfold X0; omega))
      obtain ⟨p0, p1, p2, p3, p4⟩ := P3.out.bk.c5
      obtain ⟨n0, n1, n2, n3, n4⟩ := NB3.out.c5
      go_wp2_with fail
      clear p0 p1 p2 p3 p4 n0 n1 n2 n3 n4
      refine (_root_.Go.Proofs.YtiilpnoaocfjgaaGreatDoor.ps.impl_fits 9 52 p.l ⟨#[]⟩ ⟨#[]⟩ (some ⟨q, 0, none⟩) 1 1 p.d p.i p.g p.s _).mono ?_
      rw [HFT.out]
      rintro e w4 ⟨rfl, b4⟩
      have F4 := Lib.hid (F3.out.quiet b4)
      have P4 := Lib.hid (P3.out.ext (Ext.of (Gr.quiet b4)))
      have N4 := Lib.hid (N3.out.ext (Ext.of (Gr.quiet b4)))
      have X4 := Lib.hid ((X2.out.quiet B3.out).quiet b4)
      have HQ4 := Lib.hid (show q < w4.heap.size from Nat.lt_of_lt_of_le HQ2.out (Nat.le_trans B3.out.size b4.size))
      clear b4
      obtain ⟨r0, r1⟩ := F4.out.rb.bk.c2
      have g0 := F4.out.rb.bk.f 0
      have g1 := F4.out.rb.bk.f 1
      go_wp2
      obtain ⟨t0, t1⟩ := (F4.out.rb.bk.put2 (.int .i64 0) (.bool false)).c2
      exact bodyPost_ret (v := .agg #[.int .i64 0, .bool false]) (by simp [results, Tryz.results112, go_sem, t0, t1]) rfl ((F4.out.bad _ _ rfl))
    | true =>
      have HFT := Lib.hid (show fits 9 52 p.l p.d p.i p.g p.s = true from hft)
      rw [if_pos rfl]
      clear hzb0 hcc hi1 hE hOk h0 hft h32
      clear hst hB hPb hRb hz hi hl hc hlt
      go_enter Tryz.func112, Tryz.ntmps112
      go_wp2_with fail
      rw [← hW]
      clear hW
      refine HNX.out.mono ?_
      rintro e w1 ⟨rfl, b1⟩
      have F1 := Lib.hid (F0.out.quiet b1)
      have P1 := Lib.hid (P0.out.ext (Ext.of (Gr.quiet b1)))
      clear b1
      go_wp2_with fail
      refine (begun_52 _ _).mono ?_
      rintro e w2 ⟨u, rfl, b2, nr⟩
      have F2 := Lib.hid (F1.out.quiet b2)
      have P2 := Lib.hid (P1.out.ext (Ext.of (Gr.quiet b2)))
      obtain ⟨q, hq1, hq2, rfl, rw2⟩ := nr.rw (by decide) (by decide) F1.out.st
      have HQ1 := Lib.hid (show w.heap.size + 1 < q from Nat.lt_trans F1.out.rb.bk.lt hq1)
      have X2 := Lib.hid rw2
      have HQ2 := Lib.hid hq2
      clear hq1 hq2 rw2
      clear b2
      have NB3 := Lib.hid (Bk.new w2 #[.int .i64 9, .int .i64 52, .string ⟨#[]⟩, .string ⟨#[]⟩, .slice (some ⟨q, 0, none⟩) 1 1] 60)
      have B3 := Lib.hid (show Below w2.heap.size w2 (w2.alloc (.cells #[.int .i64 9, .int .i64 52, .string ⟨#[]⟩, .string ⟨#[]⟩, .slice (some ⟨q, 0, none⟩) 1 1] 60)) from (Below.refl _ _).alloc (Nat.le_refl _) _)
      have F3 := Lib.hid (F2.out.quiet B3.out)
      have P3 := Lib.hid (P2.out.ext (Ext.of (Gr.quiet B3.out)))
      have N3 := Lib.hid (show Mb (X0 w0.heap.size) w0.heap.size w2.heap.size _ _ v z r _ from Mb.new F2.out.st NB3.out (Nat.le_refl _) (by have := F2.out.st.lt; unfold X0; omega))
      obtain ⟨p0, p1, p2, p3, p4⟩ := P3.out.bk.c5
      obtain ⟨n0, n1, n2, n3, n4⟩ := NB3.out.c5
      go_wp2_with fail
      clear p0 p1 p2 p3 p4 n0 n1 n2 n3 n4
      refine (_root_.Go.Proofs.YtiilpnoaocfjgaaGreatDoor.ps.impl_fits 9 52 p.l ⟨#[]⟩ ⟨#[]⟩ (some ⟨q, 0, none⟩) 1 1 p.d p.i p.g p.s _).mono ?_
      rw [HFT.out]
      rintro e w4 ⟨rfl, b4⟩
      have F4 := Lib.hid (F3.out.quiet b4)
      have P4 := Lib.hid (P3.out.ext (Ext.of (Gr.quiet b4)))
      have N4 := Lib.hid (N3.out.ext (Ext.of (Gr.quiet b4)))
      have X4 := Lib.hid ((X2.out.quiet B3.out).quiet b4)
      have HQ4 := Lib.hid (show q < w4.heap.size from Nat.lt_of_lt_of_le HQ2.out (Nat.le_trans B3.out.size b4.size))
      clear b4
      obtain ⟨p0, p1, p2, p3, p4⟩ := P4.out.bk.c5
      obtain ⟨n0, n1, n2, n3, n4⟩ := N4.out.bk.c5
      go_wp2_with fail
      clear p0 p1 p2 p3 p4 n0 n1 n2 n3 n4
      refine (HM.out _ q _ F4.out.st HQ4.out X4.out).mono ?_
      rintro e w9 h9
      obtain ⟨rfl, hv9⟩ := id h9
      have H9 := Lib.hid h9
      have R9 := Lib.hid (resq0_bk F4.out h9 (by have := HQ1.out; omega))
      obtain ⟨r0, r1⟩ := R9.out.c2
      have g0 := R9.out.f 0
      have g1 := R9.out.f 1
      clear h9 hv9
      go_wp2
      obtain ⟨t0, t1⟩ := (R9.out.put2 (.int .i64 (lvR RR)) (.bool (tgR RR))).c2
      exact bodyPost_ret (v := .agg #[.int .i64 (lvR RR), .bool (tgR RR)]) (by simp [results, Tryz.results112, go_sem, t0, t1]) rfl (resq0 (.inl (by have := HQ1.out; omega)) F4.out H9.out (by have := HQ1.out; omega) _ _)
  by_cases hc55 : c = 55
  · subst hc55
    have hi1 := kd_lt (l := l) (i := i) (by omega)
    have HM := (fun u q W2 (s2 : St w0 a l.length cap i v z r W2) hq2 hr2 => prefixed_any hE hOk 11 55 ⟨#[]⟩ rfl h0 (z.map (·.1)) u q p W2 hi1 hl hc hz s2 hq2 hr2 hzb0)
    rw [show bgR E l 55 p i = (pfx E 11 55 p i) from by simp [bgR]]
    have HM := Lib.hid HM
    rw [show bgK 55 = 11 from rfl, show bgO 55 = 55 from rfl]
    cases hft : ft 11 55 p with
    | false =>
      have HFT := Lib.hid (show fits 11 55 p.l p.d p.i p.g p.s = false from hft)
      rw [if_neg (by decide)]
      clear hzb0 hcc hi1 hE hOk h0 hft h32
      clear hst hB hPb hRb hz hi hl hc hlt
      go_enter Tryz.func112, Tryz.ntmps112
      go_wp2_with fail
      rw [← hW]
      clear hW
      refine HNX.out.mono ?_
      rintro e w1 ⟨rfl, b1⟩
      have F1 := Lib.hid (F0.out.quiet b1)
      have P1 := Lib.hid (P0.out.ext (Ext.of (Gr.quiet b1)))
      clear b1
      go_wp2_with fail
      refine (begun_55 _ _).mono ?_
      rintro e w2 ⟨u, rfl, b2, nr⟩
      have F2 := Lib.hid (F1.out.quiet b2)
      have P2 := Lib.hid (P1.out.ext (Ext.of (Gr.quiet b2)))
      obtain ⟨q, hq1, hq2, rfl, rw2⟩ := nr.rw (by decide) (by decide) F1.out.st
      have HQ1 := Lib.hid (show w.heap.size + 1 < q from Nat.lt_trans F1.out.rb.bk.lt hq1)
      have X2 := Lib.hid rw2
      have HQ2 := Lib.hid hq2
      clear hq1 hq2 rw2
      clear b2
      have NB3 := Lib.hid (Bk.new w2 #[.int .i64 11, .int .i64 55, .string ⟨#[]⟩, .string ⟨#[]⟩, .slice (some ⟨q, 0, none⟩) 1 1] 60)
      have B3 := Lib.hid (show Below w2.heap.size w2 (w2.alloc (.cells #[.int .i64 11, .int .i64 55, .string ⟨#[]⟩, .string ⟨#[]⟩, .slice (some ⟨q, 0, none⟩) 1 1] 60)) from (Below.refl _ _).alloc (Nat.le_refl _) _)
      have F3 := Lib.hid (F2.out.quiet B3.out)
      have P3 := Lib.hid (P2.out.ext (Ext.of (Gr.quiet B3.out)))
      have N3 := Lib.hid (show Mb (X0 w0.heap.size) w0.heap.size w2.heap.size _ _ v z r _ from Mb.new F2.out.st NB3.out (Nat.le_refl _) (by have := F2.out.st.lt; unfold X0; omega))
      obtain ⟨p0, p1, p2, p3, p4⟩ := P3.out.bk.c5
      obtain ⟨n0, n1, n2, n3, n4⟩ := NB3.out.c5
      go_wp2_with fail
      clear p0 p1 p2 p3 p4 n0 n1 n2 n3 n4
      refine (_root_.Go.Proofs.YtiilpnoaocfjgaaGreatDoor.ps.impl_fits 11 55 p.l ⟨#[]⟩ ⟨#[]⟩ (some ⟨q, 0, none⟩) 1 1 p.d p.i p.g p.s _).mono ?_
      rw [HFT.out]
      rintro e w4 ⟨rfl, b4⟩
      have F4 := Lib.hid (F3.out.quiet b4)
      have P4 := Lib.hid (P3.out.ext (Ext.of (Gr.quiet b4)))
      have N4 := Lib.hid (N3.out.ext (Ext.of (Gr.quiet b4)))
      have X4 := Lib.hid ((X2.out.quiet B3.out).quiet b4)
      have HQ4 := Lib.hid (show q < w4.heap.size from Nat.lt_of_lt_of_le HQ2.out (Nat.le_trans B3.out.size b4.size))
      clear b4
      obtain ⟨r0, r1⟩ := F4.out.rb.bk.c2
      have g0 := F4.out.rb.bk.f 0
      have g1 := F4.out.rb.bk.f 1
      go_wp2
      obtain ⟨t0, t1⟩ := (F4.out.rb.bk.put2 (.int .i64 0) (.bool false)).c2
      exact bodyPost_ret (v := .agg #[.int .i64 0, .bool false]) (by simp [results, Tryz.results112, go_sem, t0, t1]) rfl ((F4.out.bad _ _ rfl))
    | true =>
      have HFT := Lib.hid (show fits 11 55 p.l p.d p.i p.g p.s = true from hft)
      rw [if_pos rfl]
      clear hzb0 hcc hi1 hE hOk h0 hft h32
      clear hst hB hPb hRb hz hi hl hc hlt
      go_enter Tryz.func112, Tryz.ntmps112
      go_wp2_with fail
      rw [← hW]
      clear hW
      refine HNX.out.mono ?_
      rintro e w1 ⟨rfl, b1⟩
      have F1 := Lib.hid (F0.out.quiet b1)
      have P1 := Lib.hid (P0.out.ext (Ext.of (Gr.quiet b1)))
      clear b1
      go_wp2_with fail
      refine (begun_55 _ _).mono ?_
      rintro e w2 ⟨u, rfl, b2, nr⟩
      have F2 := Lib.hid (F1.out.quiet b2)
      have P2 := Lib.hid (P1.out.ext (Ext.of (Gr.quiet b2)))
      obtain ⟨q, hq1, hq2, rfl, rw2⟩ := nr.rw (by decide) (by decide) F1.out.st
      have HQ1 := Lib.hid (show w.heap.size + 1 < q from Nat.lt_trans F1.out.rb.bk.lt hq1)
      have X2 := Lib.hid rw2
      have HQ2 := Lib.hid hq2
      clear hq1 hq2 rw2
      clear b2
      have NB3 := Lib.hid (Bk.new w2 #[.int .i64 11, .int .i64 55, .string ⟨#[]⟩, .string ⟨#[]⟩, .slice (some ⟨q, 0, none⟩) 1 1] 60)
      have B3 := Lib.hid (show Below w2.heap.size w2 (w2.alloc (.cells #[.int .i64 11, .int .i64 55, .string ⟨#[]⟩, .string ⟨#[]⟩, .slice (some ⟨q, 0, none⟩) 1 1] 60)) from (Below.refl _ _).alloc (Nat.le_refl _) _)
      have F3 := Lib.hid (F2.out.quiet B3.out)
      have P3 := Lib.hid (P2.out.ext (Ext.of (Gr.quiet B3.out)))
      have N3 := Lib.hid (show Mb (X0 w0.heap.size) w0.heap.size w2.heap.size _ _ v z r _ from Mb.new F2.out.st NB3.out (Nat.le_refl _) (by have := F2.out.st.lt; unfold X0; omega))
      obtain ⟨p0, p1, p2, p3, p4⟩ := P3.out.bk.c5
      obtain ⟨n0, n1, n2, n3, n4⟩ := NB3.out.c5
      go_wp2_with fail
      clear p0 p1 p2 p3 p4 n0 n1 n2 n3 n4
      refine (_root_.Go.Proofs.YtiilpnoaocfjgaaGreatDoor.ps.impl_fits 11 55 p.l ⟨#[]⟩ ⟨#[]⟩ (some ⟨q, 0, none⟩) 1 1 p.d p.i p.g p.s _).mono ?_
      rw [HFT.out]
      rintro e w4 ⟨rfl, b4⟩
      have F4 := Lib.hid (F3.out.quiet b4)
      have P4 := Lib.hid (P3.out.ext (Ext.of (Gr.quiet b4)))
      have N4 := Lib.hid (N3.out.ext (Ext.of (Gr.quiet b4)))
      have X4 := Lib.hid ((X2.out.quiet B3.out).quiet b4)
      have HQ4 := Lib.hid (show q < w4.heap.size from Nat.lt_of_lt_of_le HQ2.out (Nat.le_trans B3.out.size b4.size))
      clear b4
      obtain ⟨p0, p1, p2, p3, p4⟩ := P4.out.bk.c5
      obtain ⟨n0, n1, n2, n3, n4⟩ := N4.out.bk.c5
      go_wp2_with fail
      clear p0 p1 p2 p3 p4 n0 n1 n2 n3 n4
      refine (HM.out _ q _ F4.out.st HQ4.out X4.out).mono ?_
      rintro e w9 h9
      obtain ⟨rfl, hv9⟩ := id h9
      have H9 := Lib.hid h9
      have R9 := Lib.hid (resq0_bk F4.out h9 (by have := HQ1.out; omega))
      obtain ⟨r0, r1⟩ := R9.out.c2
      have g0 := R9.out.f 0
      have g1 := R9.out.f 1
      clear h9 hv9
      go_wp2
      obtain ⟨t0, t1⟩ := (R9.out.put2 (.int .i64 (lvR (pfx E 11 55 p i))) (.bool (tgR (pfx E 11 55 p i)))).c2
      exact bodyPost_ret (v := .agg #[.int .i64 (lvR (pfx E 11 55 p i)), .bool (tgR (pfx E 11 55 p i))]) (by simp [results, Tryz.results112, go_sem, t0, t1]) rfl (resq0 (.inl (by have := HQ1.out; omega)) F4.out H9.out (by have := HQ1.out; omega) _ _)
  by_cases hc56 : c = 56
  · subst hc56
    have hi1 := kd_lt (l := l) (i := i) (by omega)
    have HM := (fun u q W2 (s2 : St w0 a l.length cap i v z r W2) hq2 hr2 => prefixed_any hE hOk 11 56 ⟨#[]⟩ rfl h0 (z.map (·.1)) u q p W2 hi1 hl hc hz s2 hq2 hr2 hzb0)
    rw [show bgR E l 56 p i = (pfx E 11 56 p i) from by simp [bgR]]
    have HM := Lib.hid HM
    rw [show bgK 56 = 11 from rfl, show bgO 56 = 56 from rfl]
    cases hft : ft 11 56 p with
    | false =>
      have HFT := Lib.hid (show fits 11 56 p.l p.d p.i p.g p.s = false from hft)
      rw [if_neg (by decide)]
      clear hzb0 hcc hi1 hE hOk h0 hft h32
      clear hst hB hPb hRb hz hi hl hc hlt
      go_enter Tryz.func112, Tryz.ntmps112
      go_wp2_with fail
      rw [← hW]
      clear hW
      refine HNX.out.mono ?_
      rintro e w1 ⟨rfl, b1⟩
      have F1 := Lib.hid (F0.out.quiet b1)
      have P1 := Lib.hid (P0.out.ext (Ext.of (Gr.quiet b1)))
      clear b1
      go_wp2_with fail
      refine (begun_56 _ _).mono ?_
      rintro e w2 ⟨u, rfl, b2, nr⟩
      have F2 := Lib.hid (F1.out.quiet b2)
      have P2 := Lib.hid (P1.out.ext (Ext.of (Gr.quiet b2)))
      obtain ⟨q, hq1, hq2, rfl, rw2⟩ := nr.rw (by decide) (by decide) F1.out.st
      have HQ1 := Lib.hid (show w.heap.size + 1 < q from Nat.lt_trans F1.out.rb.bk.lt hq1)
      have X2 := Lib.hid rw2
      have HQ2 := Lib.hid hq2
      clear hq1 hq2 rw2
      clear b2
      have NB3 := Lib.hid (Bk.new w2 #[.int .i64 11, .int .i64 56, .string ⟨#[]⟩, .string ⟨#[]⟩, .slice (some ⟨q, 0, none⟩) 1 1] 60)
      have B3 := Lib.hid (show Below w2.heap.size w2 (w2.alloc (.cells #[.int .i64 11, .int .i64 56, .string ⟨#[]⟩, .string ⟨#[]⟩, .slice (some ⟨q, 0, none⟩) 1 1] 60)) from (Below.refl _ _).alloc (Nat.le_refl _) _)
      have F3 := Lib.hid (F2.out.quiet B3.out)
      have P3 := Lib.hid (P2.out.ext (Ext.of (Gr.quiet B3.out)))
      have N3 := Lib.hid (show Mb (X0 w0.heap.size) w0.heap.size w2.heap.size _ _ v z r _ from Mb.new F2.out.st NB3.out (Nat.le_refl _) (by have := F2.out.st.lt; unfold X0; omega))
      obtain ⟨p0, p1, p2, p3, p4⟩ := P3.out.bk.c5
      obtain ⟨n0, n1, n2, n3, n4⟩ := NB3.out.c5
      go_wp2_with fail
      clear p0 p1 p2 p3 p4 n0 n1 n2 n3 n4
      refine (_root_.Go.Proofs.YtiilpnoaocfjgaaGreatDoor.ps.impl_fits 11 56 p.l ⟨#[]⟩ ⟨#[]⟩ (some ⟨q, 0, none⟩) 1 1 p.d p.i p.g p.s _).mono ?_
      rw [HFT.out]
      rintro e w4 ⟨rfl, b4⟩
      have F4 := Lib.hid (F3.out.quiet b4)
      have P4 := Lib.hid (P3.out.ext (Ext.of (Gr.quiet b4)))
      have N4 := Lib.hid (N3.out.ext (Ext.of (Gr.quiet b4)))
      have X4 := Lib.hid ((X2.out.quiet B3.out).quiet b4)
      have HQ4 := Lib.hid (show q < w4.heap.size from Nat.lt_of_lt_of_le HQ2.out (Nat.le_trans B3.out.size b4.size))
      clear b4
      obtain ⟨r0, r1⟩ := F4.out.rb.bk.c2
      have g0 := F4.out.rb.bk.f 0
      have g1 := F4.out.rb.bk.f 1
      go_wp2
      obtain ⟨t0, t1⟩ := (F4.out.rb.bk.put2 (.int .i64 0) (.bool false)).c2
      exact bodyPost_ret (v := .agg #[.int .i64 0, .bool false]) (by simp [results, Tryz.results112, go_sem, t0, t1]) rfl ((F4.out.bad _ _ rfl))
    | true =>
      have HFT := Lib.hid (show fits 11 56 p.l p.d p.i p.g p.s = true from hft)
      rw [if_pos rfl]
      clear hzb0 hcc hi1 hE hOk h0 hft h32
      clear hst hB hPb hRb hz hi hl hc hlt
      go_enter Tryz.func112, Tryz.ntmps112
      go_wp2_with fail
      rw [← hW]
      clear hW
      refine HNX.out.mono ?_
      rintro e w1 ⟨rfl, b1⟩
      have F1 := Lib.hid (F0.out.quiet b1)
      have P1 := Lib.hid (P0.out.ext (Ext.of (Gr.quiet b1)))
      clear b1
      go_wp2_with fail
      refine (begun_56 _ _).mono ?_
      rintro e w2 ⟨u, rfl, b2, nr⟩
      have F2 := Lib.hid (F1.out.quiet b2)
      have P2 := Lib.hid (P1.out.ext (Ext.of (Gr.quiet b2)))
      obtain ⟨q, hq1, hq2, rfl, rw2⟩ := nr.rw (by decide) (by decide) F1.out.st
      have HQ1 := Lib.hid (show w.heap.size + 1 < q from Nat.lt_trans F1.out.rb.bk.lt hq1)
      have X2 := Lib.hid rw2
      have HQ2 := Lib.hid hq2
      clear hq1 hq2 rw2
      clear b2
      have NB3 := Lib.hid (Bk.new w2 #[.int .i64 11, .int .i64 56, .string ⟨#[]⟩, .string ⟨#[]⟩, .slice (some ⟨q, 0, none⟩) 1 1] 60)
      have B3 := Lib.hid (show Below w2.heap.size w2 (w2.alloc (.cells #[.int .i64 11, .int .i64 56, .string ⟨#[]⟩, .string ⟨#[]⟩, .slice (some ⟨q, 0, none⟩) 1 1] 60)) from (Below.refl _ _).alloc (Nat.le_refl _) _)
      have F3 := Lib.hid (F2.out.quiet B3.out)
      have P3 := Lib.hid (P2.out.ext (Ext.of (Gr.quiet B3.out)))
      have N3 := Lib.hid (show Mb (X0 w0.heap.size) w0.heap.size w2.heap.size _ _ v z r _ from Mb.new F2.out.st NB3.out (Nat.le_refl _) (by have := F2.out.st.lt; unfold X0; omega))
      obtain ⟨p0, p1, p2, p3, p4⟩ := P3.out.bk.c5
      obtain ⟨n0, n1, n2, n3, n4⟩ := NB3.out.c5
      go_wp2_with fail
      clear p0 p1 p2 p3 p4 n0 n1 n2 n3 n4
      refine (_root_.Go.Proofs.YtiilpnoaocfjgaaGreatDoor.ps.impl_fits 11 56 p.l ⟨#[]⟩ ⟨#[]⟩ (some ⟨q, 0, none⟩) 1 1 p.d p.i p.g p.s _).mono ?_
      rw [HFT.out]
      rintro e w4 ⟨rfl, b4⟩
      have F4 := Lib.hid (F3.out.quiet b4)
      have P4 := Lib.hid (P3.out.ext (Ext.of (Gr.quiet b4)))
      have N4 := Lib.hid (N3.out.ext (Ext.of (Gr.quiet b4)))
      have X4 := Lib.hid ((X2.out.quiet B3.out).quiet b4)
      have HQ4 := Lib.hid (show q < w4.heap.size from Nat.lt_of_lt_of_le HQ2.out (Nat.le_trans B3.out.size b4.size))
      clear b4
      obtain ⟨p0, p1, p2, p3, p4⟩ := P4.out.bk.c5
      obtain ⟨n0, n1, n2, n3, n4⟩ := N4.out.bk.c5
      go_wp2_with fail
      clear p0 p1 p2 p3 p4 n0 n1 n2 n3 n4
      refine (HM.out _ q _ F4.out.st HQ4.out X4.out).mono ?_
      rintro e w9 h9
      obtain ⟨rfl, hv9⟩ := id h9
      have H9 := Lib.hid h9
      have R9 := Lib.hid (resq0_bk F4.out h9 (by have := HQ1.out; omega))
      obtain ⟨r0, r1⟩ := R9.out.c2
      have g0 := R9.out.f 0
      have g1 := R9.out.f 1
      clear h9 hv9
      go_wp2
      obtain ⟨t0, t1⟩ := (R9.out.put2 (.int .i64 (lvR (pfx E 11 56 p i))) (.bool (tgR (pfx E 11 56 p i)))).c2
      exact bodyPost_ret (v := .agg #[.int .i64 (lvR (pfx E 11 56 p i)), .bool (tgR (pfx E 11 56 p i))]) (by simp [results, Tryz.results112, go_sem, t0, t1]) rfl (resq0 (.inl (by have := HQ1.out; omega)) F4.out H9.out (by have := HQ1.out; omega) _ _)
  by_cases hc61 : c = 61
  · subst hc61
    have hi1 := kd_lt (l := l) (i := i) (by omega)
    have HM := (fun u q W2 (s2 : St w0 a l.length cap i v z r W2) hq2 hr2 => prefixed_any hE hOk 11 61 ⟨#[]⟩ rfl h0 (z.map (·.1)) u q p W2 hi1 hl hc hz s2 hq2 hr2 hzb0)
    rw [show bgR E l 61 p i = (pfx E 11 61 p i) from by simp [bgR]]
    have HM := Lib.hid HM
    rw [show bgK 61 = 11 from rfl, show bgO 61 = 61 from rfl]
    cases hft : ft 11 61 p with
    | false =>
      have HFT := Lib.hid (show fits 11 61 p.l p.d p.i p.g p.s = false from hft)
      rw [if_neg (by decide)]
      clear hzb0 hcc hi1 hE hOk h0 hft h32
      clear hst hB hPb hRb hz hi hl hc hlt
      go_enter Tryz.func112, Tryz.ntmps112
      go_wp2_with fail
      rw [← hW]
      clear hW
      refine HNX.out.mono ?_
      rintro e w1 ⟨rfl, b1⟩
      have F1 := Lib.hid (F0.out.quiet b1)
      have P1 := Lib.hid (P0.out.ext (Ext.of (Gr.quiet b1)))
      clear b1
      go_wp2_with fail
      refine (begun_61 _ _).mono ?_
      rintro e w2 ⟨u, rfl, b2, nr⟩
      have F2 := Lib.hid (F1.out.quiet b2)
      have P2 := Lib.hid (P1.out.ext (Ext.of (Gr.quiet b2)))
      obtain ⟨q, hq1, hq2, rfl, rw2⟩ := nr.rw (by decide) (by decide) F1.out.st
      have HQ1 := Lib.hid (show w.heap.size + 1 < q from Nat.lt_trans F1.out.rb.bk.lt hq1)
      have X2 := Lib.hid rw2
      have HQ2 := Lib.hid hq2
      clear hq1 hq2 rw2
      clear b2
      have NB3 := Lib.hid (Bk.new w2 #[.int .i64 11, .int .i64 61, .string ⟨#[]⟩, .string ⟨#[]⟩, .slice (some ⟨q, 0, none⟩) 1 1] 60)
      have B3 := Lib.hid (show Below w2.heap.size w2 (w2.alloc (.cells #[.int .i64 11, .int .i64 61, .string ⟨#[]⟩, .string ⟨#[]⟩, .slice (some ⟨q, 0, none⟩) 1 1] 60)) from (Below.refl _ _).alloc (Nat.le_refl _) _)
      have F3 := Lib.hid (F2.out.quiet B3.out)
      have P3 := Lib.hid (P2.out.ext (Ext.of (Gr.quiet B3.out)))
      have N3 := Lib.hid (show Mb (X0 w0.heap.size) w0.heap.size w2.heap.size _ _ v z r _ from Mb.new F2.out.st NB3.out (Nat.le_refl _) (by have := F2.out.st.lt; unfold X0; omega))
      obtain ⟨p0, p1, p2, p3, p4⟩ := P3.out.bk.c5
      obtain ⟨n0, n1, n2, n3, n4⟩ := NB3.out.c5
      go_wp2_with fail
      clear p0 p1 p2 p3 p4 n0 n1 n2 n3 n4
      refine (_root_.Go.Proofs.YtiilpnoaocfjgaaGreatDoor.ps.impl_fits 11 61 p.l ⟨#[]⟩ ⟨#[]⟩ (some ⟨q, 0, none⟩) 1 1 p.d p.i p.g p.s _).mono ?_
      rw [HFT.out]
      rintro e w4 ⟨rfl, b4⟩
      have F4 := Lib.hid (F3.out.quiet b4)
      have P4 := Lib.hid (P3.out.ext (Ext.of (Gr.quiet b4)))
      have N4 := Lib.hid (N3.out.ext (Ext.of (Gr.quiet b4)))
      have X4 := Lib.hid ((X2.out.quiet B3.out).quiet b4)
      have HQ4 := Lib.hid (show q < w4.heap.size from Nat.lt_of_lt_of_le HQ2.out (Nat.le_trans B3.out.size b4.size))
      clear b4
      obtain ⟨r0, r1⟩ := F4.out.rb.bk.c2
      have g0 := F4.out.rb.bk.f 0
      have g1 := F4.out.rb.bk.f 1
      go_wp2
      obtain ⟨t0, t1⟩ := (F4.out.rb.bk.put2 (.int .i64 0) (.bool false)).c2
      exact bodyPost_ret (v := .agg #[.int .i64 0, .bool false]) (by simp [results, Tryz.results112, go_sem, t0, t1]) rfl ((F4.out.bad _ _ rfl))
    | true =>
      have HFT := Lib.hid (show fits 11 61 p.l p.d p.i p.g p.s = true from hft)
      rw [if_pos rfl]
      clear hzb0 hcc hi1 hE hOk h0 hft h32
      clear hst hB hPb hRb hz hi hl hc hlt
      go_enter Tryz.func112, Tryz.ntmps112
      go_wp2_with fail
      rw [← hW]
      clear hW
      refine HNX.out.mono ?_
      rintro e w1 ⟨rfl, b1⟩
      have F1 := Lib.hid (F0.out.quiet b1)
      have P1 := Lib.hid (P0.out.ext (Ext.of (Gr.quiet b1)))
      clear b1
      go_wp2_with fail
      refine (begun_61 _ _).mono ?_
      rintro e w2 ⟨u, rfl, b2, nr⟩
      have F2 := Lib.hid (F1.out.quiet b2)
      have P2 := Lib.hid (P1.out.ext (Ext.of (Gr.quiet b2)))
      obtain ⟨q, hq1, hq2, rfl, rw2⟩ := nr.rw (by decide) (by decide) F1.out.st
      have HQ1 := Lib.hid (show w.heap.size + 1 < q from Nat.lt_trans F1.out.rb.bk.lt hq1)
      have X2 := Lib.hid rw2
      have HQ2 := Lib.hid hq2
      clear hq1 hq2 rw2
      clear b2
      have NB3 := Lib.hid (Bk.new w2 #[.int .i64 11, .int .i64 61, .string ⟨#[]⟩, .string ⟨#[]⟩, .slice (some ⟨q, 0, none⟩) 1 1] 60)
      have B3 := Lib.hid (show Below w2.heap.size w2 (w2.alloc (.cells #[.int .i64 11, .int .i64 61, .string ⟨#[]⟩, .string ⟨#[]⟩, .slice (some ⟨q, 0, none⟩) 1 1] 60)) from (Below.refl _ _).alloc (Nat.le_refl _) _)
      have F3 := Lib.hid (F2.out.quiet B3.out)
      have P3 := Lib.hid (P2.out.ext (Ext.of (Gr.quiet B3.out)))
      have N3 := Lib.hid (show Mb (X0 w0.heap.size) w0.heap.size w2.heap.size _ _ v z r _ from Mb.new F2.out.st NB3.out (Nat.le_refl _) (by have := F2.out.st.lt; unfold X0; omega))
      obtain ⟨p0, p1, p2, p3, p4⟩ := P3.out.bk.c5
      obtain ⟨n0, n1, n2, n3, n4⟩ := NB3.out.c5
      go_wp2_with fail
      clear p0 p1 p2 p3 p4 n0 n1 n2 n3 n4
      refine (_root_.Go.Proofs.YtiilpnoaocfjgaaGreatDoor.ps.impl_fits 11 61 p.l ⟨#[]⟩ ⟨#[]⟩ (some ⟨q, 0, none⟩) 1 1 p.d p.i p.g p.s _).mono ?_
      rw [HFT.out]
      rintro e w4 ⟨rfl, b4⟩
      have F4 := Lib.hid (F3.out.quiet b4)
      have P4 := Lib.hid (P3.out.ext (Ext.of (Gr.quiet b4)))
      have N4 := Lib.hid (N3.out.ext (Ext.of (Gr.quiet b4)))
      have X4 := Lib.hid ((X2.out.quiet B3.out).quiet b4)
      have HQ4 := Lib.hid (show q < w4.heap.size from Nat.lt_of_lt_of_le HQ2.out (Nat.le_trans B3.out.size b4.size))
      clear b4
      obtain ⟨p0, p1, p2, p3, p4⟩ := P4.out.bk.c5
      obtain ⟨n0, n1, n2, n3, n4⟩ := N4.out.bk.c5
      go_wp2_with fail
      clear p0 p1 p2 p3 p4 n0 n1 n2 n3 n4
      refine (HM.out _ q _ F4.out.st HQ4.out X4.out).mono ?_
      rintro e w9 h9
      obtain ⟨rfl, hv9⟩ := id h9
      have H9 := Lib.hid h9
      have R9 := Lib.hid (resq0_bk F4.out h9 (by have := HQ1.out; omega))
      obtain ⟨r0, r1⟩ := R9.out.c2
      have g0 := R9.out.f 0
      have g1 := R9.out.f 1
      clear h9 hv9
      go_wp2
      obtain ⟨t0, t1⟩ := (R9.out.put2 (.int .i64 (lvR (pfx E 11 61 p i))) (.bool (tgR (pfx E 11 61 p i)))).c2
      exact bodyPost_ret (v := .agg #[.int .i64 (lvR (pfx E 11 61 p i)), .bool (tgR (pfx E 11 61 p i))]) (by simp [results, Tryz.results112, go_sem, t0, t1]) rfl (resq0 (.inl (by have := HQ1.out; omega)) F4.out H9.out (by have := HQ1.out; omega) _ _)
  have hk0 : bgK c = 0 := by unfold bgK; rw [if_neg (by omega), if_neg (by omega), if_neg (by omega), if_neg (by omega), if_neg (by omega), if_neg (by omega), if_neg (by omega), if_neg (by omega), if_neg (by omega)]
  have hff : ∀ o, ft 0 o p = false := fun o => by unfold ft fits; rw [show lv.levelOf 0 o = 0 from by simp [lv.levelOf]]; simp
  have HFT := Lib.hid (show fits 0 0 p.l p.d p.i p.g p.s = false from hff 0)
  rw [hk0, if_neg (by rw [hff]; decide)]
  clear hzb0 hcc hE hOk h0 h32 hff hc3 hc4 hc5 hc6 hc7 hc8 hc68 hc51 hc52 hc55 hc56 hc61
  clear hst hB hPb hRb hz hi hl hc hlt
  go_enter Tryz.func112, Tryz.ntmps112
  go_wp2_with fail
  rw [← hW]
  clear hW
  refine HNX.out.mono ?_
  rintro e w1 ⟨rfl, b1⟩
  have F1 := Lib.hid (F0.out.quiet b1)
  have P1 := Lib.hid (P0.out.ext (Ext.of (Gr.quiet b1)))
  clear b1
  go_wp2_with fail
  refine (begun_none _ _ hk0 _).mono ?_
  rintro e w2 ⟨u, rfl, b2, nr⟩
  have F2 := Lib.hid (F1.out.quiet b2)
  have P2 := Lib.hid (P1.out.ext (Ext.of (Gr.quiet b2)))
  rcases nr with ⟨-, rfl⟩ | ⟨hm, -⟩
  case inr => exact absurd hm (by decide)
  case inl =>
    clear b2
    have NB3 := Lib.hid (Bk.new w2 #[.int .i64 0, .int .i64 0, .string ⟨#[]⟩, .string ⟨#[]⟩, .slice none 0 0] 60)
    have B3 := Lib.hid (show Below w2.heap.size w2 (w2.alloc (.cells #[.int .i64 0, .int .i64 0, .string ⟨#[]⟩, .string ⟨#[]⟩, .slice none 0 0] 60)) from (Below.refl _ _).alloc (Nat.le_refl _) _)
    have F3 := Lib.hid (F2.out.quiet B3.out)
    have P3 := Lib.hid (P2.out.ext (Ext.of (Gr.quiet B3.out)))
    have N3 := Lib.hid (show Mb (X0 w0.heap.size) w0.heap.size w2.heap.size _ _ v z r _ from Mb.new F2.out.st NB3.out (Nat.le_refl _) (by have := F2.out.st.lt; unfold X0; omega))
    obtain ⟨p0, p1, p2, p3, p4⟩ := P3.out.bk.c5
    obtain ⟨n0, n1, n2, n3, n4⟩ := NB3.out.c5
    go_wp2_with fail
    clear p0 p1 p2 p3 p4 n0 n1 n2 n3 n4
    refine (_root_.Go.Proofs.YtiilpnoaocfjgaaGreatDoor.ps.impl_fits 0 0 p.l ⟨#[]⟩ ⟨#[]⟩ none 0 0 p.d p.i p.g p.s _).mono ?_
    rw [HFT.out]
    rintro e w4 ⟨rfl, b4⟩
    have F4 := Lib.hid (F3.out.quiet b4)
    have P4 := Lib.hid (P3.out.ext (Ext.of (Gr.quiet b4)))
    have N4 := Lib.hid (N3.out.ext (Ext.of (Gr.quiet b4)))
    clear b4
    obtain ⟨r0, r1⟩ := F4.out.rb.bk.c2
    have g0 := F4.out.rb.bk.f 0
    have g1 := F4.out.rb.bk.f 1
    go_wp2
    obtain ⟨t0, t1⟩ := (F4.out.rb.bk.put2 (.int .i64 0) (.bool false)).c2
    exact bodyPost_ret (v := .agg #[.int .i64 0, .bool false]) (by simp [results, Tryz.results112, go_sem, t0, t1]) rfl ((F4.out.bad _ _ rfl))
end
end Go.Proofs.YtiilpnoaocfjgaaGreatDoor.pr
