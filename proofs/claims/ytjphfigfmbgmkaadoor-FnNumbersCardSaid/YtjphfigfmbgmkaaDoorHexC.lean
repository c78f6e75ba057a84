/-
  impl.Hex at every string of at most 2^20 bytes: a contract ('impl_any').
-/
import Derived.Test.YtjphfigfmbgmkaaDoorRows
import Derived.Test.YtjphfigfmbgmkaaDoorBase
import Derived.Test.YtjphfigfmbgmkaaDoorBytes
import Derived.WalkKit
import Derived.ProofKit
import Derived.OpenShut
import Derived.ShutString
import Derived.ChangeOld
import Derived.Below
import Derived.WalkSpells
import Derived.WalkLawsBesides
import Derived.RegionTactic
import Derived.Deep.RegionWith
import Derived.Lib.Strings
import Derived.IntWalk
import Derived.StillTactics
import Derived.Deep.RegionHeld3
import Derived.Deep.AppendLies
import Derived.Deep.DrawnRows
namespace Go.Proofs.YtjphfigfmbgmkaaDoor.hex
open Go.ChangeShapes Go.WideShapes Go.ChangeAt Go.RowKit
open Go.ChangeMaps (open_string shut_string)
set_option linter.unusedVariables false

/-- The sixteen digits. -/
def digits : ByteArray := ⟨#[48, 49, 50, 51, 52, 53, 54, 55, 56, 57, 97, 98, 99, 100, 101, 102]⟩
/-- Digit k. -/
def dg (k : Nat) : UInt8 := digits.data.toList.getD k 0
/-- What Hex answers. -/
def hx : List UInt8 → List UInt8
  | [] => []
  | b :: l => dg (b.toNat / 16) :: dg (b.toNat % 16) :: hx l

theorem hx_snoc : ∀ (l : List UInt8) (b : UInt8), hx (l ++ [b]) = hx l ++ [dg (b.toNat / 16), dg (b.toNat % 16)]
  | [], b => rfl
  | a :: l, b => by simp [hx, hx_snoc l b]

theorem hx_len : ∀ l : List UInt8, (hx l).length = 2 * l.length
  | [] => rfl
  | b :: l => by simp [hx, hx_len l]; omega

theorem digits_get (k : Nat) (h : k < digits.size) : digits[k] = dg k := by
  have : k < digits.data.size := h
  unfold dg
  rw [List.getD_eq_getElem?_getD]
  simp only [Array.getElem?_toList, Array.getElem?_eq_getElem this]
  rfl

/-- 'append(b, x, y)', b nil or the call's own, as a step of a region that draws its order. -/
theorem step_append_two {ops : Array Oper} {o : Oper} {a : Act} {w : World} {K : Act → World → Prop} {Q : Exit → Act → World → Prop} {E : Prop} (hgd : o.guard = none) (s x : Operand)
    (ho : o.op = .call { callee := .builtin .append, args := #[s, x], argTypes := #[22, 22] }) (base : Nat) (v : Value) (n : Nat) (l : List UInt8) (p q : UInt8) (hs : a.eval s = v)
    (hown : w.ownsRow base 5 1 v n (cellsOf l)) (ad : Addr) (hx : a.eval x = .slice (some ad) 2 2) (hnews : ∀ j u, (cellsOf [p, q])[j]? = some u → w.cell? (ad.add j) = some u) (hn : n < 70368744177664) (hbase : base ≤ w.heap.size)
    (h : ∀ v' w', w'.ownsRow base 5 1 v' (n + 2) (cellsOf (l ++ [p, q])) → (∀ W0, Below base W0 w → Below base W0 w') → K (a.put o.dst v') w') :
    if Region.wanted o (yielded ops a.tmps) = true then Oper.wp Tryd.prog o a w K Q else E := by
  obtain ⟨i0, hi, hz0, hz1, hz2⟩ := info_parts Tryd.infoByte
  refine step_append_lies w hgd s x 22 ho base 5 i0 (.int .u8 0) 1 1 Tryd.underlying22 hi hz0 hz1 hz2 rfl (by decide) v n (cellsOf l) hs hown ad 2 2 (cellsOf [p, q]) hx rfl hnews ?_ (by decide) (by unfold maxLen; omega) (by omega) hbase _ rfl ?_
  · intro u hu
    simp [cellsOf] at hu
    rcases hu with rfl | rfl <;> rfl
  · intro g cap w' hown' hg _ _
    refine h _ w' (by rw [show cellsOf (l ++ [p, q]) = cellsOf l ++ cellsOf [p, q] by simp [cellsOf]]; exact hown') fun W0 hb => ?_
    refine hb.grown hg hbase ?_
    intro k hk
    rcases hown.2 with ⟨rfl, _⟩ | ⟨g, cap, cur, rfl, hb, _⟩
    · cases hk
    · simp [Value.ownBlock] at hk
      omega

theorem hx_next (s : ByteArray) (I : Nat) (h : I < s.size) : hx (s.data.toList.take (I + 1)) = hx (s.data.toList.take I) ++ [dg ((s[I].toNat : Int) / 16).toNat, dg ((s[I].toNat : Int) % 16).toNat] := by
  rw [take_snoc s I h, hx_snoc]
  rfl

theorem take_all (s : ByteArray) : s.data.toList.take s.size = s.data.toList := by
  rw [List.take_of_length_le]
  simp

theorem ret_str {a b : ByteArray} (h : a = b) : Ending.returned (.string a) = .returned (.string b) := by rw [h]

/-- The loops' relation. -/
def Rel (s : ByteArray) (w : World) (v i : Value) (wr : World) : Prop :=
  ∃ I : Nat, I ≤ s.size ∧ i = .int .i64 I ∧ wr.ownsRow w.heap.size 5 1 v (2 * I) (cellsOf (hx (s.data.toList.take I))) ∧ Below w.heap.size w wr

set_option maxHeartbeats 400000 in
theorem impl_any (s : ByteArray) (w : World) (hs : s.size ≤ 1048576) :
    Calls Tryd.prog 16 #[.string s] w fun e w' => e = .returned (.string ⟨(hx s.data.toList).toArray⟩) ∧ Below w.heap.size w w' := by
  obtain ⟨i0, hi, hz0, hz1, hz2⟩ := info_parts Tryd.infoByte
  go_enter Tryd.func16, Tryd.ntmps16
  go_wp2_with (at_make; refine wpList_make_own _ rfl _ _ 22 rfl w.heap.size 5 i0 (.int .u8 0) 1 Tryd.underlying22 hi hz0 hz1 .i64 .i64 _ (2 * s.size) rfl rfl (by omega) (by rw [hz2]; omega) (by unfold maxLen; omega) (Nat.le_refl _) ?_; intro w1 hown hgrow)
  have hown0 : w1.ownsRow w.heap.size 5 1 (Value.slice (some ⟨w.heap.size, 0, none⟩) 0 (2 * s.size)) 0 (cellsOf []) := hown
  have hbel1 := (Below.refl w.heap.size w).grown hgrow (Nat.le_refl _) (fun _ h => by cases h)
  clear hown hgrow hi hz0 hz1 hz2 i0
  go_loopw [3, 4, 11] (fun v _ i wr => Rel s w v i wr) (fun _ _ i _ => s.size - (intOf i).toNat)
  case atStart => exact ⟨0, by omega, rfl, hown0, hbel1⟩
  case round =>
    clear hown0 hbel1
    obtain ⟨I, hI, rfl, hown, hbel⟩ := hrel
    have hbs := hbel.size
    by_cases hlt : I < s.size
    · have hc := s[I].toNat_lt
      have hb1 : ((s[I].toNat : Int) / 16).toNat < digits.size := by show _ < 16; omega
      have hb2 : ((s[I].toNat : Int) % 16).toNat < digits.size := by show _ < 16; omega
      have HS := Lib.hid (show hx (s.data.toList.take (I + 1)) = hx (s.data.toList.take I) ++ [(⟨#[48, 49, 50, 51, 52, 53, 54, 55, 56, 57, 97, 98, 99, 100, 101, 102]⟩ : ByteArray)[((s[I].toNat : Int) / 16).toNat]'hb1, (⟨#[48, 49, 50, 51, 52, 53, 54, 55, 56, 57, 97, 98, 99, 100, 101, 102]⟩ : ByteArray)[((s[I].toNat : Int) % 16).toNat]'hb2] from (hx_next s I hlt).trans (by rw [← digits_get _ hb1, ← digits_get _ hb2]; rfl))
      have hl0 : (0 : Int) ≤ (I : Int) := by omega
      have hl1 : (I : Int) < (s.size : Int) := by omega
      have e2 : ((s[I].toNat : Int)).tdiv 16 = (s[I].toNat : Int) / 16 := Int.tdiv_eq_ediv_of_nonneg (by omega)
      have e3 : IntKind.u8.wrap ((s[I].toNat : Int) / 16) = (s[I].toNat : Int) / 16 := by rw [IntKind.wrap_u8]; omega
      have e4 : ((s[I].toNat : Int)).tmod 16 = (s[I].toNat : Int) % 16 := Int.tmod_eq_emod_of_nonneg (by omega)
      have hq0 : (0 : Int) ≤ (s[I].toNat : Int) / 16 := by omega
      have hq1 : (s[I].toNat : Int) / 16 < 16 := by omega
      have hr0 : (0 : Int) ≤ (s[I].toNat : Int) % 16 := by omega
      have hr1 : (s[I].toNat : Int) % 16 < 16 := by omega
      go_wp2
      go_region_held3 (fun w' => True) (trivial)
        ((refine step_append_two (by rfl) _ _ (by rfl) w.heap.size _ (2 * I) (hx (s.data.toList.take I)) ((⟨#[48, 49, 50, 51, 52, 53, 54, 55, 56, 57, 97, 98, 99, 100, 101, 102]⟩ : ByteArray)[((s[I].toNat : Int) / 16).toNat]'hb1) ((⟨#[48, 49, 50, 51, 52, 53, 54, 55, 56, 57, 97, 98, 99, 100, 101, 102]⟩ : ByteArray)[((s[I].toNat : Int) % 16).toNat]'hb2) (by rfl) ((hown.alloc _).drew) ⟨wr.heap.size, 0, none⟩ (by rfl) (World.news_of_block (cs := #[.int .u8 (((⟨#[48, 49, 50, 51, 52, 53, 54, 55, 56, 57, 97, 98, 99, 100, 101, 102]⟩ : ByteArray)[((s[I].toNat : Int) / 16).toNat]'hb1).toNat : Int), .int .u8 (((⟨#[48, 49, 50, 51, 52, 53, 54, 55, 56, 57, 97, 98, 99, 100, 101, 102]⟩ : ByteArray)[((s[I].toNat : Int) % 16).toNat]'hb2).toNat : Int)]) (t := 5) (fr := (0, 0)) (heap_alloc_new wr _)) (by omega) (by simp; omega) ?_; intro v' w2 hown2 hbel2))
      all_goals
        go_wp2
        go_roundw
        all_goals first | (simp [intOf]; omega) | exact ⟨I + 1, by omega, by go_num, by rw [HS.out]; exact (by assumption : World.ownsRow _ _ _ _ _ (2 * I + 2) _), (by assumption : ∀ W0, Below w.heap.size W0 _ → Below w.heap.size W0 _) _ ((hbel.alloc hbs _).drew)⟩
    · obtain rfl : I = s.size := by omega
      have kc := conv_own wr w.heap.size _ (2 * s.size) (hx (s.data.toList.take s.size)) (by rw [hx_len]; simp) hown
      have HE := Lib.hid (take_all s)
      clear hown
      go_wp2
      go_ret
      exact ⟨ret_str (by rw [HE.out]), hbel⟩

end Go.Proofs.YtjphfigfmbgmkaaDoor.hex
