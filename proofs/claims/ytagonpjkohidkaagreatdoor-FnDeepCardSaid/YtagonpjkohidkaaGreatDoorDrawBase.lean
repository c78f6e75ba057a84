/-
  The verifier's drawing functions of chapter 1 (spec.l1New, l1PickInt, l1Num, l1Text, DrawVar, DrawHex, DrawReadVar): what each answers.
-/
import Derived.Test.YtagonpjkohidkaaGreatDoorDraw
import Derived.StillTactics
import Derived.Lib.Strings
namespace Go.Proofs.YtagonpjkohidkaaGreatDoor.draw
open Go.ChangeShapes Go.WideShapes Go.ChangeAt Go.RowKit
set_option linter.unusedVariables false

/-! ### A new cursor -/
def hF (zs : List Int) (len : Nat) : Int := (zs.take 4000).foldl (fun h z => (h * 131 + z + 7) % 1073741824) (10101 + (len : Int))
theorem hF_step (zs : List Int) (len I : Nat) (hI : I < zs.length) :
    (zs.take (I + 1)).foldl (fun h z => (h * 131 + z + 7) % 1073741824) (10101 + (len : Int)) = ((zs.take I).foldl (fun h z => (h * 131 + z + 7) % 1073741824) (10101 + (len : Int)) * 131 + zs.getD I 0 + 7) % 1073741824 := by
  rw [List.take_succ_eq_append_getElem hI, List.foldl_append, List.getD_eq_getElem?_getD, List.getElem?_eq_getElem hI]
  rfl

/-- The loop's relation. -/
def RelNew (zs : List Int) (len : Nat) (h i : Value) : Prop := ∃ (I : Nat) (x : Int), I ≤ len ∧ I ≤ 4000 ∧ i = .int .i64 I ∧ h = .int .i64 x ∧ 0 ≤ x ∧ x < 1099511627776 ∧ x = (zs.take I).foldl (fun h z => (h * 131 + z + 7) % 1073741824) (10101 + (len : Int))

set_option maxHeartbeats 400000 in
theorem new_any {B len cap : Nat} {w : World} {a : Option Addr} {zs : List Int} (hc : Code B w a len zs) (hB : B ≤ w.heap.size) (hl : len ≤ 1048576) :
    Calls Tryz.prog 35 #[.slice a len cap] w fun e w' => e = .returned (.pointer (some ⟨w.heap.size, 0, none⟩)) ∧ In B w' w.heap.size a len cap zs (0, hF zs len) ∧ Below B w w' := by
  have HC := Lib.hid hc
  have hz := hc.1
  have hm := i64_and30
  go_enter Tryz.func35, Tryz.ntmps35
  go_wp2
  go_loop [3, 4] (fun h i => RelNew zs len h i) (fun _ i => (len - (intOf i).toNat))
  case atStart => exact ⟨0, _, by omega, by omega, rfl, rfl, by omega, by omega, rfl⟩
  case round =>
    obtain ⟨I, x, hI, hI4, rfl, rfl, hx0, hx1, hx⟩ := hrel
    have HX := Lib.hid hx
    clear hx
    by_cases hlt : I < len ∧ I < 4000
    · obtain ⟨hll, hl4⟩ := hlt
      obtain ⟨b, o, rfl, hbB, hcell⟩ : ∃ b o, a = some ⟨b, o, none⟩ ∧ b < B ∧ ∀ j, j < len → w.cell? ⟨b, o + j, none⟩ = some (.int .u8 (zs.getD j 0)) := by
        rcases HC.out.2.2 with h0 | h0
        · omega
        · exact h0
      have hcx := hcell I hll
      have hzb : 0 ≤ zs.getD I 0 ∧ zs.getD I 0 < 256 := by
        have : I < zs.length := by omega
        rw [List.getD_eq_getElem?_getD, List.getElem?_eq_getElem this]
        exact HC.out.2.1 _ (List.getElem_mem this)
      have HS := Lib.hid (hF_step zs len I (by omega))
      obtain ⟨z, hzz⟩ : ∃ z, z = zs.getD I 0 := ⟨_, rfl⟩
      have HZZ := Lib.hid hzz
      rw [← hzz] at hcx hzb
      have hi1 : (I : Int) < (len : Int) := by omega
      have hi2 : (I : Int) < 4000 := by omega
      clear hcell hzz hz
      go_wp2
      go_round
      case rel => exact ⟨I + 1, _, by omega, by omega, by go_num, rfl, by omega, by omega, by rw [HS.out, ← HX.out, ← HZZ.out]⟩
      case measure => simp [intOf]; omega
    · have HH := Lib.hid (show x = hF zs len by
        rw [HX.out]
        unfold hF
        congr 1
        by_cases h : I < len
        · rw [show I = 4000 by omega]
        · rw [List.take_of_length_le (by omega), List.take_of_length_le (by omega)])
      have fin : In B (w.alloc (.cells #[.slice a len cap, .int .i64 0, .int .i64 x] 104)) w.heap.size a len cap zs (0, hF zs len) ∧ Below B w (w.alloc (.cells #[.slice a len cap, .int .i64 0, .int .i64 x] 104)) := by
        have hb : Below B w (w.alloc (.cells #[.slice a len cap, .int .i64 0, .int .i64 x] 104)) := (Below.refl B w).alloc hB _
        refine ⟨⟨HC.out.keep hb, ?_, hB, by simp, hl⟩, hb⟩
        rw [← HH.out]
        exact heap_alloc_new w _
      have FIN := Lib.hid fin
      clear fin hz
      by_cases hll : I < len
      · have hi1 : (I : Int) < (len : Int) := by omega
        have hi2 : ¬ (I : Int) < 4000 := by omega
        clear hlt
        go_wp2
        go_ret
        exact ⟨rfl, FIN.out⟩
      · have hi1 : ¬ (I : Int) < (len : Int) := by omega
        clear hlt
        go_wp2
        go_ret
        exact ⟨rfl, FIN.out⟩

/-! ### Picks -/
theorem once_any {B p len cap : Nat} {w : World} {a : Option Addr} {zs : List Int} {s : Nat × Int} (n : Int) (H : In B w p a len cap zs s) :
    Calls Tryz.prog 73 #[.pointer (some ⟨p, 0, none⟩), .int .i64 n] w (Out B p a len cap zs (.bool ((belowF zs n s).1 == 0)) (belowF zs n s).2 w) := by
  have HI := Lib.hid H
  clear H
  go_enter Tryz.func73, Tryz.ntmps73
  go_wp2_with fail
  refine (below_any n HI.out).mono ?_
  rintro e w1 ⟨rfl, I1, G1⟩
  have HI1 := Lib.hid I1
  clear I1
  go_wp2
  go_ret
  exact ⟨rfl, HI1.out, G1⟩

set_option maxHeartbeats 400000 in
theorem pickInt_any {B p len cap : Nat} {w : World} {a : Option Addr} {zs : List Int} {s : Nat × Int} (q n : Nat) (L : List Int) (H : In B w p a len cap zs s) (hq : w.heap[q]? = some (.cells (L.map (Value.int .i64)).toArray 3 (0, 0))) (hL : L.length = n) (hn : 0 < n) (hqp : q ≠ p) (hbig : n ≤ 1000) :
    Calls Tryz.prog 125 #[.pointer (some ⟨p, 0, none⟩), .slice (some ⟨q, 0, none⟩) n n] w (Out B p a len cap zs (.int .i64 (L.getD (belowF zs n s).1.toNat 0)) (belowF zs n s).2 w) := by
  have HI := Lib.hid H
  clear H
  have hb := belowF_bd zs n s (by omega)
  obtain ⟨K, hK⟩ : ∃ K : Nat, (belowF zs n s).1 = K := ⟨(belowF zs n s).1.toNat, by omega⟩
  have HK := Lib.hid hK
  rw [hK] at hb
  have HQ := Lib.hid hq
  clear hq hK
  go_enter Tryz.func125, Tryz.ntmps125
  go_wp2_with fail
  refine (below_any n HI.out).mono ?_
  rintro e w1 ⟨he, I1, G1⟩
  rw [HK.out] at he
  subst he
  have HI1 := Lib.hid I1
  have hq1 : w1.heap[q]? = some (.cells (L.map (Value.int .i64)).toArray 3 (0, 0)) := by
    have hlt : q < w.heap.size := lt_of_block HQ.out
    rw [G1.block q hlt (by simpa using hqp)]
    exact HQ.out
  have hcell : w1.cell? ⟨q, K, none⟩ = some (.int .i64 (L.getD K 0)) := by
    rw [cell_of_row w1 q K _ _ _ hq1]
    have : K < L.length := by omega
    simp [this]
  obtain ⟨z, hz⟩ : ∃ z, z = L.getD K 0 := ⟨_, rfl⟩
  have HZ := Lib.hid hz
  rw [← hz] at hcell
  clear I1 hq1 hz
  go_wp2
  go_ret
  exact ⟨by rw [HK.out, Int.toNat_natCast, ← HZ.out]; rfl, HI1.out, G1⟩

theorem In.keep {B base p len cap : Nat} {w w' : World} {a : Option Addr} {zs : List Int} {s : Nat × Int} (H : In B w p a len cap zs s) (hb : Below base w w') (hp : p < base) : In B w' p a len cap zs s :=
  ⟨H.code.keep (hb.mono (Nat.le_of_lt (Nat.lt_of_le_of_lt H.le hp))), by unfold Cur; rw [hb.block p hp]; exact H.cur, H.le, H.used, H.small⟩

theorem grown_below {w w1 w2 : World} {p base : Nat} (h : w.grownBy w1 (some p)) (hb : Below base w1 w2) (hw : base = w.heap.size) : w.grownBy w2 (some p) :=
  ⟨hb.os.trans h.os, hb.tape.trans h.tape, hb.output.trans h.output, Nat.le_trans h.size hb.size, fun k hk hne => (hb.block k (by omega)).trans (h.block k hk hne)⟩

end Go.Proofs.YtagonpjkohidkaaGreatDoor.draw
