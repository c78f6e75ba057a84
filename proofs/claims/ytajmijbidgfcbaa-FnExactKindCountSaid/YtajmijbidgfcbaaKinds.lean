/-
  KindCount of both sides: how many nodes are of a kind ('kcount').
-/
import Derived.Test.YtajmijbidgfcbaaNdEq
namespace Go.Proofs.Ytajmijbidgfcbaa.nd
open Go.ChangeShapes Go.WideShapes Go.ChangeAt Go.RowKit
set_option linter.unusedVariables false

def kcount (q : Int) (l : List Nd) : Nat := (l.filter (fun n => decide (n.k = q))).length
theorem kcount_le (q : Int) (l : List Nd) : kcount q l ≤ l.length := List.length_filter_le _ _
theorem kcount_step (q : Int) {l : List Nd} {I : Nat} (h : I < l.length) : kcount q (l.take (I + 1)) = kcount q (l.take I) + if l[I].k = q then 1 else 0 := by
  unfold kcount
  rw [List.take_succ_eq_append_getElem h, List.filter_append, List.length_append]
  by_cases hq : l[I].k = q
  · rw [if_pos hq, List.filter_cons_of_pos (by simpa using hq)]; rfl
  · rw [if_neg hq, List.filter_cons_of_neg (by simpa using hq)]; rfl
def RelKind (B : Nat) (W : World) (l : List Nd) (q : Int) (c i : Value) (wr : World) : Prop :=
  ∃ I : Nat, I ≤ l.length ∧ c = .int .i64 (kcount q (l.take I) : Int) ∧ i = .int .i64 (I : Int) ∧ Below B W wr

set_option maxHeartbeats 1600000 in
theorem spec_kinds (l : List Nd) (q : Int) (a : Option Addr) (cap : Nat) (w : World) (hn : l.length ≤ 1048576) (hc : Lies w.heap.size w a l) :
    Calls Try.prog 28 #[.slice a l.length cap, .int .i64 q] w fun e w' => e = .returned (.int .i64 (kcount q l : Int)) ∧ Below w.heap.size w w' := by
  have HC := Lib.hid hc
  clear hc
  go_enter Try.func28, Try.ntmps28
  go_wp2
  go_loopw [5, 6] (fun c i wr => RelKind w.heap.size w l q c i wr) (fun c i _ => l.length - (intOf i).toNat)
  case atStart => exact ⟨0, by omega, rfl, rfl, Below.refl _ _⟩
  case round =>
    obtain ⟨I, hI, rfl, rfl, hbel⟩ := hrel
    have HB := Lib.hid hbel
    have hkc := kcount_le q (l.take I)
    rw [List.length_take] at hkc
    obtain ⟨K, hK⟩ : ∃ K, K = kcount q (l.take I) := ⟨_, rfl⟩
    have HK := Lib.hid hK
    rw [← hK] at hkc ⊢
    have hK2 : K ≤ 1048576 := by omega
    clear hbel hK hkc
    by_cases hlt : I < l.length
    · obtain ⟨b, o, rfl, hb, hcell⟩ := lies_at HC.out hlt
      obtain ⟨ak, ck, ⟨c0, c1, c2, c3, c4⟩, hik⟩ := (hcell I hlt).keep HB.out (Nat.le_refl _) hb
      have HS := Lib.hid (kcount_step q hlt)
      obtain ⟨t, ht⟩ : ∃ t, t = l[I] := ⟨_, rfl⟩
      rw [← ht] at c0 c1 c2 c3 c4 HS
      clear ht hcell hik
      have hi1 : (I : Int) < (l.length : Int) := by omega
      by_cases hk : t.k = q
      · obtain ⟨k1, k2⟩ := eq_facts hk
        have HN := Lib.hid (show kcount q (l.take (I + 1)) = K + 1 by rw [HS.out, if_pos hk, HK.out])
        clear hk
        go_wp2
        go_roundw
        case rel => exact ⟨I + 1, by omega, congrArg (Value.int .i64) (by rw [HN.out]; omega), by go_num, HB.out⟩
        case measure => simp [intOf]; omega
      · obtain ⟨k1, k2⟩ := ne_facts hk
        have HN := Lib.hid (show kcount q (l.take (I + 1)) = K by rw [HS.out, if_neg hk, HK.out, Nat.add_zero])
        clear hk
        go_wp2
        go_roundw
        case rel => exact ⟨I + 1, by omega, congrArg (Value.int .i64) (by rw [HN.out]), by go_num, HB.out⟩
        case measure => simp [intOf]; omega
    · obtain rfl : I = l.length := by omega
      have HN := Lib.hid (show (K : Int) = (kcount q l : Int) by rw [HK.out, List.take_length])
      go_wp2
      go_ret
      exact ⟨by rw [← HN.out]; rfl, HB.out⟩

set_option maxHeartbeats 1600000 in
theorem impl_kinds (l : List Nd) (q : Int) (a : Option Addr) (cap : Nat) (w : World) (hn : l.length ≤ 1048576) (hc : Lies w.heap.size w a l) :
    Calls Try.prog 29 #[.slice a l.length cap, .int .i64 q] w fun e w' => e = .returned (.int .i64 (kcount q l : Int)) ∧ Below w.heap.size w w' := by
  have HC := Lib.hid hc
  clear hc
  go_enter Try.func29, Try.ntmps29
  go_wp2
  go_loopw [5, 10] (fun c i wr => RelKind w.heap.size w l q c i wr) (fun c i _ => l.length - (intOf i).toNat)
  case atStart => exact ⟨0, by omega, rfl, rfl, Below.refl _ _⟩
  case round =>
    obtain ⟨I, hI, rfl, rfl, hbel⟩ := hrel
    have HB := Lib.hid hbel
    have hkc := kcount_le q (l.take I)
    rw [List.length_take] at hkc
    obtain ⟨K, hK⟩ : ∃ K, K = kcount q (l.take I) := ⟨_, rfl⟩
    have HK := Lib.hid hK
    rw [← hK] at hkc ⊢
    have hK2 : K ≤ 1048576 := by omega
    clear hbel hK hkc
    by_cases hlt : I < l.length
    · obtain ⟨b, o, rfl, hb, hcell⟩ := lies_at HC.out hlt
      obtain ⟨ak, ck, ⟨c0, c1, c2, c3, c4⟩, hik⟩ := (hcell I hlt).keep HB.out (Nat.le_refl _) hb
      have HS := Lib.hid (kcount_step q hlt)
      obtain ⟨t, ht⟩ : ∃ t, t = l[I] := ⟨_, rfl⟩
      rw [← ht] at c0 c1 c2 c3 c4 HS
      clear ht hcell hik
      have hi1 : (I : Int) < (l.length : Int) := by omega
      by_cases hk : t.k = q
      · obtain ⟨k1, k2⟩ := eq_facts hk
        have HN := Lib.hid (show kcount q (l.take (I + 1)) = K + 1 by rw [HS.out, if_pos hk, HK.out])
        clear hk
        go_wp2
        go_roundw
        case rel => exact ⟨I + 1, by omega, congrArg (Value.int .i64) (by rw [HN.out]; omega), by go_num, HB.out.alloc HB.out.size _⟩
        case measure => simp [intOf]; omega
      · obtain ⟨k1, k2⟩ := ne_facts hk
        have HN := Lib.hid (show kcount q (l.take (I + 1)) = K by rw [HS.out, if_neg hk, HK.out, Nat.add_zero])
        clear hk
        go_wp2
        go_roundw
        case rel => exact ⟨I + 1, by omega, congrArg (Value.int .i64) (by rw [HN.out]), by go_num, HB.out.alloc HB.out.size _⟩
        case measure => simp [intOf]; omega
    · obtain rfl : I = l.length := by omega
      have HN := Lib.hid (show (K : Int) = (kcount q l : Int) by rw [HK.out, List.take_length])
      go_wp2
      go_ret
      exact ⟨by rw [← HN.out]; rfl, HB.out⟩
end Go.Proofs.Ytajmijbidgfcbaa.nd
