/-
  laws.markText: a contract.
-/
import Derived.Test.YtckeepjfbpphaaaGreatDoorNdTo
import Derived.Test.YtckeepjfbpphaaaGreatDoorBytes
import Derived.Lib.Strings
namespace Go.Proofs.YtckeepjfbpphaaaGreatDoor.mark
open Go.ChangeShapes Go.WideShapes Go.ChangeAt Go.RowKit
open nd
set_option linter.unusedVariables false

def markGo (k : Nat) (out : ByteArray) : ByteArray := if h : k = 0 then out else markGo (k / 10) (⟨#[UInt8.ofNat (48 + k % 10)]⟩ ++ out)
termination_by k
decreasing_by omega
def markF (k : Nat) : ByteArray := if k = 0 then ⟨#[109, 48]⟩ else ⟨#[109]⟩ ++ markGo k ⟨#[]⟩
theorem go_step {k : Nat} {out : ByteArray} (h : ¬ k = 0) : markGo k out = markGo (k / 10) (⟨#[UInt8.ofNat (48 + k % 10)]⟩ ++ out) := by rw [markGo, dif_neg h]
theorem go_end (out : ByteArray) : markGo 0 out = out := by rw [markGo, dif_pos rfl]

/-- The byte of a number. -/
def dgt (x : Int) : UInt8 := UInt8.ofNat x.toNat
theorem dgt_nat (K : Nat) : dgt (48 + (K : Int) % 10) = UInt8.ofNat (48 + K % 10) := by unfold dgt; congr 1
theorem conv_dgt (w : World) (x : Int) (h0 : 0 ≤ x) (h1 : x < 256) :
    (convert 50 9 (.slice (some ⟨w.heap.size, 0, none⟩) 1 1)).run Tryz.prog (w.alloc (.cells #[.int .u8 x] 5)) = .ok (.string ⟨#[dgt x]⟩) (w.alloc (.cells #[.int .u8 x] 5)) := conv_one w x h0 h1

def RelM (W : World) (k0 : Nat) (k out : Value) (wr : World) : Prop :=
  ∃ (K : Nat) (o : ByteArray), k = .int .i64 (K : Int) ∧ out = .string o ∧ markGo K o = markGo k0 ⟨#[]⟩ ∧ o.size + K ≤ k0 ∧ Below W.heap.size W wr

set_option maxRecDepth 20000 in
theorem mark_text (k : Nat) (w : World) (hk0 : 0 < k) (hk : k ≤ 100000000) :
    Calls Tryz.prog 18 #[.int .i64 (k : Int)] w fun e w' => e = .returned (.string (markF k)) ∧ Below w.heap.size w w' := by
  have HM := Lib.hid (show markF k = ⟨#[109]⟩ ++ markGo k ⟨#[]⟩ by unfold markF; rw [if_neg (by omega)])
  go_enter Tryz.func18, Tryz.ntmps18
  go_wp2
  go_loopw [0, 3] (fun v o wr => RelM w k v o wr) (fun v _ _ => (intOf v).toNat)
  case atStart => exact ⟨k, ⟨#[]⟩, rfl, rfl, rfl, by show 0 + k ≤ k; omega, Below.refl _ _⟩
  case round =>
    obtain ⟨K, o, rfl, rfl, hgo, hsz, hbel⟩ := hrel
    have HGO := Lib.hid hgo
    have HBEL := Lib.hid hbel
    clear hgo hbel
    by_cases h0 : K = 0
    · subst h0
      have HE := Lib.hid (HGO.out.symm.trans (go_end o))
      have ka := fun w => run_string_add_sum (P := Tryz.prog) (w := w) ⟨#[109]⟩ o (by show 1 + o.size ≤ _; omega)
      go_wp2
      go_ret
      exact ⟨by rw [HM.out, HE.out]; rfl, HBEL.out⟩
    · have hK0 : (0 : Int) < (K : Int) := by omega
      have hlim1 : K ≤ 100000000 := by omega
      have hlim2 : o.size ≤ 100000000 := by omega
      have HSZ := Lib.hid hsz
      have HKK := Lib.hid hk
      clear hsz hk
      have HG := Lib.hid ((go_step (out := o) h0).symm.trans HGO.out)
      have kc := conv_dgt wr (48 + (K : Int) % 10) (by omega) (by omega)
      have HC := Lib.hid (dgt_nat K)
      have ka := fun w => run_string_add_sum (P := Tryz.prog) (w := w) ⟨#[dgt (48 + (K : Int) % 10)]⟩ o (by show 1 + o.size ≤ _; omega)
      clear h0
      go_wp2
      go_roundw
      case rel => exact ⟨K / 10, _, by go_num, rfl, by rw [HC.out]; exact HG.out, by rw [ByteArray.size_append]; show 1 + o.size + K / 10 ≤ k; have := HSZ.out; omega, HBEL.out.alloc HBEL.out.size _⟩
      case measure => simp [intOf]; omega

theorem mark_text1 (P : Nat) (w : World) (hk : P + 1 ≤ 100000000) :
    Calls Tryz.prog 18 #[.int .i64 ((P : Int) + 1)] w fun e w' => e = .returned (.string (markF (P + 1))) ∧ Below w.heap.size w w' := by
  have := mark_text (P + 1) w (by omega) hk
  rwa [show ((P + 1 : Nat) : Int) = (P : Int) + 1 by omega] at this

end Go.Proofs.YtckeepjfbpphaaaGreatDoor.mark
