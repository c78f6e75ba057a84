/-
  impl.ReadFixed at every string and every width: contracts ('impl_yes', 'impl_no').
-/
import Derived.Test.YtjphfigfmbgmkaaDoorRows
import Derived.Test.YtjphfigfmbgmkaaDoorBase
import Derived.WalkKit
import Derived.ProofKit
import Derived.OpenShut
import Derived.ShutString
import Derived.ChangeOld
import Derived.Below
import Derived.WalkSpells
import Derived.WalkLawsBesides
namespace Go.Proofs.YtjphfigfmbgmkaaDoor.readFixed
open Go.ChangeShapes Go.WideShapes Go.ChangeAt Go.RowKit
open Go.ChangeMaps (open_string shut_string)
set_option linter.unusedVariables false

/-- The number that bytes say, the first one highest. -/
def be (l : List UInt8) : Int := l.foldl (fun n b => n * 256 + b.toNat) 0

theorem be_snoc (l : List UInt8) (b : UInt8) : be (l ++ [b]) = be l * 256 + b.toNat := by simp [be]

theorem be_bd (l : List UInt8) : 0 ≤ be l ∧ be l < (256 : Int) ^ l.length := by
  refine snoc_ind (P := fun l => 0 ≤ be l ∧ be l < (256 : Int) ^ l.length) (by simp [be]) ?_ l
  intro l b ih
  rw [be_snoc]
  have := b.toNat_lt
  simp only [List.length_append, List.length_singleton, Int.pow_succ]
  omega

theorem be_take (s : ByteArray) (k : Nat) (h : k < s.size) : be (s.data.toList.take (k + 1)) = be (s.data.toList.take k) * 256 + (s[k].toNat : Int) := by
  rw [take_snoc s k h, be_snoc]

theorem be_small (l : List UInt8) (k : Nat) (h : k ≤ 6) : 0 ≤ be (l.take k) ∧ be (l.take k) < 281474976710656 := by
  have := be_bd (l.take k)
  have h2 : (256 : Nat) ^ (l.take k).length ≤ 256 ^ 6 := Nat.pow_le_pow_right (by omega) (by simp; omega)
  have h3 : (256 : Nat) ^ 6 = 281474976710656 := by decide
  have h4 : (256 : Int) ^ (l.take k).length = ((256 ^ (l.take k).length : Nat) : Int) := by simp
  omega

theorem ret_pair {a b : Int} (h : a = b) : Ending.returned (.tuple #[.int .i64 a, .bool true]) = .returned (.tuple #[.int .i64 b, .bool true]) := by rw [h]

set_option maxHeartbeats 400000 in
theorem impl_yes (s : ByteArray) (k : Int) (w : World) (hs : s.size ≤ maxLen) (h1 : 1 ≤ k) (h7 : k ≤ 7) (hl : k ≤ s.size) :
    Calls Tryd.prog 12 #[.string s, .int .i64 k] w fun e w' => e = .returned (.tuple #[.int .i64 (be (s.data.toList.take k.toNat)), .bool true]) ∧ w = w' := by
  unfold maxLen at hs
  have hn : ¬ ((s.size : Int) < k) := by omega
  go_enter Tryd.func12, Tryd.ntmps12
  go_wp2
  go_loop [6, 7, 18] (fun n _ i => ∃ j : Nat, (j : Int) ≤ k ∧ i = .int .i64 j ∧ n = .int .i64 (be (s.data.toList.take j))) (fun _ _ i => (k - intOf i).toNat)
  case atStart => exact ⟨0, by omega, rfl, rfl⟩
  case round =>
    obtain ⟨j, hj, rfl, rfl⟩ := hrel
    by_cases hlt : (j : Int) < k
    · have hb := be_small s.data.toList j (by omega)
      have hjs : j < s.size := by omega
      have hc := s[j].toNat_lt
      have HS := Lib.hid (be_take s j hjs)
      have HJ := Lib.hid (i64_join 8 (be (s.data.toList.take j) * 256) s[j].toNat (by omega) (by omega) (by omega) (by omega) (by omega) (by omega))
      go_wp2
      go_round
      case rel => exact ⟨j + 1, by omega, by go_num, by rw [HS.out, HJ.out]⟩
      case measure => simp [intOf]; omega
    · go_wp2
      go_ret2
      exact ⟨ret_pair (by rw [show k.toNat = j from by omega]), rfl⟩

theorem impl_no (s : ByteArray) (k : Int) (w : World) (hs : s.size ≤ maxLen) (h : k < 1 ∨ 7 < k ∨ s.size < k) :
    Calls Tryd.prog 12 #[.string s, .int .i64 k] w fun e w' => e = .returned (.tuple #[.int .i64 0, .bool false]) ∧ w = w' := by
  unfold maxLen at hs
  by_cases h1 : k < 1
  · go_enter Tryd.func12, Tryd.ntmps12
    go_wp2
    go_ret2
    exact ⟨rfl, rfl⟩
  · by_cases h7 : 7 < k
    · go_enter Tryd.func12, Tryd.ntmps12
      go_wp2
      go_ret2
      exact ⟨rfl, rfl⟩
    · have hl : (s.size : Int) < k := by omega
      clear h
      go_enter Tryd.func12, Tryd.ntmps12
      go_wp2
      go_ret2
      exact ⟨rfl, rfl⟩

end Go.Proofs.YtjphfigfmbgmkaaDoor.readFixed
