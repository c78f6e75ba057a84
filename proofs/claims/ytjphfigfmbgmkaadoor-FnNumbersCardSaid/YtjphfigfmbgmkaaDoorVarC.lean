/-
  impl.Var and the model spec.Var give the same string, 'varS', at every integer: contracts.
-/
import Derived.Test.YtjphfigfmbgmkaaDoorRows
import Derived.Test.YtjphfigfmbgmkaaDoorBase
import Derived.Test.YtjphfigfmbgmkaaDoorBytes
import Derived.WalkKit
import Derived.ProofKit
import Derived.OpenShut
import Derived.ShutString
import Derived.ChangeOld
import Derived.Below
import Derived.WalkSpells
import Derived.WalkLawsBesides
import Derived.Laws.IdiomStrings
namespace Go.Proofs.YtjphfigfmbgmkaaDoor.var
open Go.ChangeShapes Go.WideShapes Go.ChangeAt Go.RowKit
open Go.ChangeMaps (open_string shut_string)
set_option linter.unusedVariables false

/-- The varint of n, of at most f + 1 bytes. -/
def vr : Nat → Int → List UInt8
  | 0, n => [UInt8.ofNat n.toNat]
  | f + 1, n => if n < 128 then [UInt8.ofNat n.toNat] else UInt8.ofNat (n % 128 + 128).toNat :: vr f (n / 128)

theorem vr_low (f : Nat) (n : Int) (h : n < 128) : vr f n = [UInt8.ofNat n.toNat] := by
  cases f with
  | zero => rfl
  | succ f => simp [vr, h]

/-- What the loop holds behind some rounds: acc has been written, m is left. -/
def Mid (n : Int) (acc : List UInt8) (m : Int) : Prop := ∃ f : Nat, acc.length + f = 9 ∧ (0 ≤ m ∧ m ≤ n) ∧ m < 128 ^ (f + 1) ∧ acc ++ vr f m = vr 9 n

theorem mid_start (n : Int) (h0 : 0 ≤ n) (h1 : n ≤ 562949953421311) : Mid n [] n := ⟨9, rfl, ⟨h0, Int.le_refl _⟩, by omega, rfl⟩

theorem mid_step {n : Int} {acc : List UInt8} {m : Int} (h : Mid n acc m) (hm : 128 ≤ m) : Mid n (acc ++ [UInt8.ofNat (m % 128 + 128).toNat]) (m / 128) := by
  obtain ⟨f, h1, h2, h3, h4⟩ := h
  cases f with
  | zero => omega
  | succ f =>
    refine ⟨f, by simp; omega, by omega, ?_, ?_⟩
    · rw [Int.pow_succ] at h3
      exact Int.ediv_lt_of_lt_mul (by omega) h3
    · rw [← h4]
      simp [vr, show ¬ m < 128 by omega]

theorem mid_end {n : Int} {acc : List UInt8} {m : Int} (h : Mid n acc m) (hm : m < 128) : acc ++ [UInt8.ofNat m.toNat] = vr 9 n := by
  obtain ⟨f, h1, h2, h3, h4⟩ := h
  rw [← h4, vr_low f m hm]

theorem mid_bd {n : Int} {acc : List UInt8} {m : Int} (h : Mid n acc m) : 0 ≤ m ∧ m ≤ n ∧ acc.length ≤ 9 := by
  obtain ⟨f, h1, h2, h3, h4⟩ := h
  exact ⟨h2.1, h2.2, by omega⟩

/-- The loop's relation. -/
def Rel (n : Int) (w : World) (m v : Value) (wr : World) : Prop :=
  ∃ (acc : List UInt8) (mi : Int), m = .int .i64 mi ∧ Mid n acc mi ∧ wr.ownsRow w.heap.size 5 1 v acc.length (cellsOf acc) ∧ Below w.heap.size w wr

theorem own_seven (w : World) : (w.alloc (.cells #[.int .u8 0, .int .u8 0, .int .u8 0, .int .u8 0, .int .u8 0, .int .u8 0, .int .u8 0] 5)).ownsRow w.heap.size 5 1 (.slice (some ⟨w.heap.size, 0, none⟩) 0 7) 0 (cellsOf []) :=
  ⟨rfl, .inr ⟨w.heap.size, 7, _, rfl, Nat.le_refl _, heap_alloc_new w _, by omega, by unfold maxLen; omega, rfl, rfl⟩⟩

theorem ret_str {a b : ByteArray} (h : a = b) : Ending.returned (.string a) = .returned (.string b) := by rw [h]

set_option maxHeartbeats 400000 in
theorem spec_loop (n : Int) (w : World) (h0 : 0 ≤ n) (hn : n ≤ 562949953421311) :
    Calls Tryd.prog 29 #[.int .i64 n] w fun e w' => e = .returned (.string ⟨(vr 9 n).toArray⟩) ∧ Below w.heap.size w w' := by
  go_enter Tryd.func29, Tryd.ntmps29
  go_wp2
  go_loopw [0, 3] (fun m v wr => Rel n w m v wr) (fun m _ _ => (intOf m).toNat)
  case atStart => exact ⟨[], n, rfl, mid_start n h0 hn, own_empty w _ (Nat.le_refl _), (Below.refl _ _).alloc (Nat.le_refl _) _⟩
  case round =>
    obtain ⟨acc, mi, rfl, hmid, hown, hbel⟩ := hrel
    have hb := mid_bd hmid
    have hbs := hbel.size
    by_cases hlt : mi < 128
    · have HE := Lib.hid (mid_end hmid hlt)
      clear hmid
      go_wp2_with (at_builtin; refine wpList_append_byte wr mi rfl _ _ rfl w.heap.size _ acc.length acc rfl hown (by omega) (by omega) rfl (by omega) hbs ?_; intro v' w2 hown2 hbel2; have kc := conv_own w2 w.heap.size v' (acc.length + 1) (acc ++ [UInt8.ofNat mi.toNat]) (by simp) hown2; clear hown2)
      go_ret
      exact ⟨ret_str (by rw [HE.out]), (by assumption : ∀ W0, Below w.heap.size W0 wr → Below w.heap.size W0 _) _ hbel⟩
    · have HM := Lib.hid (mid_step hmid (by omega))
      clear hmid
      go_wp2_with (at_builtin; refine wpList_append_byte wr (128 + mi % 128) rfl _ _ rfl w.heap.size _ acc.length acc rfl hown (by omega) (by omega) rfl (by omega) hbs ?_; intro v' w2 hown2 hbel2)
      go_roundw
      case rel => exact ⟨_, _, rfl, HM.out, by rw [List.length_append]; have := ‹World.ownsRow _ _ _ _ _ (acc.length + 1) _›; rw [Int.add_comm 128] at this; exact this, hbel2 _ hbel⟩
      case measure => simp [intOf]; omega

set_option maxHeartbeats 400000 in
theorem impl_loop (n : Int) (w : World) (h0 : 0 ≤ n) (hn : n ≤ 562949953421311) :
    Calls Tryd.prog 9 #[.int .i64 n] w fun e w' => e = .returned (.string ⟨(vr 9 n).toArray⟩) ∧ Below w.heap.size w w' := by
  have hz : ¬ n < 0 := by omega
  have hz2 : ¬ 562949953421311 < n := by omega
  have hmk : ∀ w, (Instr.makeSlice 22 (.int .i64 0) (.int .i64 7)).run Tryd.prog w = .ok (.slice (some ⟨w.heap.size, 0, none⟩) 0 7) (w.alloc (.cells #[.int .u8 0, .int .u8 0, .int .u8 0, .int .u8 0, .int .u8 0, .int .u8 0, .int .u8 0] 5)) := fun _ => by kernel_rfl
  go_enter Tryd.func9, Tryd.ntmps9
  go_wp2
  go_loopw [0, 3] (fun m v wr => Rel n w m v wr) (fun m _ _ => (intOf m).toNat)
  case atStart => exact ⟨[], n, rfl, mid_start n h0 hn, own_seven w, (Below.refl _ _).alloc (Nat.le_refl _) _⟩
  case round =>
    obtain ⟨acc, mi, rfl, hmid, hown, hbel⟩ := hrel
    have hb := mid_bd hmid
    have hbs := hbel.size
    by_cases hlt : mi < 128
    · have HE := Lib.hid (mid_end hmid hlt)
      clear hmid
      go_wp2_with (at_builtin; refine wpList_append_byte wr mi rfl _ _ rfl w.heap.size _ acc.length acc rfl hown (by omega) (by omega) rfl (by omega) hbs ?_; intro v' w2 hown2 hbel2; have kc := conv_own w2 w.heap.size v' (acc.length + 1) (acc ++ [UInt8.ofNat mi.toNat]) (by simp) hown2; clear hown2)
      go_ret
      exact ⟨ret_str (by rw [HE.out]), (by assumption : ∀ W0, Below w.heap.size W0 wr → Below w.heap.size W0 _) _ hbel⟩
    · have HM := Lib.hid (mid_step hmid (by omega))
      clear hmid
      go_wp2_with (at_builtin; refine wpList_append_byte wr (mi % 128 + 128) rfl _ _ rfl w.heap.size _ acc.length acc rfl hown (by omega) (by omega) rfl (by omega) hbs ?_; intro v' w2 hown2 hbel2)
      go_roundw
      case rel => exact ⟨_, _, rfl, HM.out, by rw [List.length_append]; have := ‹World.ownsRow _ _ _ _ _ (acc.length + 1) _›; exact this, hbel2 _ hbel⟩
      case measure => simp [intOf]; omega

theorem out (f : Nat) (n : Int) (w : World) (hf : f = 29 ∨ f = 9) (h : n < 0 ∨ 562949953421311 < n) :
    Calls Tryd.prog f #[.int .i64 n] w fun e w' => e = .returned (.string ⟨#[]⟩) ∧ Below w.heap.size w w' := by
  by_cases h1 : n < 0
  · clear h
    rcases hf with rfl | rfl
    · go_enter Tryd.func29, Tryd.ntmps29
      go_wp2
      go_ret
      exact ⟨rfl, Below.refl _ _⟩
    · go_enter Tryd.func9, Tryd.ntmps9
      go_wp2
      go_ret
      exact ⟨rfl, Below.refl _ _⟩
  · have hn : 562949953421311 < n := by omega
    have hd : decide (n ≤ 562949953421311) = false := by simpa using hn
    clear h
    rcases hf with rfl | rfl
    · go_enter Tryd.func29, Tryd.ntmps29
      go_wp2
      go_ret
      exact ⟨rfl, Below.refl _ _⟩
    · go_enter Tryd.func9, Tryd.ntmps9
      go_wp2
      go_ret
      exact ⟨rfl, Below.refl _ _⟩

/-- What Var answers. -/
def varS (n : Int) : ByteArray := if 0 ≤ n ∧ n ≤ 562949953421311 then ⟨(vr 9 n).toArray⟩ else ⟨#[]⟩

theorem any (f : Nat) (n : Int) (w : World) (hf : f = 29 ∨ f = 9) :
    Calls Tryd.prog f #[.int .i64 n] w fun e w' => e = .returned (.string (varS n)) ∧ Below w.heap.size w w' := by
  unfold varS
  by_cases h : 0 ≤ n ∧ n ≤ 562949953421311
  · rw [if_pos h]
    rcases hf with rfl | rfl
    · exact spec_loop n w h.1 h.2
    · exact impl_loop n w h.1 h.2
  · rw [if_neg h]
    exact out f n w hf (by omega)

end Go.Proofs.YtjphfigfmbgmkaaDoor.var
