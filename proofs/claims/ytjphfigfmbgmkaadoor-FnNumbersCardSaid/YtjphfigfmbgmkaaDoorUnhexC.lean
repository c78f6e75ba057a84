/-
  impl.Unhex at every string of at most 2^20 bytes: a contract ('impl_any').
-/
import Derived.Test.YtjphfigfmbgmkaaDoorRows
import Derived.Test.YtjphfigfmbgmkaaDoorBase
import Derived.Test.YtjphfigfmbgmkaaDoorBytes
import Derived.Test.YtjphfigfmbgmkaaDoorHexC
import Derived.Test.YtjphfigfmbgmkaaDoorShelf
import Derived.WalkKit
import Derived.ProofKit
import Derived.OpenShut
import Derived.ShutString
import Derived.ChangeOld
import Derived.Below
import Derived.WalkSpells
import Derived.WalkLawsBesides
import Derived.RegionTactic
import Derived.Deep.RegionWith
import Derived.Lib.Strings
import Derived.IntWalk
import Derived.StillTactics
import Derived.Deep.RegionHeld3
import Derived.Deep.AppendLies
import Derived.Deep.DrawnRows
namespace Go.Proofs.YtjphfigfmbgmkaaDoor.unhex
open Go.ChangeShapes Go.WideShapes Go.ChangeAt Go.RowKit
open Go.ChangeMaps (open_string shut_string)
open hex (dg digits digits_get)
set_option linter.unusedVariables false

/-- The value of a digit; -1 of any other byte. -/
def fh (b : UInt8) : Int := Lib.indexByte digits.data.toList b

theorem fh_hit_all : ∀ n, n < 256 → ∀ k, k < 16 → dg k = UInt8.ofNat n → fh (UInt8.ofNat n) = (k : Int) := by decide +kernel
theorem fh_miss_all : ∀ n, n < 256 → (∀ k, k < 16 → ¬ dg k = UInt8.ofNat n) → fh (UInt8.ofNat n) = -1 := by decide +kernel
theorem fh_bd_all : ∀ n, n < 256 → -1 ≤ fh (UInt8.ofNat n) ∧ fh (UInt8.ofNat n) < 16 := by decide +kernel

theorem fh_hit (b : UInt8) (k : Nat) (hk : k < 16) (h : dg k = b) : fh b = (k : Int) := by
  have := fh_hit_all b.toNat b.toNat_lt k hk
  simpa [h] using this
theorem fh_miss (b : UInt8) (h : ∀ k : Nat, k < 16 → ¬ dg k = b) : fh b = -1 := by
  have := fh_miss_all b.toNat b.toNat_lt
  simp only [UInt8.ofNat_toNat] at this
  exact this h
theorem fh_bd (b : UInt8) : -1 ≤ fh b ∧ fh b < 16 := by
  have := fh_bd_all b.toNat b.toNat_lt
  simpa using this

/-- What the first J pairs of digits say. -/
def pre (s : ByteArray) : Nat → Option (List UInt8)
  | 0 => some []
  | J + 1 => match pre s J with
    | none => none
    | some acc => if fh (s.data.toList.getD (2 * J) 0) < 0 ∨ fh (s.data.toList.getD (2 * J + 1) 0) < 0 then none
      else some (acc ++ [UInt8.ofNat (16 * fh (s.data.toList.getD (2 * J) 0) + fh (s.data.toList.getD (2 * J + 1) 0)).toNat])

theorem pre_len {s : ByteArray} : ∀ {J : Nat} {acc : List UInt8}, pre s J = some acc → acc.length = J
  | 0, acc, h => by simp [pre] at h; subst h; rfl
  | J + 1, acc, h => by
    unfold pre at h
    split at h
    · cases h
    · next acc' h' =>
      split at h
      · cases h
      · simp at h
        subst h
        simp [pre_len h']

theorem pre_dead {s : ByteArray} {J : Nat} (h : pre s J = none) : ∀ K, J ≤ K → pre s K = none
  | 0, hk => by
    obtain rfl : J = 0 := by omega
    exact h
  | K + 1, hk => by
    by_cases e : J = K + 1
    · subst e; exact h
    · unfold pre
      rw [pre_dead h K (by omega)]

theorem get_at (s : ByteArray) (i : Nat) (h : i < s.size) : s.data.toList.getD i 0 = s[i] := by
  have : i < s.data.size := h
  rw [List.getD_eq_getElem?_getD]
  simp only [Array.getElem?_toList, Array.getElem?_eq_getElem this]
  rfl

/-- What Unhex answers: none where it answers false. -/
def unS (s : ByteArray) : Option (List UInt8) := if s.size % 2 = 1 then none else pre s (s.size / 2)
theorem unS_odd (s : ByteArray) (h : s.size % 2 = 1) : unS s = none := by simp [unS, h]
theorem unS_even (s : ByteArray) (h : ¬ s.size % 2 = 1) : unS s = pre s (s.size / 2) := by simp [unS, h]

def ret : Option (List UInt8) → Ending
  | none => .returned (.tuple #[.string ⟨#[]⟩, .bool false])
  | some l => .returned (.tuple #[.string ⟨l.toArray⟩, .bool true])

theorem pre_none (s : ByteArray) (I : Nat) (h2 : I % 2 = 0) (h : I + 1 < s.size) (hf : fh s[I] < 0 ∨ fh s[I + 1] < 0) : pre s (s.size / 2) = none := by
  have e : pre s (I / 2 + 1) = none := by
    unfold pre
    split
    · rfl
    · rw [show 2 * (I / 2) = I by omega, get_at s I (by omega), get_at s (I + 1) h, if_pos hf]
  exact pre_dead e _ (by omega)

theorem pre_some (s : ByteArray) (I : Nat) (acc : List UInt8) (h2 : I % 2 = 0) (h : I + 1 < s.size) (ha : ¬ fh s[I] < 0) (hb : ¬ fh s[I + 1] < 0) (hp : pre s (I / 2) = some acc) :
    pre s ((I + 2) / 2) = some (acc ++ [UInt8.ofNat (16 * fh s[I] + fh s[I + 1]).toNat]) := by
  rw [show (I + 2) / 2 = I / 2 + 1 by omega]
  unfold pre
  rw [hp]
  simp only
  rw [show 2 * (I / 2) = I by omega, get_at s I (by omega), get_at s (I + 1) h, if_neg (by omega)]

/-- The loops' relation. -/
def Rel (s : ByteArray) (w : World) (v i : Value) (wr : World) : Prop :=
  ∃ (I : Nat) (acc : List UInt8), I ≤ s.size ∧ I % 2 = 0 ∧ i = .int .i64 I ∧ pre s (I / 2) = some acc ∧ wr.ownsRow w.heap.size 5 1 v acc.length (cellsOf acc) ∧ Below w.heap.size w wr

theorem idx_any (b : UInt8) (w : World) :
    Calls Tryd.prog 28 #[.string ⟨#[48, 49, 50, 51, 52, 53, 54, 55, 56, 57, 97, 98, 99, 100, 101, 102]⟩, .int .u8 (b.toNat : Int)] w fun e w' => e = .returned (.int .i64 (fh b)) ∧ w = w' := by
  refine (Tryd.strings_IndexByte digits (b.toNat : Int) w).mono ?_
  rintro e w' ⟨rfl, rfl⟩
  refine ⟨?_, rfl⟩
  have : (b.toNat : Int).toNat.toUInt8 = b := by simp
  rw [this]
  rfl

set_option maxRecDepth 100000 in
set_option maxHeartbeats 400000 in
theorem impl_any (s : ByteArray) (w : World) (hs : s.size ≤ 1048576) :
    Calls Tryd.prog 15 #[.string s] w fun e w' => e = ret (unS s) ∧ Below w.heap.size w w' := by
  obtain ⟨i0, hi, hz0, hz1, hz2⟩ := info_parts Tryd.infoByte
  by_cases hodd : s.size % 2 = 1
  · have ho : ((s.size : Int) % 2 != 0) = true := by rw [bne_iff_ne]; omega
    have HE := Lib.hid (unS_odd s hodd)
    clear hodd
    go_enter Tryd.func15, Tryd.ntmps15
    go_wp2
    go_ret2
    exact ⟨by rw [HE.out]; rfl, Below.refl _ _⟩
  · have ho : ((s.size : Int) % 2 != 0) = false := by rw [bne_eq_false_iff_eq]; omega
    have HE := Lib.hid (unS_even s hodd)
    have HO := Lib.hid hodd
    clear hodd
    go_enter Tryd.func15, Tryd.ntmps15
    go_wp2_with (at_make; refine wpList_make_own _ rfl _ _ 22 rfl w.heap.size 5 i0 (.int .u8 0) 1 Tryd.underlying22 hi hz0 hz1 .i64 .i64 _ (s.size / 2) rfl rfl (by omega) (by rw [hz2]; omega) (by unfold maxLen; omega) (Nat.le_refl _) ?_; intro w1 hown hgrow)
    have hown0 : w1.ownsRow w.heap.size 5 1 (Value.slice (some ⟨w.heap.size, 0, none⟩) 0 (s.size / 2)) 0 (cellsOf []) := hown
    have hbel1 := (Below.refl w.heap.size w).grown hgrow (Nat.le_refl _) (fun _ h => by cases h)
    clear hown hgrow hi hz0 hz1 hz2 i0
    go_loopw [4, 5, 6, 7] (fun v i _ _ wr => Rel s w v i wr) (fun _ i _ _ _ => s.size - (intOf i).toNat)
    case atStart => exact ⟨0, [], by omega, by omega, rfl, rfl, hown0, hbel1⟩
    case round =>
      clear hown0 hbel1
      obtain ⟨I, acc, hI, hI2, rfl, hp, hown, hbel⟩ := hrel
      have HP := Lib.hid hp
      have H2 := Lib.hid hI2
      clear hp hI2
      have hbs := hbel.size
      have hal := pre_len HP.out
      by_cases hlt : I < s.size
      · have hlt1 : I + 1 < s.size := by have := H2.out; have := HO.out; omega
        have hc := s[I].toNat_lt
        have hf0 := fh_bd s[I]
        have hf1 := fh_bd s[I + 1]
        by_cases ha : fh s[I] < 0
        · have HN := Lib.hid (pre_none s I H2.out hlt1 (.inl ha))
          go_wp2_with (go_at_call 28; refine (idx_any _ _).mono ?_; rintro e w' ⟨rfl, rfl⟩)
          go_ret2
          exact ⟨by rw [HE.out, HN.out]; rfl, hbel⟩
        · by_cases hb : fh s[I + 1] < 0
          · have HN := Lib.hid (pre_none s I H2.out hlt1 (.inr hb))
            go_wp2_with (go_at_call 28; refine (idx_any _ _).mono ?_; rintro e w' ⟨rfl, rfl⟩)
            go_ret2
            exact ⟨by rw [HE.out, HN.out]; rfl, hbel⟩
          · have HS := Lib.hid (pre_some s I acc H2.out hlt1 ha hb HP.out)
            have h16 : 0 ≤ 16 * fh s[I] + fh s[I + 1] := by omega
            have h17 : 16 * fh s[I] + fh s[I + 1] < 256 := by omega
            go_wp2_with (first | (go_at_call 28; refine (idx_any _ _).mono ?_; rintro e w' ⟨rfl, rfl⟩) | (at_builtin; refine wpList_append_byte wr (16 * fh s[I] + fh s[I + 1]) rfl _ _ rfl w.heap.size _ acc.length acc rfl hown h16 h17 rfl (by omega) hbs ?_; intro v' w2 hown2 hbel2))
            go_roundw
            case rel => exact ⟨I + 2, _, by omega, by have := H2.out; omega, by go_num, HS.out, by rw [List.length_append]; exact (by assumption : World.ownsRow _ _ _ _ _ (acc.length + 1) _), (by assumption : ∀ W0, Below w.heap.size W0 wr → Below w.heap.size W0 _) _ hbel⟩
            case measure => simp [intOf]; omega
      · obtain rfl : I = s.size := by omega
        have kc := conv_own wr w.heap.size _ acc.length acc rfl hown
        clear hown
        go_wp2
        go_ret2
        exact ⟨by rw [HE.out, HP.out]; rfl, hbel⟩

end Go.Proofs.YtjphfigfmbgmkaaDoor.unhex
