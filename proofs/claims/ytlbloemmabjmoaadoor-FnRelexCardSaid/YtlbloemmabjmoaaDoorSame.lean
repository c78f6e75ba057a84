/-
  SameTokens of both sides: whether two lists of tokens have the same kinds and texts ('same'); the world stays but for draws.
-/
import Derived.Test.YtlbloemmabjmoaaDoorTk
namespace Go.Proofs.YtlbloemmabjmoaaDoor.tk
open Go.ChangeShapes Go.WideShapes Go.ChangeAt Go.RowKit
set_option linter.unusedVariables false

def Tk.kt (t : Tk) : Int × ByteArray := (t.k, t.s)
def same (l m : List Tk) : Bool := decide (l.map Tk.kt = m.map Tk.kt)
def RelSame (B : Nat) (W : World) (l m : List Tk) (i : Value) (wr : World) : Prop :=
  ∃ I : Nat, I ≤ l.length ∧ i = .int .i64 (I : Int) ∧ Below B W wr ∧ (l.take I).map Tk.kt = (m.take I).map Tk.kt
theorem same_step {l m : List Tk} {I : Nat} (h : I < l.length) (hlen : l.length = m.length) (ht : (l.take I).map Tk.kt = (m.take I).map Tk.kt) (hk : l[I].k = (m[I]'(hlen ▸ h)).k) (hs : l[I].s = (m[I]'(hlen ▸ h)).s) : (l.take (I + 1)).map Tk.kt = (m.take (I + 1)).map Tk.kt := by
  rw [List.take_succ_eq_append_getElem h, List.take_succ_eq_append_getElem (hlen ▸ h), List.map_append, List.map_append, ht]
  simp [Tk.kt, hk, hs]
theorem same_ne {l m : List Tk} {I : Nat} (h : I < l.length) (hlen : l.length = m.length) (he : ¬ (l[I].k = (m[I]'(hlen ▸ h)).k ∧ l[I].s = (m[I]'(hlen ▸ h)).s)) : same l m = false := by
  unfold same
  rw [decide_eq_false_iff_not]
  intro e
  have h1 : (l.map Tk.kt)[I]? = (m.map Tk.kt)[I]? := by rw [e]
  rw [List.getElem?_map, List.getElem?_map, List.getElem?_eq_getElem h, List.getElem?_eq_getElem (hlen ▸ h)] at h1
  simp [Tk.kt] at h1
  exact he h1
theorem same_all {l m : List Tk} (hlen : l.length = m.length) (ht : (l.take l.length).map Tk.kt = (m.take l.length).map Tk.kt) : same l m = true := by
  rw [List.take_of_length_le (Nat.le_refl _), List.take_of_length_le (by omega)] at ht
  exact decide_eq_true ht
theorem same_len {l m : List Tk} (hlen : ¬ l.length = m.length) : same l m = false := by
  unfold same
  rw [decide_eq_false_iff_not]
  intro e
  have := congrArg List.length e
  simp at this
  exact hlen this
theorem below_drewN {B : Nat} {w w1 : World} (h : Below B w w1) (n : Nat) : Below B w (w1.drewN n) := ⟨h.os, h.tape, h.output, h.size, h.block⟩

set_option maxHeartbeats 1600000 in
theorem impl_same (l m : List Tk) (a a' : Option Addr) (cap cap' : Nat) (w : World) (hn : l.length ≤ 1048576) (hn' : m.length ≤ 1048576) (hc : Lies w.heap.size w a l) (hc' : Lies w.heap.size w a' m) :
    Calls Tryd.prog 16 #[.slice a l.length cap, .slice a' m.length cap'] w fun e w' => e = .returned (.bool (same l m)) ∧ Below w.heap.size w w' := by
  have HC := Lib.hid hc
  have HC' := Lib.hid hc'
  clear hc hc'
  by_cases hlen : l.length = m.length
  · have HLEN := Lib.hid hlen
    obtain ⟨n, hln⟩ : ∃ n, n = l.length := ⟨_, rfl⟩
    have HLN := Lib.hid hln
    rw [← hlen, ← hln]
    rw [← hln] at hn
    have hd : (((n : Int)) != (n : Int)) = false := by simp
    clear hlen hn' hln
    go_enter Tryd.func16, Tryd.ntmps16
    go_wp2
    go_loopw [13] (fun i wr => RelSame w.heap.size w l m i wr) (fun i _ => n - (intOf i).toNat)
    case atStart => exact ⟨0, by omega, rfl, Below.refl _ _, by simp⟩
    case round =>
      obtain ⟨I, hI, rfl, hbel, htk⟩ := hrel
      have HB := Lib.hid hbel
      have HT := Lib.hid htk
      rw [← HLN.out] at hI
      clear hbel htk
      by_cases hlt : I < n
      · have hl1 : I < l.length := by have := HLN.out; omega
        have hl2 : I < m.length := by have := HLEN.out; omega
        obtain ⟨b, o, rfl, hb, hcell⟩ := lies_at HC.out hl1
        obtain ⟨b', o', rfl, hb', hcell'⟩ := lies_at HC'.out hl2
        obtain ⟨c0, c1, c2⟩ := (hcell I hl1).keep HB.out hb
        obtain ⟨d0, d1, d2⟩ := (hcell' I hl2).keep HB.out hb'
        obtain ⟨x, hx⟩ : ∃ x, x = l[I] := ⟨_, rfl⟩
        obtain ⟨y, hy⟩ : ∃ y, y = m[I] := ⟨_, rfl⟩
        rw [← hx] at c0 c1 c2
        rw [← hy] at d0 d1 d2
        have HXE := Lib.hid hx
        have HYE := Lib.hid hy
        have hi1 : (I : Int) < (n : Int) := by omega
        have hi0 : (0 : Int) ≤ (I : Int) := by omega
        clear hx hy hcell hcell'
        by_cases hk : x.k = y.k
        · obtain ⟨k1, k2⟩ := eq_facts hk
          by_cases hs : x.s = y.s
          · obtain ⟨s1, s2⟩ := str_eq hs
            have HS := Lib.hid (same_step hl1 HLEN.out HT.out (by rw [← HXE.out, ← HYE.out]; exact hk) (by rw [← HXE.out, ← HYE.out]; exact hs))
            clear hk hs
            go_wp2
            go_quiet (fail)
            go_wp2
            go_roundw
            case rel => exact ⟨I + 1, by have := HLN.out; omega, by go_num, below_drewN HB.out _, HS.out⟩
            case measure => simp [intOf]; omega
          · obtain ⟨s1, s2⟩ := str_ne hs
            have HS := Lib.hid (same_ne hl1 HLEN.out (fun e => by rw [← HXE.out, ← HYE.out] at e; exact hs e.2))
            clear hk hs
            go_wp2
            go_quiet (fail)
            go_wp2
            go_ret
            exact ⟨by rw [HS.out]; rfl, below_drewN HB.out _⟩
        · obtain ⟨k1, k2⟩ := ne_facts hk
          have HS := Lib.hid (same_ne hl1 HLEN.out (fun e => by rw [← HXE.out, ← HYE.out] at e; exact hk e.1))
          clear hk
          go_wp2
          go_quiet (fail)
          go_wp2
          go_ret
          exact ⟨by rw [HS.out]; rfl, below_drewN HB.out _⟩
      · have HS := Lib.hid (same_all HLEN.out (by
          have h3 := HLN.out
          have h4 := HT.out
          have h5 : I = l.length := by omega
          rw [← h5]
          exact h4))
        go_wp2
        go_ret
        exact ⟨by rw [HS.out]; rfl, HB.out⟩
  · have HS := Lib.hid (same_len hlen)
    have hd : (((l.length : Int)) != (m.length : Int)) = true := by simp; omega
    clear hlen
    go_enter Tryd.func16, Tryd.ntmps16
    go_wp2
    go_ret
    exact ⟨by rw [HS.out]; rfl, Below.refl _ _⟩

set_option maxHeartbeats 1600000 in
theorem spec_same (l m : List Tk) (a a' : Option Addr) (cap cap' : Nat) (w : World) (hn : l.length ≤ 1048576) (hn' : m.length ≤ 1048576) (hc : Lies w.heap.size w a l) (hc' : Lies w.heap.size w a' m) :
    Calls Tryd.prog 15 #[.slice a l.length cap, .slice a' m.length cap'] w fun e w' => e = .returned (.bool (same l m)) ∧ Below w.heap.size w w' := by
  have HC := Lib.hid hc
  have HC' := Lib.hid hc'
  clear hc hc'
  by_cases hlen : l.length = m.length
  · have HLEN := Lib.hid hlen
    obtain ⟨n, hln⟩ : ∃ n, n = l.length := ⟨_, rfl⟩
    have HLN := Lib.hid hln
    rw [← hlen, ← hln]
    rw [← hln] at hn
    have hd : (((n : Int)) != (n : Int)) = false := by simp
    clear hlen hn' hln
    go_enter Tryd.func15, Tryd.ntmps15
    go_wp2
    go_loopw [5] (fun i wr => RelSame w.heap.size w l m i wr) (fun i _ => n - (intOf i).toNat)
    case atStart => exact ⟨0, by omega, rfl, Below.refl _ _, by simp⟩
    case round =>
      obtain ⟨I, hI, rfl, hbel, htk⟩ := hrel
      have HB := Lib.hid hbel
      have HT := Lib.hid htk
      rw [← HLN.out] at hI
      clear hbel htk
      by_cases hlt : I < n
      · have hl1 : I < l.length := by have := HLN.out; omega
        have hl2 : I < m.length := by have := HLEN.out; omega
        obtain ⟨b, o, rfl, hb, hcell⟩ := lies_at HC.out hl1
        obtain ⟨b', o', rfl, hb', hcell'⟩ := lies_at HC'.out hl2
        obtain ⟨c0, c1, c2⟩ := (hcell I hl1).keep HB.out hb
        obtain ⟨d0, d1, d2⟩ := (hcell' I hl2).keep HB.out hb'
        obtain ⟨x, hx⟩ : ∃ x, x = l[I] := ⟨_, rfl⟩
        obtain ⟨y, hy⟩ : ∃ y, y = m[I] := ⟨_, rfl⟩
        rw [← hx] at c0 c1 c2
        rw [← hy] at d0 d1 d2
        have HXE := Lib.hid hx
        have HYE := Lib.hid hy
        have hi1 : (I : Int) < (n : Int) := by omega
        have hi0 : (0 : Int) ≤ (I : Int) := by omega
        clear hx hy hcell hcell'
        by_cases hk : x.k = y.k
        · obtain ⟨k1, k2⟩ := eq_facts hk
          by_cases hs : x.s = y.s
          · obtain ⟨s1, s2⟩ := str_eq hs
            have HS := Lib.hid (same_step hl1 HLEN.out HT.out (by rw [← HXE.out, ← HYE.out]; exact hk) (by rw [← HXE.out, ← HYE.out]; exact hs))
            clear hk hs
            go_wp2
            go_quiet (fail)
            go_wp2
            go_roundw
            case rel => exact ⟨I + 1, by have := HLN.out; omega, by go_num, below_drewN HB.out _, HS.out⟩
            case measure => simp [intOf]; omega
          · obtain ⟨s1, s2⟩ := str_ne hs
            have HS := Lib.hid (same_ne hl1 HLEN.out (fun e => by rw [← HXE.out, ← HYE.out] at e; exact hs e.2))
            clear hk hs
            go_wp2
            go_quiet (fail)
            go_wp2
            go_ret
            exact ⟨by rw [HS.out]; rfl, below_drewN HB.out _⟩
        · obtain ⟨k1, k2⟩ := ne_facts hk
          have HS := Lib.hid (same_ne hl1 HLEN.out (fun e => by rw [← HXE.out, ← HYE.out] at e; exact hk e.1))
          clear hk
          go_wp2
          go_quiet (fail)
          go_wp2
          go_ret
          exact ⟨by rw [HS.out]; rfl, below_drewN HB.out _⟩
      · have HS := Lib.hid (same_all HLEN.out (by
          have h3 := HLN.out
          have h4 := HT.out
          have h5 : I = l.length := by omega
          rw [← h5]
          exact h4))
        go_wp2
        go_ret
        exact ⟨by rw [HS.out]; rfl, HB.out⟩
  · have HS := Lib.hid (same_len hlen)
    have hd : (((l.length : Int)) != (m.length : Int)) = true := by simp; omega
    clear hlen
    go_enter Tryd.func15, Tryd.ntmps15
    go_wp2
    go_ret
    exact ⟨by rw [HS.out]; rfl, Below.refl _ _⟩

end Go.Proofs.YtlbloemmabjmoaaDoor.tk
