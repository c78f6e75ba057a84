/-
  laws.eqStringS, markStringS, heldStringS: contracts.
-/
import Derived.Test.YtckeepjfbpphaaaStrs
import Derived.Test.YtckeepjfbpphaaaMarkText
import Derived.Test.YtckeepjfbpphaaaNdEq
import Derived.Lib.QuietBelow
namespace Go.Proofs.Ytckeepjfbpphaaa.strs
open Go.ChangeShapes Go.WideShapes Go.ChangeAt Go.RowKit
open mark
set_option linter.unusedVariables false
set_option maxRecDepth 20000

def RelEqS (n : Nat) (w : World) (i : Value) (wr : World) : Prop := ∃ I q : Nat, I ≤ n ∧ i = .int .i64 (I : Int) ∧ wr = w.drewN q
set_option maxHeartbeats 1600000 in
theorem eq_strs (l : List ByteArray) (a a' : Option Addr) (cap cap' : Nat) (w : World) (hn : l.length ≤ 1048576) (hc : SL w.heap.size w a l) (hc' : SL w.heap.size w a' l) :
    Calls Try.prog 9 #[.slice a l.length cap, .slice a' l.length cap'] w fun e w' => e = .returned (.bool true) ∧ Below w.heap.size w w' := by
  have HC := Lib.hid hc
  have HC' := Lib.hid hc'
  obtain ⟨n, hln⟩ : ∃ n, n = l.length := ⟨_, rfl⟩
  have HLN := Lib.hid hln
  rw [← hln] at hn ⊢
  have hd : ((n : Int) != (n : Int)) = false := by simp
  clear hc hc' hln
  go_enter Try.func9, Try.ntmps9
  go_wp2
  go_loopw [5] (fun i wr => RelEqS n w i wr) (fun i _ => n - (intOf i).toNat)
  case atStart => exact ⟨0, 0, by omega, rfl, nd.drewN_zero _⟩
  case round =>
    obtain ⟨I, q, hI, rfl, rfl⟩ := hrel
    by_cases hlt : I < n
    · have hl1 : I < l.length := by have := HLN.out; omega
      obtain ⟨b, o, rfl, hb, hcell⟩ := HC.out.at hl1
      obtain ⟨b', o', rfl, hb', hcell'⟩ := HC'.out.at hl1
      have c0 := hcell I hl1
      have d0 := hcell' I hl1
      obtain ⟨x, hx⟩ : ∃ x, x = l[I] := ⟨_, rfl⟩
      rw [← hx] at c0 d0
      obtain ⟨k1, k2⟩ := nd.str_eq (rfl : x = x)
      have hi1 : (I : Int) < (n : Int) := by omega
      have hi0 : (0 : Int) ≤ (I : Int) := by omega
      clear hx hcell hcell'
      go_wp2
      go_quiet (fail)
      go_wp2
      go_roundw
      case rel => exact ⟨I + 1, _, by omega, by go_num, rfl⟩
      case measure => simp [intOf]; omega
    · obtain rfl : I = n := by omega
      go_wp2
      go_ret
      exact ⟨rfl, below_drewN (Below.refl _ _) q⟩

def mkS (P m : Nat) : List ByteArray := (List.range m).map (fun j => markF (P + j))
theorem mkS_len (P m : Nat) : (mkS P m).length = m := by simp [mkS]
theorem mkS_get {P m j : Nat} (h : j < m) : (mkS P m)[j]'(by rw [mkS_len]; exact h) = markF (P + j) := by simp [mkS]
theorem mkS_succ (P m : Nat) : mkS P (m + 1) = mkS P m ++ [markF (P + m)] := by simp [mkS, List.range_succ]
theorem grown_set {w w1 : World} {p j : Nat} (u : Value) (h : w.grownBy w1 (some p)) : w.grownBy (w1.setCell ⟨p, j, none⟩ u) (some p) :=
  ⟨h.os, h.tape, h.output, by simp; exact h.size, fun k hk hne => by
    rw [heap_setCell_other w1 ⟨p, j, none⟩ k u (fun e => hne (by rw [e]))]
    exact h.block k hk hne⟩
theorem grown_below {w w1 w2 : World} {p : Nat} (h : w.grownBy w1 (some p)) (hb : Below w1.heap.size w1 w2) : w.grownBy w2 (some p) :=
  ⟨hb.os.trans h.os, hb.tape.trans h.tape, hb.output.trans h.output, Nat.le_trans h.size hb.size, fun k hk hne => (hb.block k (Nat.lt_of_lt_of_le hk h.size)).trans (h.block k hk hne)⟩
def RelMs (W : World) (g cap P n : Nat) (k i : Value) (wr : World) : Prop :=
  ∃ I : Nat, I ≤ n ∧ i = .int .i64 (I : Int) ∧ k = .int .i64 ((P + I : Nat) : Int) ∧ SBlk wr g cap (mkS P I) ∧ W.grownBy wr (some g)
set_option maxHeartbeats 1600000 in
theorem mark_strs (g cap n P : Nat) (l : List ByteArray) (w : World) (hb : SBlk w g cap l) (hn : n ≤ cap) (hn2 : n ≤ 1048576) (hP : 0 < P) (hP2 : P ≤ 10) :
    Calls Try.prog 12 #[.slice (some ⟨g, 0, none⟩) n cap, .int .i64 (P : Int)] w fun e w' => e = .returned (.int .i64 ((P + n : Nat) : Int)) ∧ SBlk w' g cap (mkS P n) ∧ w.grownBy w' (some g) := by
  have HB0 := Lib.hid (show SBlk w g cap (mkS P 0) from hb.clr)
  clear hb
  go_enter Try.func12, Try.ntmps12
  go_wp2
  go_loopw [1, 5] (fun k i wr => RelMs w g cap P n k i wr) (fun _ i _ => n - (intOf i).toNat)
  case atStart => exact ⟨0, by omega, rfl, by simp, HB0.out, World.grownBy.refl w _⟩
  case round =>
    obtain ⟨I, hI, rfl, rfl, hblk, hgr⟩ := hrel
    have HK := Lib.hid hblk
    have HG := Lib.hid hgr
    clear hblk hgr
    by_cases hlt : I < n
    · have hi1 : (I : Int) < (n : Int) := by omega
      have hll := mkS_len P I
      obtain ⟨Q, hQ⟩ : ∃ Q, Q = P + I := ⟨_, rfl⟩
      rw [← hQ]
      have hQb : 0 < Q ∧ Q ≤ 4000000 := by omega
      have HQ := Lib.hid hQ
      have HLL := Lib.hid hll
      obtain ⟨v0, e0⟩ := HK.out.cell I (by omega)
      have f0 := HK.out.frozen I
      clear hQ hll
      go_wp2_with fail
      refine (mark_text Q _ (by omega) (by omega)).mono ?_
      rintro e w2 ⟨rfl, b2⟩
      have HB2 := Lib.hid (HK.out.keep b2 HK.out.lt)
      have HG2 := Lib.hid (grown_below HG.out b2)
      obtain ⟨v1, e1⟩ := HB2.out.cell I (by omega)
      have f1 := HB2.out.frozen I
      have HF := Lib.hid (show SBlk (w2.setCell ⟨g, I, none⟩ (.string (markF Q))) g cap (mkS P (I + 1)) by
        have := HB2.out.put (markF Q) (by rw [HLL.out]; omega)
        rw [HLL.out] at this
        rw [mkS_succ, ← HQ.out]
        exact this)
      clear b2 e0 f0
      go_wp2
      go_roundw
      case rel => exact ⟨I + 1, by omega, by go_num, congrArg (Value.int .i64) (by have := HQ.out; omega), HF.out, grown_set _ HG2.out⟩
      case measure => simp [intOf]; omega
    · obtain rfl : I = n := by omega
      go_wp2
      go_ret
      exact ⟨rfl, HK.out, HG.out⟩
theorem mark_none (a : Option Addr) (cap : Nat) (k : Int) (w : World) :
    Calls Try.prog 12 #[.slice a 0 cap, .int .i64 k] w fun e w' => e = .returned (.int .i64 k) ∧ w = w' := by
  go_enter Try.func12, Try.ntmps12
  go_wp2
  go_loop [1, 5] (fun k' i => k' = .int .i64 k ∧ i = .int .i64 0) (fun _ _ => 0)
  case atStart => exact ⟨rfl, rfl⟩
  case round =>
    obtain ⟨rfl, rfl⟩ := hrel
    go_wp2
    go_ret
    exact ⟨rfl, rfl⟩
/-- A slice of strings of one's own from S on, as it is marked. -/
theorem mark_so {S cap : Nat} {a : Option Addr} {l : List ByteArray} {w : World} (h : SOwn S (.slice a l.length cap) l w) (hS : S ≤ w.heap.size) (hl : l.length ≤ 1048576) :
    Calls Try.prog 12 #[.slice a l.length cap, .int .i64 1] w fun e w' => e = .returned (.int .i64 ((1 + l.length : Nat) : Int)) ∧ Below S w w' ∧ SL w'.heap.size w' a (mkS 1 l.length) ∧ w.heap.size ≤ w'.heap.size := by
  rcases h.blk with ⟨hv, h0⟩ | ⟨g, c, hv, hg, hb⟩
  · subst h0
    exact (mark_none a cap 1 w).mono fun e w' ⟨he, hw⟩ => ⟨he, by rw [← hw]; exact Below.refl _ _, .inl rfl, by rw [← hw]; exact Nat.le_refl _⟩
  · injection hv with hv _ hv2
    subst hv hv2
    have hn : l.length ≤ cap := by obtain ⟨_, _, _, h, _⟩ := hb; exact h
    exact (mark_strs g cap l.length 1 l w hb hn hl (by decide) (by decide)).mono fun e w' ⟨he, hb', hg'⟩ => ⟨he, (Below.refl S w).grown hg' hS (fun k e => by cases e; exact hg), hb'.sl, hg'.size⟩

def RelHs (W : World) (n P : Nat) (k i : Value) (wr : World) : Prop :=
  ∃ I : Nat, I ≤ n ∧ i = .int .i64 (I : Int) ∧ k = .int .i64 ((P + I : Nat) : Int) ∧ Below W.heap.size W wr
theorem one_start {w W : World} {b o : Nat} {x : ByteArray} (h : W.cell? ⟨b, o, none⟩ = some (.string x)) (hB : Below w.heap.size w W) : W.cell? ⟨b, o, none⟩ = some (.string x) ∧ Below w.heap.size w W := ⟨h, hB⟩
theorem one_drew {w W : World} {b o : Nat} {x : ByteArray} (h : W.cell? ⟨b, o, none⟩ = some (.string x) ∧ Below w.heap.size w W) : W.drew.cell? ⟨b, o, none⟩ = some (.string x) ∧ Below w.heap.size w W.drew := ⟨h.1, h.2.drew⟩
theorem one_keep {w W w1 : World} {b o : Nat} {x : ByteArray} (hb : b < w.heap.size) (h : W.cell? ⟨b, o, none⟩ = some (.string x) ∧ Below w.heap.size w W) (hk : Below W.heap.size W w1) : w1.cell? ⟨b, o, none⟩ = some (.string x) ∧ Below w.heap.size w w1 :=
  ⟨(hk.cell (p := ⟨b, o, none⟩) (Nat.lt_of_lt_of_le hb h.2.size)).trans h.1, h.2.trans (hk.mono h.2.size)⟩
set_option maxHeartbeats 1600000 in
theorem held_strs (a : Option Addr) (cap n P : Nat) (w : World) (hn2 : n ≤ 1048576) (hP : 0 < P) (hP2 : P ≤ 10) (hc : SL w.heap.size w a (mkS P n)) :
    Calls Try.prog 13 #[.slice a n cap, .int .i64 (P : Int)] w fun e w' => e = .returned (.int .i64 ((P + n : Nat) : Int)) ∧ Below w.heap.size w w' := by
  have HC := Lib.hid hc
  clear hc
  go_enter Try.func13, Try.ntmps13
  go_wp2
  go_loopw [1, 5] (fun k i wr => RelHs w n P k i wr) (fun _ i _ => n - (intOf i).toNat)
  case atStart => exact ⟨0, by omega, rfl, by simp, Below.refl _ _⟩
  case round =>
    obtain ⟨I, hI, rfl, rfl, hbel⟩ := hrel
    have HB := Lib.hid hbel
    clear hbel
    by_cases hlt : I < n
    · obtain ⟨b, o, rfl, hb, hcell⟩ := HC.out.at (I := I) (by rw [mkS_len]; exact hlt)
      have hx := hcell I (by rw [mkS_len]; exact hlt)
      rw [mkS_get hlt] at hx
      obtain ⟨Q, hQ⟩ : ∃ Q, Q = P + I := ⟨_, rfl⟩
      rw [← hQ] at hx ⊢
      have hQb : 0 < Q ∧ Q ≤ 4000000 := by omega
      obtain ⟨m, hm⟩ : ∃ m, m = markF Q := ⟨_, rfl⟩
      rw [← hm] at hx
      have HQ := Lib.hid hQ
      have HM := Lib.hid hm
      have HS0 := Lib.hid (one_start ((HB.out.cell (p := ⟨b, o + I, none⟩) hb).trans hx) HB.out)
      have hmm := (nd.str_eq (rfl : m = m)).2
      have hi1 : (I : Int) < (n : Int) := by omega
      have hi0 : (0 : Int) ≤ (I : Int) := by omega
      clear hx hQ hm hcell
      go_wp2
      go_region_held3 (fun w' => w'.cell? ⟨b, o + I, none⟩ = some (.string m) ∧ Below w.heap.size w w')
        (first | exact one_drew HS0.out | exact HS0.out | exact one_keep hb (by assumption) (by assumption) | exact one_drew (by assumption))
        (first | (go_at_call 23; refine (mark_text Q _ (by omega) (by omega)).mono ?_; rintro e w1 ⟨he, b1⟩; rw [← HM.out] at he; subst he))
      have HS := Lib.hid (by assumption : _ ∧ Below w.heap.size w _)
      go_wp2
      go_roundw
      case rel => exact ⟨I + 1, by omega, by go_num, congrArg (Value.int .i64) (by have := HQ.out; omega), HS.out.2⟩
      case measure => simp [intOf]; omega
    · obtain rfl : I = n := by omega
      go_wp2
      go_ret
      exact ⟨rfl, HB.out⟩
end Go.Proofs.Ytckeepjfbpphaaa.strs
