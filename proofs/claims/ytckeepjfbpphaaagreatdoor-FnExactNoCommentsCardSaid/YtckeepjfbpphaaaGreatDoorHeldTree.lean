/-
  laws.heldIntS, heldNodeS: the marks looked for: contracts.
-/
import Derived.Test.YtckeepjfbpphaaaGreatDoorMarkTree
namespace Go.Proofs.YtckeepjfbpphaaaGreatDoor.mark
open Go.ChangeShapes Go.WideShapes Go.ChangeAt Go.RowKit
open nd
set_option linter.unusedVariables false

def RelHi (P n : Nat) (k i : Value) : Prop := ∃ I : Nat, I ≤ n ∧ i = .int .i64 (I : Int) ∧ k = .int .i64 ((P + I : Nat) : Int)
theorem held_ints (a : Option Addr) (cap n P : Nat) (w : World) (hn : n ≤ 1048576) (hP : P ≤ 6000010) (hc : Ints w.heap.size w a (mkI P n)) :
    Calls Tryz.prog 20 #[.slice a n cap, .int .i64 (P : Int)] w fun e w' => e = .returned (.int .i64 ((P + n : Nat) : Int)) ∧ w = w' := by
  have HC := Lib.hid hc
  clear hc
  go_enter Tryz.func20, Tryz.ntmps20
  go_wp2
  go_loop [1, 5] (fun k i => RelHi P n k i) (fun _ i => n - (intOf i).toNat)
  case atStart => exact ⟨0, by omega, rfl, by simp⟩
  case round =>
    obtain ⟨I, hI, rfl, rfl⟩ := hrel
    obtain ⟨Q, hQ⟩ : ∃ Q, Q = P + I := ⟨_, rfl⟩
    rw [← hQ]
    have HQ := Lib.hid hQ
    have hQb : Q ≤ 8000000 := by omega
    by_cases hlt : I < n
    · have hi1 : (I : Int) < (n : Int) := by omega
      have hi0 : (0 : Int) ≤ (I : Int) := by omega
      obtain ⟨b, o, rfl, _, hcell⟩ := nd.ints_at HC.out (I := I) (by rw [mkI_len]; exact hlt)
      have c0 := hcell I (by rw [mkI_len]; exact hlt)
      rw [mkI_get hlt, ← hQ] at c0
      clear hcell hQ
      go_wp2
      go_round
      case rel => exact ⟨I + 1, by omega, by go_num, congrArg (Value.int .i64) (by have := HQ.out; omega)⟩
      case measure => simp [intOf]; omega
    · obtain rfl : I = n := by omega
      have HQZ := Lib.hid (show (Q : Int) = (P : Int) + (I : Int) by omega)
      clear hQ
      go_wp2
      go_ret
      exact ⟨by rw [← HQZ.out]; rfl, rfl⟩

theorem mkL_get : ∀ (ms : List Nat) (P I : Nat) (h : I < ms.length), (mkL ms P)[I]'(by rw [mkL_len]; exact h) = mkN (endM (ms.take I) P) ms[I] := by
  intro ms
  induction ms with
  | nil => intro P I h; simp at h
  | cons m ms ih =>
    intro P I h
    cases I with
    | zero => simp [mkL, endM]
    | succ I => simp only [mkL, List.getElem_cons_succ, List.take_succ_cons, endM]; exact ih _ _ (by simpa using h)
theorem one_start {w W : World} {B b o : Nat} {x : ByteArray} (h : W.cell? ⟨b, o, none⟩ = some (.string x)) (hB : Below B w W) (hs : B ≤ W.heap.size) : W.cell? ⟨b, o, none⟩ = some (.string x) ∧ Below B w W ∧ B ≤ W.heap.size := ⟨h, hB, hs⟩
theorem one_drew {w W : World} {B b o : Nat} {x : ByteArray} (h : W.cell? ⟨b, o, none⟩ = some (.string x) ∧ Below B w W ∧ B ≤ W.heap.size) : W.drew.cell? ⟨b, o, none⟩ = some (.string x) ∧ Below B w W.drew ∧ B ≤ W.drew.heap.size := ⟨h.1, h.2.1.drew, h.2.2⟩
theorem one_keep {w W w1 : World} {B b o : Nat} {x : ByteArray} (hb : b < B) (h : W.cell? ⟨b, o, none⟩ = some (.string x) ∧ Below B w W ∧ B ≤ W.heap.size) (hk : Below W.heap.size W w1) : w1.cell? ⟨b, o, none⟩ = some (.string x) ∧ Below B w w1 ∧ B ≤ w1.heap.size :=
  ⟨(hk.cell (p := ⟨b, o, none⟩) (Nat.lt_of_lt_of_le hb h.2.2)).trans h.1, h.2.1.trans (hk.mono h.2.2), Nat.le_trans h.2.2 hk.size⟩

def RelHn (B : Nat) (W : World) (ms : List Nat) (k i : Value) (wr : World) : Prop :=
  ∃ I : Nat, I ≤ ms.length ∧ i = .int .i64 (I : Int) ∧ k = .int .i64 (endM (ms.take I) 1 : Int) ∧ Below B W wr

set_option maxHeartbeats 3200000 in
theorem held_nodes (a : Option Addr) (cap : Nat) (ms : List Nat) (w : World) (hb : ∀ I, endM (ms.take I) 1 ≤ 6000000) (hm : ∀ m ∈ ms, m ≤ 1048576) (hn : ms.length ≤ 1048576) (hc : Lies w.heap.size w a (mkL ms 1)) :
    Calls Tryz.prog 10 #[.slice a ms.length cap, .int .i64 1] w fun e w' => e = .returned (.int .i64 (endM ms 1 : Int)) ∧ Below w.heap.size w w' := by
  have HC := Lib.hid hc
  have HBD := Lib.hid hb
  have HMM := Lib.hid hm
  clear hc hb hm
  go_enter Tryz.func10, Tryz.ntmps10
  go_wp2
  go_loopw [1, 5] (fun k i wr => RelHn w.heap.size w ms k i wr) (fun _ i _ => ms.length - (intOf i).toNat)
  case atStart => exact ⟨0, by omega, rfl, rfl, Below.refl _ _⟩
  case round =>
    obtain ⟨I, hI, rfl, rfl, hbel⟩ := hrel
    have HB := Lib.hid hbel
    clear hbel
    obtain ⟨P, hP⟩ : ∃ P, P = endM (ms.take I) 1 := ⟨_, rfl⟩
    have hPb : P ≤ 6000000 := by rw [hP]; exact HBD.out I
    have hP1 : 1 ≤ P := by rw [hP, endM_eq]; omega
    have HP := Lib.hid hP
    rw [← hP]
    by_cases hlt : I < ms.length
    · obtain ⟨b, o, rfl, hb, hcell⟩ := lies_at HC.out (I := I) (by rw [mkL_len]; exact hlt)
      have hat := hcell I (by rw [mkL_len]; exact hlt)
      rw [mkL_get ms 1 I hlt, ← hP] at hat
      obtain ⟨m, hm⟩ : ∃ m, m = ms[I] := ⟨_, rfl⟩
      rw [← hm] at hat
      have hmb : m ≤ 1048576 := by rw [hm]; exact HMM.out _ (List.getElem_mem hlt)
      have HEND := Lib.hid (show endM (ms.take (I + 1)) 1 = P + 4 + m by rw [List.take_succ_eq_append_getElem hlt, endM_snoc, ← hP, ← hm])
      obtain ⟨ak, ck, h5, hik⟩ := hat
      obtain ⟨c0, c1, c2, c3, c4⟩ := h5.keep HB.out hb
      obtain ⟨_, _, _, w3, w4⟩ := h5
      have e4 : (mkN P m).kids.length = m := mkI_len _ _
      rw [e4] at c4 w4
      obtain ⟨s2, hs2⟩ : ∃ s, s = markF (P + 2) := ⟨_, rfl⟩
      obtain ⟨s3, hs3⟩ : ∃ s, s = markF (P + 3) := ⟨_, rfl⟩
      have c2' : wr.cell? ⟨b, o + I * 5 + 2, none⟩ = some (.string s2) := by rw [hs2]; exact c2
      have c3' : wr.cell? ⟨b, o + I * 5 + 3, none⟩ = some (.string s3) := by rw [hs3]; exact c3
      have c0' : wr.cell? ⟨b, o + I * 5, none⟩ = some (.int .i64 (P : Int)) := c0
      have c1' : wr.cell? ⟨b, o + I * 5 + 1, none⟩ = some (.int .i64 ((P : Int) + 1)) := c1
      have HIK := Lib.hid (show Ints w.heap.size w ak (mkI (P + 4) m) from hik)
      have HS0 := Lib.hid (one_start c2' HB.out HB.out.size)
      have HS2 := Lib.hid hs2
      have HS3 := Lib.hid hs3
      have q2 := (str_eq (rfl : s2 = s2)).2
      have q3 := (str_eq (rfl : s3 = s3)).2
      have hi1 : (I : Int) < (ms.length : Int) := by omega
      have hi0 : (0 : Int) ≤ (I : Int) := by omega
      have C3 := Lib.hid (show w.cell? ⟨b, o + I * 5 + 3, none⟩ = some (.string s3) by rw [hs3]; exact w3)
      have C4 := Lib.hid w4
      clear w3 w4 c0 c1 c2 c3 c4 hik hcell hm hP hs2 hs3 e4 c3' c2'
      go_wp2
      rw [show (P : Int) + 1 + 1 = ((P + 2 : Nat) : Int) by omega]
      go_region_held3 (fun w' => w'.cell? ⟨b, o + I * 5 + 2, none⟩ = some (.string s2) ∧ Below w.heap.size w w' ∧ w.heap.size ≤ w'.heap.size)
        (first | exact one_drew HS0.out | exact HS0.out | exact one_keep hb (by assumption) (by assumption) | exact one_drew (by assumption))
        (first | (go_at_call 18; refine (mark_textN (P + 2) _ (by omega) (by omega)).mono ?_; rintro e w1 ⟨he, b1⟩; rw [← HS2.out] at he; subst he))
      have HSX := Lib.hid (by assumption : _ ∧ Below w.heap.size w _ ∧ w.heap.size ≤ _)
      have c3x := (HSX.out.2.1.cell (p := ⟨b, o + I * 5 + 3, none⟩) hb).trans C3.out
      have HS3X := Lib.hid (one_start c3x HSX.out.2.1 HSX.out.2.2)
      clear c3x
      go_wp2
      rw [show (P : Int) + 2 + 1 = ((P + 3 : Nat) : Int) by omega]
      go_region_held3 (fun w' => w'.cell? ⟨b, o + I * 5 + 3, none⟩ = some (.string s3) ∧ Below w.heap.size w w' ∧ w.heap.size ≤ w'.heap.size)
        (first | exact one_drew HS3X.out | exact HS3X.out | exact one_keep hb (by assumption) (by assumption) | exact one_drew (by assumption))
        (first | (go_at_call 18; refine (mark_textN (P + 3) _ (by omega) (by omega)).mono ?_; rintro e w5 ⟨he, b5⟩; rw [← HS3.out] at he; subst he))
      have HSY := Lib.hid (by assumption : _ ∧ Below w.heap.size w _ ∧ w.heap.size ≤ _)
      have c4y := (HSY.out.2.1.cell (p := ⟨b, o + I * 5 + 4, none⟩) hb).trans C4.out
      go_wp2_with fail
      rw [show (P : Int) + 3 + 1 = ((P + 4 : Nat) : Int) by omega]
      refine (held_ints ak ck m (P + 4) _ hmb (by omega) ((HIK.out.keep HSY.out.2.1 (Nat.le_refl _)).up HSY.out.2.2)).mono ?_
      rintro e w6 ⟨rfl, rfl⟩
      have hz : ¬ ((P + 4 + m : Nat) : Int) < 0 := by omega
      have HBF := Lib.hid HSY.out.2.1
      clear c4y
      go_wp2
      go_roundw
      case rel => exact ⟨I + 1, by omega, by go_num, congrArg (Value.int .i64) (by rw [HEND.out]; omega), HBF.out⟩
      case measure => simp [intOf]; omega
    · obtain rfl : I = ms.length := by omega
      have HPE := Lib.hid (show (P : Int) = (endM ms 1 : Int) by rw [hP, List.take_length])
      clear hP
      go_wp2
      go_ret
      exact ⟨by rw [← HPE.out]; rfl, HB.out⟩
end Go.Proofs.YtckeepjfbpphaaaGreatDoor.mark
