/-
  The positions of kids: spec.KidPos as a whole; where both sides give the same; what a kid's position is.
-/
import Derived.Test.YtiilpnoaocfjgaaGreatDoorKidS1
import Derived.Test.YtiilpnoaocfjgaaGreatDoorKidS2
import Derived.Test.YtiilpnoaocfjgaaGreatDoorKidS3
namespace Go.Proofs.YtiilpnoaocfjgaaGreatDoor.ps
open Go.ChangeShapes Go.WideShapes Go.ChangeAt Go.RowKit
open chars (inR)
open lv (levelOf opLevel box_below Bx)
set_option linter.unusedVariables false
set_option maxRecDepth 20000

set_option maxHeartbeats 1600000 in
theorem spec_kidPos (k op : Int) (x y : ByteArray) (a : Option Addr) (n cap : Nat) (K L : Int) (d i g s : Bool) (w : World) (hn : n ≤ 1048576) : Calls Tryz.prog 214 #[.agg #[.int .i64 k, .int .i64 op, .string x, .string y, .slice a n cap], .int .i64 K, .agg #[.int .i64 L, .bool d, .bool i, .bool g, .bool s]] w fun e w' => e = .returned (.agg #[.int .i64 (kidS k op n K L d i g s).l, .bool (kidS k op n K L d i g s).d, .bool (kidS k op n K L d i g s).i, .bool (kidS k op n K L d i g s).g, .bool (kidS k op n K L d i g s).s]) ∧ Below w.heap.size w w' := by
  by_cases hv : posOk L d = true ∧ 0 ≤ K ∧ K < (n : Int) ∧ ¬ levelOf k op = 0
  · obtain ⟨hP, g1, g2, h0⟩ := hv
    by_cases h15 : k = 15
    · subst h15; exact spec_k15 op K L x y a n cap d i g s w hn hP ⟨g1, g2⟩ h0
    by_cases h14 : k = 14
    · subst h14; exact spec_k14 op K L x y a n cap d i g s w hn hP ⟨g1, g2⟩ h0
    by_cases h13 : k = 13
    · subst h13
      by_cases h1 : 1 < n
      · exact spec_k13a op K L x y a n cap d i g s w hn hP ⟨g1, g2⟩ h0 h1
      · exact spec_k13b op K L x y a n cap d i g s w hn hP ⟨g1, g2⟩ h0 h1
    by_cases h12 : k = 12
    · subst h12; exact spec_k12 op K L x y a n cap d i g s w hn hP ⟨g1, g2⟩ h0
    by_cases h11 : k = 11
    · subst h11; exact spec_k11 op K L x y a n cap d i g s w hn hP ⟨g1, g2⟩ h0
    by_cases h9 : k = 9
    · subst h9; exact spec_k9 op K L x y a n cap d i g s w hn hP ⟨g1, g2⟩ h0
    by_cases h10 : k = 10
    · subst h10; exact spec_k10 op K L x y a n cap d i g s w hn hP ⟨g1, g2⟩ h0
    by_cases h6 : k = 6
    · subst h6; exact spec_k6 op K L x y a n cap d i g s w hn hP ⟨g1, g2⟩ h0
    exact spec_kd k op K L x y a n cap d i g s w hn hP ⟨g1, g2⟩ h0 ⟨h15, h14, h13, h12, h11, h9, h10, h6⟩
  · have hz : kidS k op n K L d i g s = zero := by unfold kidS; rw [if_neg hv]
    rw [hz]
    clear hz
    have HB := Lib.hid (Kb.start w k op x y (.slice a n cap) L d i g s)
    have hn1 : (n : Int) - 1 ≤ 9223372036854775807 := by omega
    have hn2 : (-9223372036854775808 : Int) ≤ (n : Int) - 1 := by omega
    obtain ⟨P, hP⟩ : ∃ P, posOk L d = P := ⟨_, rfl⟩
    have HP := Lib.hid hP
    rw [hP] at hv
    clear hP
    cases P
    · clear hv
      go_enter Tryz.func214, Tryz.ntmps214
      go_wp2_with (first | (go_at_call 26; refine (spec_ok L d i g _ _).mono ?_; rw [HP.out]; rintro e w5 ⟨rfl, b5⟩; have X5 := Lib.hid (HB.out.keep b5); obtain ⟨c50, c51, c52, c53, c54, -, -⟩ := X5.out.n; obtain ⟨p50, p51, p52, p53, p54, -⟩ := X5.out.p; obtain ⟨r50, r51, r52, r53, r54⟩ := X5.out.r.c; have f5 := X5.out.r.f; clear b5) | (go_at_call 86; refine (chars.spec_in _ _ _ _).mono ?_; rw [HI.out]; rintro e w' ⟨rfl, rfl⟩) | (go_at_call 211; refine (lv.spec_level k op x y a n cap _).mono ?_; rw [HV.out]; rintro e w6 ⟨rfl, b6⟩; have X6 := Lib.hid (X5.out.keep b6); obtain ⟨c60, c61, c62, c63, c64, -, -⟩ := X6.out.n; obtain ⟨p60, p61, p62, p63, p64, -⟩ := X6.out.p; obtain ⟨r60, r61, r62, r63, r64⟩ := X6.out.r.c; have f6 := X6.out.r.f; clear b6))
      obtain ⟨z0, z1, z2, z3, z4⟩ := X5.out.r.cput (0) (false) (false) (false) (false)
      exact bodyPost_ret (v := .agg #[.int .i64 (0), .bool (false), .bool (false), .bool (false), .bool (false)]) (by simp [results, Tryz.results214, go_sem, z0, z1, z2, z3, z4]) rfl ⟨rfl, below_set5 X5.out.n.b (by omega) _ _ _ _ _⟩
    obtain ⟨I, hI⟩ : ∃ I, inR K 0 ((n : Int) - 1) = I := ⟨_, rfl⟩
    have HI := Lib.hid hI
    cases I
    · clear hv hI
      go_enter Tryz.func214, Tryz.ntmps214
      go_wp2_with (first | (go_at_call 26; refine (spec_ok L d i g _ _).mono ?_; rw [HP.out]; rintro e w5 ⟨rfl, b5⟩; have X5 := Lib.hid (HB.out.keep b5); obtain ⟨c50, c51, c52, c53, c54, -, -⟩ := X5.out.n; obtain ⟨p50, p51, p52, p53, p54, -⟩ := X5.out.p; obtain ⟨r50, r51, r52, r53, r54⟩ := X5.out.r.c; have f5 := X5.out.r.f; clear b5) | (go_at_call 86; refine (chars.spec_in _ _ _ _).mono ?_; rw [HI.out]; rintro e w' ⟨rfl, rfl⟩) | (go_at_call 211; refine (lv.spec_level k op x y a n cap _).mono ?_; rw [HV.out]; rintro e w6 ⟨rfl, b6⟩; have X6 := Lib.hid (X5.out.keep b6); obtain ⟨c60, c61, c62, c63, c64, -, -⟩ := X6.out.n; obtain ⟨p60, p61, p62, p63, p64, -⟩ := X6.out.p; obtain ⟨r60, r61, r62, r63, r64⟩ := X6.out.r.c; have f6 := X6.out.r.f; clear b6))
      obtain ⟨z0, z1, z2, z3, z4⟩ := X5.out.r.cput (0) (false) (false) (false) (false)
      exact bodyPost_ret (v := .agg #[.int .i64 (0), .bool (false), .bool (false), .bool (false), .bool (false)]) (by simp [results, Tryz.results214, go_sem, z0, z1, z2, z3, z4]) rfl ⟨rfl, below_set5 X5.out.n.b (by omega) _ _ _ _ _⟩
    have h0 : levelOf k op = 0 := by
      by_cases h : levelOf k op = 0
      · exact h
      · exact absurd ⟨rfl, (in_of.1 hI).1, (in_of.1 hI).2, h⟩ hv
    have HV := Lib.hid h0
    clear hv hI h0
    go_enter Tryz.func214, Tryz.ntmps214
    go_wp2_with (first | (go_at_call 26; refine (spec_ok L d i g _ _).mono ?_; rw [HP.out]; rintro e w5 ⟨rfl, b5⟩; have X5 := Lib.hid (HB.out.keep b5); obtain ⟨c50, c51, c52, c53, c54, -, -⟩ := X5.out.n; obtain ⟨p50, p51, p52, p53, p54, -⟩ := X5.out.p; obtain ⟨r50, r51, r52, r53, r54⟩ := X5.out.r.c; have f5 := X5.out.r.f; clear b5) | (go_at_call 86; refine (chars.spec_in _ _ _ _).mono ?_; rw [HI.out]; rintro e w' ⟨rfl, rfl⟩) | (go_at_call 211; refine (lv.spec_level k op x y a n cap _).mono ?_; rw [HV.out]; rintro e w6 ⟨rfl, b6⟩; have X6 := Lib.hid (X5.out.keep b6); obtain ⟨c60, c61, c62, c63, c64, -, -⟩ := X6.out.n; obtain ⟨p60, p61, p62, p63, p64, -⟩ := X6.out.p; obtain ⟨r60, r61, r62, r63, r64⟩ := X6.out.r.c; have f6 := X6.out.r.f; clear b6))
    obtain ⟨z0, z1, z2, z3, z4⟩ := X6.out.r.cput (0) (false) (false) (false) (false)
    exact bodyPost_ret (v := .agg #[.int .i64 (0), .bool (false), .bool (false), .bool (false), .bool (false)]) (by simp [results, Tryz.results214, go_sem, z0, z1, z2, z3, z4]) rfl ⟨rfl, below_set5 X6.out.n.b (by omega) _ _ _ _ _⟩

/-! ### The mathematics -/
theorem sd_eq (op : Int) (h : ¬ opLevel op = 0) : sdI (opLevel op) = sdS (opLevel op) := by
  revert h
  unfold opLevel
  repeat' split
  all_goals first | (intro _; rfl) | (intro h; exact absurd rfl h)
theorem other_level {k op : Int} (h : ¬ k = 15 ∧ ¬ k = 14 ∧ ¬ k = 13 ∧ ¬ k = 12 ∧ ¬ k = 11 ∧ ¬ k = 9 ∧ ¬ k = 10 ∧ ¬ k = 6) (h0 : ¬ levelOf k op = 0) : levelOf k op = 15 := by
  revert h0
  unfold levelOf
  obtain ⟨h15, h14, h13, h12, h11, h9, h10, h6⟩ := h
  rw [if_neg h15, if_neg h14, if_neg h13, if_neg h12, if_neg h11, if_neg (by omega), if_neg h6]
  split
  · intro _; rfl
  · intro h; exact absurd rfl h
/-- Both sides give the same position but where a concatenation's kid lies beyond the second. -/
theorem kid_same (k op : Int) (n : Nat) (K L : Int) (d i g s : Bool) (h : k = 12 → op = 99 → K < 2) : kidI k op n K L d i g s = kidS k op n K L d i g s := by
  unfold kidI kidS
  by_cases hv : posOk L d = true ∧ 0 ≤ K ∧ K < (n : Int) ∧ ¬ levelOf k op = 0
  rotate_left
  · rw [if_neg hv, if_neg hv]
  rw [if_pos hv, if_pos hv]
  obtain ⟨-, hK, -, h0⟩ := hv
  have hc : (K == 0 && s) = (s && K == 0) := Bool.and_comm _ _
  by_cases h15 : k = 15
  · subst h15; simp [brk, levelOf, lvls, nsI, hc]
  by_cases h14 : k = 14
  · subst h14; simp [brk, levelOf, lvls, nsI, hc]
  by_cases h13 : k = 13
  · subst h13
    by_cases h1 : 1 < n
    · simp [brk, levelOf, h1]
    · simp [brk, levelOf, lvls, nsI, h1, hc]
  by_cases h12 : k = 12
  · subst h12
    have hr := lv.lev_range op
    have hl : levelOf 12 op = opLevel op := by simp [levelOf]
    rw [hl] at h0
    have hb : brk 12 op n = false := by
      have : ¬ opLevel op = 15 := by omega
      simp [brk, hl, this]
    have hs : lvls 12 op = sdS (opLevel op) := by rw [← sd_eq op h0]; simp [lvls]
    rw [hb, hs]
    simp only [nsI]
    by_cases hz : K = 0
    · subst hz; simp
    · by_cases ho : op = 99
      · have h1 : K = 1 := by have := h rfl ho; omega
        subst h1; subst ho; simp
      · have e1 : (K == 0) = false := by simp [hz]
        have e2 : (op == 99) = false := by simp [ho]
        simp [hz, ho, e1, e2]
  by_cases h11 : k = 11
  · subst h11; simp [brk, levelOf, lvls, nsI]
  by_cases h9 : k = 9
  · subst h9; simp [brk, levelOf, lvls, nsI]
  by_cases h10 : k = 10
  · subst h10; simp [brk, levelOf, lvls, nsI]
  by_cases h6 : k = 6
  · subst h6; simp [brk, levelOf, lvls, nsI]
  have h := other_level (op := op) ⟨h15, h14, h13, h12, h11, h9, h10, h6⟩ h0
  simp [brk, h, h15, h14, h13, h12, h11, h9, h10, h6]
theorem sdS_range (v : Int) : (1 ≤ (sdS v).1 ∧ (sdS v).1 ≤ 15) ∧ 1 ≤ (sdS v).2 ∧ (sdS v).2 ≤ 15 := by
  unfold sdS
  repeat' split
  all_goals decide
theorem ok_of {L : Int} (h1 : 1 ≤ L) (h2 : L ≤ 15) : posOk L false = true := by simp [posOk, inR, h1, h2]
/-- A kid's position is valid, and inherits what it forbids but inside brackets. -/
theorem kid_good (k op : Int) (n : Nat) (K L : Int) (d i g s : Bool) (hv : posOk L d = true ∧ 0 ≤ K ∧ K < (n : Int) ∧ ¬ levelOf k op = 0) : posOk (kidS k op n K L d i g s).l (kidS k op n K L d i g s).d = true ∧ (kidS k op n K L d i g s = top ∨ (kidS k op n K L d i g s).i = i ∧ (kidS k op n K L d i g s).g = g) := by
  unfold kidS
  rw [if_pos hv]
  have hr := sdS_range (opLevel op)
  split
  · refine ⟨?_, .inr ⟨rfl, rfl⟩⟩
    by_cases hz : K = 0 <;> simp [hz, posOk, inR]
  split
  · refine ⟨?_, .inr ⟨rfl, rfl⟩⟩
    by_cases hz : K = 0 <;> simp [hz, posOk, inR]
  split
  · split
    · exact ⟨by simp [top, posOk, inR], .inl rfl⟩
    · exact ⟨by simp [posOk, inR], .inr ⟨rfl, rfl⟩⟩
  split
  · refine ⟨?_, .inr ⟨rfl, rfl⟩⟩
    by_cases hz : K = 0
    · simp only [hz, if_true]; exact ok_of hr.1.1 hr.1.2
    · simp only [hz, if_false]; exact ok_of hr.2.1 hr.2.2
  split
  · exact ⟨by simp [posOk, inR], .inr ⟨rfl, rfl⟩⟩
  split
  · exact ⟨by simp [posOk, inR], .inr ⟨rfl, rfl⟩⟩
  split
  · exact ⟨by simp [posOk, inR], .inr ⟨rfl, rfl⟩⟩
  · exact ⟨by simp [top, posOk, inR], .inl rfl⟩
end Go.Proofs.YtiilpnoaocfjgaaGreatDoor.ps
