/-
  The positions of kids: spec.KidPos: more kinds.
-/
import Derived.Test.YtiilpnoaocfjgaaGreatDoorKidS0
namespace Go.Proofs.YtiilpnoaocfjgaaGreatDoor.ps
open Go.ChangeShapes Go.WideShapes Go.ChangeAt Go.RowKit
open chars (inR)
open lv (levelOf opLevel box_below Bx)
set_option linter.unusedVariables false
set_option maxRecDepth 20000

set_option maxHeartbeats 3200000 in
theorem spec_k13b (op K L : Int) (x y : ByteArray) (a : Option Addr) (n cap : Nat) (d i g s : Bool) (w : World) (hn : n ≤ 1048576) (hP : posOk L d = true) (hK : 0 ≤ K ∧ K < (n : Int)) (h0 : ¬ levelOf 13 op = 0) (h1n : ¬ 1 < n) : Calls Tryz.prog 214 #[.agg #[.int .i64 13, .int .i64 op, .string x, .string y, .slice a n cap], .int .i64 K, .agg #[.int .i64 L, .bool d, .bool i, .bool g, .bool s]] w fun e w' => e = .returned (.agg #[.int .i64 (kidS 13 op n K L d i g s).l, .bool (kidS 13 op n K L d i g s).d, .bool (kidS 13 op n K L d i g s).i, .bool (kidS 13 op n K L d i g s).g, .bool (kidS 13 op n K L d i g s).s]) ∧ Below w.heap.size w w' := by
  have HB := Lib.hid (fun s => Kb.start w 13 op x y (.slice a n cap) L d i g s)
  have HP := Lib.hid hP
  have HI := Lib.hid (in_of.2 hK)
  obtain ⟨V, hV⟩ : ∃ V, levelOf 13 op = V := ⟨_, rfl⟩
  have HV := Lib.hid hV
  have HH := Lib.hid (And.intro hP (And.intro hK.1 (And.intro hK.2 h0)))
  rw [hV] at h0
  have e3 : (V == 0) = false := by simp [h0]
  have hK0 := hK.1
  have hn1 : (n : Int) - 1 ≤ 9223372036854775807 := by omega
  have hn2 : (-9223372036854775808 : Int) ≤ (n : Int) - 1 := by omega
  obtain ⟨A, hA⟩ : ∃ A, sdS (opLevel op) = A := ⟨_, rfl⟩
  obtain ⟨A1, A2⟩ := A
  have HA := Lib.hid hA
  clear hP hV hK hA h0
  have h1i : ¬ (1 : Int) < (n : Int) := by omega
  by_cases hz : K = 0
  · subst hz
    clear hK0
    cases s
    · have HR := Lib.hid (show kidS 13 op n 0 L d i g false = ⟨5, false, i, g, false⟩ by unfold kidS; rw [if_pos HH.out]; simp [h1n])
      have HB := Lib.hid (HB.out false)
      clear HH
      go_enter Tryz.func214, Tryz.ntmps214
      go_upto_region 4 with (first | (go_at_call 26; refine (spec_ok L d i g _ _).mono ?_; rw [HP.out]; rintro e w5 ⟨rfl, b5⟩; have X5 := Lib.hid (HB.out.keep b5); obtain ⟨c50, c51, c52, c53, c54, -, -⟩ := X5.out.n; obtain ⟨p50, p51, p52, p53, p54, -⟩ := X5.out.p; obtain ⟨r50, r51, r52, r53, r54⟩ := X5.out.r.c; have f5 := X5.out.r.f; clear b5) | (go_at_call 86; refine (chars.spec_in _ _ _ _).mono ?_; rw [HI.out]; rintro e w' ⟨rfl, rfl⟩) | (go_at_call 211; refine (lv.spec_level 13 op x y a n cap _).mono ?_; rw [HV.out]; rintro e w6 ⟨rfl, b6⟩; have X6 := Lib.hid (X5.out.keep b6); obtain ⟨c60, c61, c62, c63, c64, -, -⟩ := X6.out.n; obtain ⟨p60, p61, p62, p63, p64, -⟩ := X6.out.p; obtain ⟨r60, r61, r62, r63, r64⟩ := X6.out.r.c; have f6 := X6.out.r.f; clear b6))
      obtain ⟨q, hq⟩ : ∃ q, q = w6.heap.size := ⟨_, rfl⟩
      obtain ⟨W, hWe⟩ : ∃ W, W = w6.alloc (.cells #[.int .i64 0, .bool false, .bool i, .bool g, .bool false] 26) := ⟨_, rfl⟩
      have XW := Lib.hid (show Kb w W 13 op x y (.slice a n cap) L d i g _ by rw [hWe]; exact X6.out.keep (box_below _ _))
      have OW := Lib.hid (show B5 q 0 false i g false W by rw [hWe, hq]; exact B5.new _ _ _ _ _ _)
      have hlt := X6.out.r.lt
      have hne : w.heap.size + 1 + 1 ≠ q := by omega
      have hne2 : q ≠ w.heap.size + 1 + 1 := by omega
      have hne3 : w.heap.size ≠ q := by omega
      have hne4 : w.heap.size + 1 ≠ q := by omega
      have hqB : w.heap.size ≤ q := by omega
      have HQB := Lib.hid hqB
      rw [← hWe, ← hq]
      clear hWe hq hlt hqB
      clear c60 c61 c62 c63 c64 p60 p61 p62 p63 p64 r60 r61 r62 r63 r64 f6 c50 c51 c52 c53 c54 p50 p51 p52 p53 p54 r50 r51 r52 r53 r54 f5
      obtain ⟨c70, c71, c72, c73, c74, -, -⟩ := XW.out.n
      obtain ⟨r70, r71, r72, r73, r74⟩ := XW.out.r.c
      have f7 := XW.out.r.f
      obtain ⟨o70, o71, o72, o73, o74⟩ := OW.out.c
      have fo7 := OW.out.f
      go_wp2_with (go_at_call 203; refine (spec_sides op _).mono ?_; rw [HA.out]; rintro e w8 ⟨rfl, rfl⟩)
      have hqB := HQB.out
      obtain ⟨z0, z1, z2, z3, z4⟩ := (XW.out.r.other hne 0 (.int .i64 (5))).cput (5) (false) (i) (g) (false)
      exact bodyPost_ret (v := .agg #[.int .i64 (5), .bool (false), .bool (i), .bool (g), .bool (false)]) (by simp [results, Tryz.results214, go_sem, z0, z1, z2, z3, z4]) rfl ⟨by rw [HR.out], below_set5 (XW.out.n.b.setCell (p := ⟨q, 0, none⟩) hqB (.int .i64 (5))) (by omega) _ _ _ _ _⟩
    · have HR := Lib.hid (show kidS 13 op n 0 L d i g true = ⟨5, false, i, g, true⟩ by unfold kidS; rw [if_pos HH.out]; simp [h1n])
      have HB := Lib.hid (HB.out true)
      clear HH
      go_enter Tryz.func214, Tryz.ntmps214
      go_upto_region 4 with (first | (go_at_call 26; refine (spec_ok L d i g _ _).mono ?_; rw [HP.out]; rintro e w5 ⟨rfl, b5⟩; have X5 := Lib.hid (HB.out.keep b5); obtain ⟨c50, c51, c52, c53, c54, -, -⟩ := X5.out.n; obtain ⟨p50, p51, p52, p53, p54, -⟩ := X5.out.p; obtain ⟨r50, r51, r52, r53, r54⟩ := X5.out.r.c; have f5 := X5.out.r.f; clear b5) | (go_at_call 86; refine (chars.spec_in _ _ _ _).mono ?_; rw [HI.out]; rintro e w' ⟨rfl, rfl⟩) | (go_at_call 211; refine (lv.spec_level 13 op x y a n cap _).mono ?_; rw [HV.out]; rintro e w6 ⟨rfl, b6⟩; have X6 := Lib.hid (X5.out.keep b6); obtain ⟨c60, c61, c62, c63, c64, -, -⟩ := X6.out.n; obtain ⟨p60, p61, p62, p63, p64, -⟩ := X6.out.p; obtain ⟨r60, r61, r62, r63, r64⟩ := X6.out.r.c; have f6 := X6.out.r.f; clear b6))
      obtain ⟨q, hq⟩ : ∃ q, q = w6.heap.size := ⟨_, rfl⟩
      obtain ⟨W, hWe⟩ : ∃ W, W = w6.alloc (.cells #[.int .i64 0, .bool false, .bool i, .bool g, .bool true] 26) := ⟨_, rfl⟩
      have XW := Lib.hid (show Kb w W 13 op x y (.slice a n cap) L d i g _ by rw [hWe]; exact X6.out.keep (box_below _ _))
      have OW := Lib.hid (show B5 q 0 false i g true W by rw [hWe, hq]; exact B5.new _ _ _ _ _ _)
      have hlt := X6.out.r.lt
      have hne : w.heap.size + 1 + 1 ≠ q := by omega
      have hne2 : q ≠ w.heap.size + 1 + 1 := by omega
      have hne3 : w.heap.size ≠ q := by omega
      have hne4 : w.heap.size + 1 ≠ q := by omega
      have hqB : w.heap.size ≤ q := by omega
      have HQB := Lib.hid hqB
      rw [← hWe, ← hq]
      clear hWe hq hlt hqB
      clear c60 c61 c62 c63 c64 p60 p61 p62 p63 p64 r60 r61 r62 r63 r64 f6 c50 c51 c52 c53 c54 p50 p51 p52 p53 p54 r50 r51 r52 r53 r54 f5
      obtain ⟨c70, c71, c72, c73, c74, -, -⟩ := XW.out.n
      obtain ⟨r70, r71, r72, r73, r74⟩ := XW.out.r.c
      have f7 := XW.out.r.f
      obtain ⟨o70, o71, o72, o73, o74⟩ := OW.out.c
      have fo7 := OW.out.f
      go_wp2_with (go_at_call 203; refine (spec_sides op _).mono ?_; rw [HA.out]; rintro e w8 ⟨rfl, rfl⟩)
      have hqB := HQB.out
      obtain ⟨z0, z1, z2, z3, z4⟩ := (XW.out.r.other hne 0 (.int .i64 (5))).cput (5) (false) (i) (g) (true)
      exact bodyPost_ret (v := .agg #[.int .i64 (5), .bool (false), .bool (i), .bool (g), .bool (true)]) (by simp [results, Tryz.results214, go_sem, z0, z1, z2, z3, z4]) rfl ⟨by rw [HR.out], below_set5 (XW.out.n.b.setCell (p := ⟨q, 0, none⟩) hqB (.int .i64 (5))) (by omega) _ _ _ _ _⟩
  · have hpos : 0 < K := by omega
    have e4 : (K == 0) = false := by simp [hz]
    cases s
    · have HR := Lib.hid (show kidS 13 op n K L d i g false = ⟨5, false, i, g, false⟩ by unfold kidS; rw [if_pos HH.out]; simp [h1n])
      have HB := Lib.hid (HB.out false)
      clear HH hz
      go_enter Tryz.func214, Tryz.ntmps214
      go_upto_region 4 with (first | (go_at_call 26; refine (spec_ok L d i g _ _).mono ?_; rw [HP.out]; rintro e w5 ⟨rfl, b5⟩; have X5 := Lib.hid (HB.out.keep b5); obtain ⟨c50, c51, c52, c53, c54, -, -⟩ := X5.out.n; obtain ⟨p50, p51, p52, p53, p54, -⟩ := X5.out.p; obtain ⟨r50, r51, r52, r53, r54⟩ := X5.out.r.c; have f5 := X5.out.r.f; clear b5) | (go_at_call 86; refine (chars.spec_in _ _ _ _).mono ?_; rw [HI.out]; rintro e w' ⟨rfl, rfl⟩) | (go_at_call 211; refine (lv.spec_level 13 op x y a n cap _).mono ?_; rw [HV.out]; rintro e w6 ⟨rfl, b6⟩; have X6 := Lib.hid (X5.out.keep b6); obtain ⟨c60, c61, c62, c63, c64, -, -⟩ := X6.out.n; obtain ⟨p60, p61, p62, p63, p64, -⟩ := X6.out.p; obtain ⟨r60, r61, r62, r63, r64⟩ := X6.out.r.c; have f6 := X6.out.r.f; clear b6))
      obtain ⟨q, hq⟩ : ∃ q, q = w6.heap.size := ⟨_, rfl⟩
      obtain ⟨W, hWe⟩ : ∃ W, W = w6.alloc (.cells #[.int .i64 0, .bool false, .bool i, .bool g, .bool false] 26) := ⟨_, rfl⟩
      have XW := Lib.hid (show Kb w W 13 op x y (.slice a n cap) L d i g _ by rw [hWe]; exact X6.out.keep (box_below _ _))
      have OW := Lib.hid (show B5 q 0 false i g false W by rw [hWe, hq]; exact B5.new _ _ _ _ _ _)
      have hlt := X6.out.r.lt
      have hne : w.heap.size + 1 + 1 ≠ q := by omega
      have hne2 : q ≠ w.heap.size + 1 + 1 := by omega
      have hne3 : w.heap.size ≠ q := by omega
      have hne4 : w.heap.size + 1 ≠ q := by omega
      have hqB : w.heap.size ≤ q := by omega
      have HQB := Lib.hid hqB
      rw [← hWe, ← hq]
      clear hWe hq hlt hqB
      clear c60 c61 c62 c63 c64 p60 p61 p62 p63 p64 r60 r61 r62 r63 r64 f6 c50 c51 c52 c53 c54 p50 p51 p52 p53 p54 r50 r51 r52 r53 r54 f5
      obtain ⟨c70, c71, c72, c73, c74, -, -⟩ := XW.out.n
      obtain ⟨r70, r71, r72, r73, r74⟩ := XW.out.r.c
      have f7 := XW.out.r.f
      obtain ⟨o70, o71, o72, o73, o74⟩ := OW.out.c
      have fo7 := OW.out.f
      go_wp2_with (go_at_call 203; refine (spec_sides op _).mono ?_; rw [HA.out]; rintro e w8 ⟨rfl, rfl⟩)
      have hqB := HQB.out
      obtain ⟨z0, z1, z2, z3, z4⟩ := (XW.out.r.other hne 0 (.int .i64 (5))).cput (5) (false) (i) (g) (false)
      exact bodyPost_ret (v := .agg #[.int .i64 (5), .bool (false), .bool (i), .bool (g), .bool (false)]) (by simp [results, Tryz.results214, go_sem, z0, z1, z2, z3, z4]) rfl ⟨by rw [HR.out], below_set5 (XW.out.n.b.setCell (p := ⟨q, 0, none⟩) hqB (.int .i64 (5))) (by omega) _ _ _ _ _⟩
    · have HR := Lib.hid (show kidS 13 op n K L d i g true = ⟨5, false, i, g, false⟩ by unfold kidS; rw [if_pos HH.out]; simp [h1n, hz])
      have HB := Lib.hid (HB.out true)
      clear HH hz
      go_enter Tryz.func214, Tryz.ntmps214
      go_upto_region 4 with (first | (go_at_call 26; refine (spec_ok L d i g _ _).mono ?_; rw [HP.out]; rintro e w5 ⟨rfl, b5⟩; have X5 := Lib.hid (HB.out.keep b5); obtain ⟨c50, c51, c52, c53, c54, -, -⟩ := X5.out.n; obtain ⟨p50, p51, p52, p53, p54, -⟩ := X5.out.p; obtain ⟨r50, r51, r52, r53, r54⟩ := X5.out.r.c; have f5 := X5.out.r.f; clear b5) | (go_at_call 86; refine (chars.spec_in _ _ _ _).mono ?_; rw [HI.out]; rintro e w' ⟨rfl, rfl⟩) | (go_at_call 211; refine (lv.spec_level 13 op x y a n cap _).mono ?_; rw [HV.out]; rintro e w6 ⟨rfl, b6⟩; have X6 := Lib.hid (X5.out.keep b6); obtain ⟨c60, c61, c62, c63, c64, -, -⟩ := X6.out.n; obtain ⟨p60, p61, p62, p63, p64, -⟩ := X6.out.p; obtain ⟨r60, r61, r62, r63, r64⟩ := X6.out.r.c; have f6 := X6.out.r.f; clear b6))
      obtain ⟨q, hq⟩ : ∃ q, q = w6.heap.size := ⟨_, rfl⟩
      obtain ⟨W, hWe⟩ : ∃ W, W = w6.alloc (.cells #[.int .i64 0, .bool false, .bool i, .bool g, .bool false] 26) := ⟨_, rfl⟩
      have XW := Lib.hid (show Kb w W 13 op x y (.slice a n cap) L d i g _ by rw [hWe]; exact X6.out.keep (box_below _ _))
      have OW := Lib.hid (show B5 q 0 false i g false W by rw [hWe, hq]; exact B5.new _ _ _ _ _ _)
      have hlt := X6.out.r.lt
      have hne : w.heap.size + 1 + 1 ≠ q := by omega
      have hne2 : q ≠ w.heap.size + 1 + 1 := by omega
      have hne3 : w.heap.size ≠ q := by omega
      have hne4 : w.heap.size + 1 ≠ q := by omega
      have hqB : w.heap.size ≤ q := by omega
      have HQB := Lib.hid hqB
      rw [← hWe, ← hq]
      clear hWe hq hlt hqB
      clear c60 c61 c62 c63 c64 p60 p61 p62 p63 p64 r60 r61 r62 r63 r64 f6 c50 c51 c52 c53 c54 p50 p51 p52 p53 p54 r50 r51 r52 r53 r54 f5
      obtain ⟨c70, c71, c72, c73, c74, -, -⟩ := XW.out.n
      obtain ⟨r70, r71, r72, r73, r74⟩ := XW.out.r.c
      have f7 := XW.out.r.f
      obtain ⟨o70, o71, o72, o73, o74⟩ := OW.out.c
      have fo7 := OW.out.f
      go_wp2_with (go_at_call 203; refine (spec_sides op _).mono ?_; rw [HA.out]; rintro e w8 ⟨rfl, rfl⟩)
      have hqB := HQB.out
      obtain ⟨z0, z1, z2, z3, z4⟩ := (XW.out.r.other hne 0 (.int .i64 (5))).cput (5) (false) (i) (g) (false)
      exact bodyPost_ret (v := .agg #[.int .i64 (5), .bool (false), .bool (i), .bool (g), .bool (false)]) (by simp [results, Tryz.results214, go_sem, z0, z1, z2, z3, z4]) rfl ⟨by rw [HR.out], below_set5 (XW.out.n.b.setCell (p := ⟨q, 0, none⟩) hqB (.int .i64 (5))) (by omega) _ _ _ _ _⟩

set_option maxHeartbeats 3200000 in
theorem spec_k12 (op K L : Int) (x y : ByteArray) (a : Option Addr) (n cap : Nat) (d i g s : Bool) (w : World) (hn : n ≤ 1048576) (hP : posOk L d = true) (hK : 0 ≤ K ∧ K < (n : Int)) (h0 : ¬ levelOf 12 op = 0) : Calls Tryz.prog 214 #[.agg #[.int .i64 12, .int .i64 op, .string x, .string y, .slice a n cap], .int .i64 K, .agg #[.int .i64 L, .bool d, .bool i, .bool g, .bool s]] w fun e w' => e = .returned (.agg #[.int .i64 (kidS 12 op n K L d i g s).l, .bool (kidS 12 op n K L d i g s).d, .bool (kidS 12 op n K L d i g s).i, .bool (kidS 12 op n K L d i g s).g, .bool (kidS 12 op n K L d i g s).s]) ∧ Below w.heap.size w w' := by
  have HB := Lib.hid (fun s => Kb.start w 12 op x y (.slice a n cap) L d i g s)
  have HP := Lib.hid hP
  have HI := Lib.hid (in_of.2 hK)
  obtain ⟨V, hV⟩ : ∃ V, levelOf 12 op = V := ⟨_, rfl⟩
  have HV := Lib.hid hV
  have HH := Lib.hid (And.intro hP (And.intro hK.1 (And.intro hK.2 h0)))
  rw [hV] at h0
  have e3 : (V == 0) = false := by simp [h0]
  have hK0 := hK.1
  have hn1 : (n : Int) - 1 ≤ 9223372036854775807 := by omega
  have hn2 : (-9223372036854775808 : Int) ≤ (n : Int) - 1 := by omega
  obtain ⟨A, hA⟩ : ∃ A, sdS (opLevel op) = A := ⟨_, rfl⟩
  obtain ⟨A1, A2⟩ := A
  have HA := Lib.hid hA
  clear hP hV hK hA h0
  by_cases hz : K = 0
  · subst hz
    clear hK0
    cases s
    · have HR := Lib.hid (show kidS 12 op n 0 L d i g false = ⟨A1, false, i, g, false⟩ by unfold kidS; rw [if_pos HH.out]; simp [HA.out])
      have HB := Lib.hid (HB.out false)
      clear HH
      go_enter Tryz.func214, Tryz.ntmps214
      go_upto_region 4 with (first | (go_at_call 26; refine (spec_ok L d i g _ _).mono ?_; rw [HP.out]; rintro e w5 ⟨rfl, b5⟩; have X5 := Lib.hid (HB.out.keep b5); obtain ⟨c50, c51, c52, c53, c54, -, -⟩ := X5.out.n; obtain ⟨p50, p51, p52, p53, p54, -⟩ := X5.out.p; obtain ⟨r50, r51, r52, r53, r54⟩ := X5.out.r.c; have f5 := X5.out.r.f; clear b5) | (go_at_call 86; refine (chars.spec_in _ _ _ _).mono ?_; rw [HI.out]; rintro e w' ⟨rfl, rfl⟩) | (go_at_call 211; refine (lv.spec_level 12 op x y a n cap _).mono ?_; rw [HV.out]; rintro e w6 ⟨rfl, b6⟩; have X6 := Lib.hid (X5.out.keep b6); obtain ⟨c60, c61, c62, c63, c64, -, -⟩ := X6.out.n; obtain ⟨p60, p61, p62, p63, p64, -⟩ := X6.out.p; obtain ⟨r60, r61, r62, r63, r64⟩ := X6.out.r.c; have f6 := X6.out.r.f; clear b6))
      obtain ⟨q, hq⟩ : ∃ q, q = w6.heap.size := ⟨_, rfl⟩
      obtain ⟨W, hWe⟩ : ∃ W, W = w6.alloc (.cells #[.int .i64 0, .bool false, .bool i, .bool g, .bool false] 26) := ⟨_, rfl⟩
      have XW := Lib.hid (show Kb w W 12 op x y (.slice a n cap) L d i g _ by rw [hWe]; exact X6.out.keep (box_below _ _))
      have OW := Lib.hid (show B5 q 0 false i g false W by rw [hWe, hq]; exact B5.new _ _ _ _ _ _)
      have hlt := X6.out.r.lt
      have hne : w.heap.size + 1 + 1 ≠ q := by omega
      have hne2 : q ≠ w.heap.size + 1 + 1 := by omega
      have hne3 : w.heap.size ≠ q := by omega
      have hne4 : w.heap.size + 1 ≠ q := by omega
      have hqB : w.heap.size ≤ q := by omega
      have HQB := Lib.hid hqB
      rw [← hWe, ← hq]
      clear hWe hq hlt hqB
      clear c60 c61 c62 c63 c64 p60 p61 p62 p63 p64 r60 r61 r62 r63 r64 f6 c50 c51 c52 c53 c54 p50 p51 p52 p53 p54 r50 r51 r52 r53 r54 f5
      obtain ⟨c70, c71, c72, c73, c74, -, -⟩ := XW.out.n
      obtain ⟨r70, r71, r72, r73, r74⟩ := XW.out.r.c
      have f7 := XW.out.r.f
      obtain ⟨o70, o71, o72, o73, o74⟩ := OW.out.c
      have fo7 := OW.out.f
      go_wp2_with (go_at_call 203; refine (spec_sides op _).mono ?_; rw [HA.out]; rintro e w8 ⟨rfl, rfl⟩)
      have hqB := HQB.out
      obtain ⟨z0, z1, z2, z3, z4⟩ := (XW.out.r.other hne 0 (.int .i64 (A1))).cput (A1) (false) (i) (g) (false)
      exact bodyPost_ret (v := .agg #[.int .i64 (A1), .bool (false), .bool (i), .bool (g), .bool (false)]) (by simp [results, Tryz.results214, go_sem, z0, z1, z2, z3, z4]) rfl ⟨by rw [HR.out], below_set5 (XW.out.n.b.setCell (p := ⟨q, 0, none⟩) hqB (.int .i64 (A1))) (by omega) _ _ _ _ _⟩
    · have HR := Lib.hid (show kidS 12 op n 0 L d i g true = ⟨A1, false, i, g, true⟩ by unfold kidS; rw [if_pos HH.out]; simp [HA.out])
      have HB := Lib.hid (HB.out true)
      clear HH
      go_enter Tryz.func214, Tryz.ntmps214
      go_upto_region 4 with (first | (go_at_call 26; refine (spec_ok L d i g _ _).mono ?_; rw [HP.out]; rintro e w5 ⟨rfl, b5⟩; have X5 := Lib.hid (HB.out.keep b5); obtain ⟨c50, c51, c52, c53, c54, -, -⟩ := X5.out.n; obtain ⟨p50, p51, p52, p53, p54, -⟩ := X5.out.p; obtain ⟨r50, r51, r52, r53, r54⟩ := X5.out.r.c; have f5 := X5.out.r.f; clear b5) | (go_at_call 86; refine (chars.spec_in _ _ _ _).mono ?_; rw [HI.out]; rintro e w' ⟨rfl, rfl⟩) | (go_at_call 211; refine (lv.spec_level 12 op x y a n cap _).mono ?_; rw [HV.out]; rintro e w6 ⟨rfl, b6⟩; have X6 := Lib.hid (X5.out.keep b6); obtain ⟨c60, c61, c62, c63, c64, -, -⟩ := X6.out.n; obtain ⟨p60, p61, p62, p63, p64, -⟩ := X6.out.p; obtain ⟨r60, r61, r62, r63, r64⟩ := X6.out.r.c; have f6 := X6.out.r.f; clear b6))
      obtain ⟨q, hq⟩ : ∃ q, q = w6.heap.size := ⟨_, rfl⟩
      obtain ⟨W, hWe⟩ : ∃ W, W = w6.alloc (.cells #[.int .i64 0, .bool false, .bool i, .bool g, .bool true] 26) := ⟨_, rfl⟩
      have XW := Lib.hid (show Kb w W 12 op x y (.slice a n cap) L d i g _ by rw [hWe]; exact X6.out.keep (box_below _ _))
      have OW := Lib.hid (show B5 q 0 false i g true W by rw [hWe, hq]; exact B5.new _ _ _ _ _ _)
      have hlt := X6.out.r.lt
      have hne : w.heap.size + 1 + 1 ≠ q := by omega
      have hne2 : q ≠ w.heap.size + 1 + 1 := by omega
      have hne3 : w.heap.size ≠ q := by omega
      have hne4 : w.heap.size + 1 ≠ q := by omega
      have hqB : w.heap.size ≤ q := by omega
      have HQB := Lib.hid hqB
      rw [← hWe, ← hq]
      clear hWe hq hlt hqB
      clear c60 c61 c62 c63 c64 p60 p61 p62 p63 p64 r60 r61 r62 r63 r64 f6 c50 c51 c52 c53 c54 p50 p51 p52 p53 p54 r50 r51 r52 r53 r54 f5
      obtain ⟨c70, c71, c72, c73, c74, -, -⟩ := XW.out.n
      obtain ⟨r70, r71, r72, r73, r74⟩ := XW.out.r.c
      have f7 := XW.out.r.f
      obtain ⟨o70, o71, o72, o73, o74⟩ := OW.out.c
      have fo7 := OW.out.f
      go_wp2_with (go_at_call 203; refine (spec_sides op _).mono ?_; rw [HA.out]; rintro e w8 ⟨rfl, rfl⟩)
      have hqB := HQB.out
      obtain ⟨z0, z1, z2, z3, z4⟩ := (XW.out.r.other hne 0 (.int .i64 (A1))).cput (A1) (false) (i) (g) (true)
      exact bodyPost_ret (v := .agg #[.int .i64 (A1), .bool (false), .bool (i), .bool (g), .bool (true)]) (by simp [results, Tryz.results214, go_sem, z0, z1, z2, z3, z4]) rfl ⟨by rw [HR.out], below_set5 (XW.out.n.b.setCell (p := ⟨q, 0, none⟩) hqB (.int .i64 (A1))) (by omega) _ _ _ _ _⟩
  · have hpos : 0 < K := by omega
    have e4 : (K == 0) = false := by simp [hz]
    cases s
    · have HR := Lib.hid (show kidS 12 op n K L d i g false = ⟨A2, false, i, g, op == 99⟩ by unfold kidS; rw [if_pos HH.out]; simp [hz, HA.out])
      have HB := Lib.hid (HB.out false)
      clear HH hz
      go_enter Tryz.func214, Tryz.ntmps214
      go_upto_region 4 with (first | (go_at_call 26; refine (spec_ok L d i g _ _).mono ?_; rw [HP.out]; rintro e w5 ⟨rfl, b5⟩; have X5 := Lib.hid (HB.out.keep b5); obtain ⟨c50, c51, c52, c53, c54, -, -⟩ := X5.out.n; obtain ⟨p50, p51, p52, p53, p54, -⟩ := X5.out.p; obtain ⟨r50, r51, r52, r53, r54⟩ := X5.out.r.c; have f5 := X5.out.r.f; clear b5) | (go_at_call 86; refine (chars.spec_in _ _ _ _).mono ?_; rw [HI.out]; rintro e w' ⟨rfl, rfl⟩) | (go_at_call 211; refine (lv.spec_level 12 op x y a n cap _).mono ?_; rw [HV.out]; rintro e w6 ⟨rfl, b6⟩; have X6 := Lib.hid (X5.out.keep b6); obtain ⟨c60, c61, c62, c63, c64, -, -⟩ := X6.out.n; obtain ⟨p60, p61, p62, p63, p64, -⟩ := X6.out.p; obtain ⟨r60, r61, r62, r63, r64⟩ := X6.out.r.c; have f6 := X6.out.r.f; clear b6))
      obtain ⟨q, hq⟩ : ∃ q, q = w6.heap.size := ⟨_, rfl⟩
      obtain ⟨W, hWe⟩ : ∃ W, W = w6.alloc (.cells #[.int .i64 0, .bool false, .bool i, .bool g, .bool false] 26) := ⟨_, rfl⟩
      have XW := Lib.hid (show Kb w W 12 op x y (.slice a n cap) L d i g _ by rw [hWe]; exact X6.out.keep (box_below _ _))
      have OW := Lib.hid (show B5 q 0 false i g false W by rw [hWe, hq]; exact B5.new _ _ _ _ _ _)
      have hlt := X6.out.r.lt
      have hne : w.heap.size + 1 + 1 ≠ q := by omega
      have hne2 : q ≠ w.heap.size + 1 + 1 := by omega
      have hne3 : w.heap.size ≠ q := by omega
      have hne4 : w.heap.size + 1 ≠ q := by omega
      have hqB : w.heap.size ≤ q := by omega
      have HQB := Lib.hid hqB
      rw [← hWe, ← hq]
      clear hWe hq hlt hqB
      clear c60 c61 c62 c63 c64 p60 p61 p62 p63 p64 r60 r61 r62 r63 r64 f6 c50 c51 c52 c53 c54 p50 p51 p52 p53 p54 r50 r51 r52 r53 r54 f5
      obtain ⟨c70, c71, c72, c73, c74, -, -⟩ := XW.out.n
      obtain ⟨r70, r71, r72, r73, r74⟩ := XW.out.r.c
      have f7 := XW.out.r.f
      obtain ⟨o70, o71, o72, o73, o74⟩ := OW.out.c
      have fo7 := OW.out.f
      go_wp2_with (go_at_call 203; refine (spec_sides op _).mono ?_; rw [HA.out]; rintro e w8 ⟨rfl, rfl⟩)
      have hqB := HQB.out
      obtain ⟨z0, z1, z2, z3, z4⟩ := (((XW.out.r.other hne 0 (.int .i64 (A1))).other hne 0 (.int .i64 (A2))).other hne 4 (.bool (op == 99))).cput (A2) (false) (i) (g) (op == 99)
      exact bodyPost_ret (v := .agg #[.int .i64 (A2), .bool (false), .bool (i), .bool (g), .bool (op == 99)]) (by simp [results, Tryz.results214, go_sem, z0, z1, z2, z3, z4]) rfl ⟨by rw [HR.out], below_set5 (((XW.out.n.b.setCell (p := ⟨q, 0, none⟩) hqB (.int .i64 (A1))).setCell (p := ⟨q, 0, none⟩) hqB (.int .i64 (A2))).setCell (p := ⟨q, 4, none⟩) hqB (.bool (op == 99))) (by omega) _ _ _ _ _⟩
    · have HR := Lib.hid (show kidS 12 op n K L d i g true = ⟨A2, false, i, g, op == 99⟩ by unfold kidS; rw [if_pos HH.out]; simp [hz, HA.out])
      have HB := Lib.hid (HB.out true)
      clear HH hz
      go_enter Tryz.func214, Tryz.ntmps214
      go_upto_region 4 with (first | (go_at_call 26; refine (spec_ok L d i g _ _).mono ?_; rw [HP.out]; rintro e w5 ⟨rfl, b5⟩; have X5 := Lib.hid (HB.out.keep b5); obtain ⟨c50, c51, c52, c53, c54, -, -⟩ := X5.out.n; obtain ⟨p50, p51, p52, p53, p54, -⟩ := X5.out.p; obtain ⟨r50, r51, r52, r53, r54⟩ := X5.out.r.c; have f5 := X5.out.r.f; clear b5) | (go_at_call 86; refine (chars.spec_in _ _ _ _).mono ?_; rw [HI.out]; rintro e w' ⟨rfl, rfl⟩) | (go_at_call 211; refine (lv.spec_level 12 op x y a n cap _).mono ?_; rw [HV.out]; rintro e w6 ⟨rfl, b6⟩; have X6 := Lib.hid (X5.out.keep b6); obtain ⟨c60, c61, c62, c63, c64, -, -⟩ := X6.out.n; obtain ⟨p60, p61, p62, p63, p64, -⟩ := X6.out.p; obtain ⟨r60, r61, r62, r63, r64⟩ := X6.out.r.c; have f6 := X6.out.r.f; clear b6))
      obtain ⟨q, hq⟩ : ∃ q, q = w6.heap.size := ⟨_, rfl⟩
      obtain ⟨W, hWe⟩ : ∃ W, W = w6.alloc (.cells #[.int .i64 0, .bool false, .bool i, .bool g, .bool false] 26) := ⟨_, rfl⟩
      have XW := Lib.hid (show Kb w W 12 op x y (.slice a n cap) L d i g _ by rw [hWe]; exact X6.out.keep (box_below _ _))
      have OW := Lib.hid (show B5 q 0 false i g false W by rw [hWe, hq]; exact B5.new _ _ _ _ _ _)
      have hlt := X6.out.r.lt
      have hne : w.heap.size + 1 + 1 ≠ q := by omega
      have hne2 : q ≠ w.heap.size + 1 + 1 := by omega
      have hne3 : w.heap.size ≠ q := by omega
      have hne4 : w.heap.size + 1 ≠ q := by omega
      have hqB : w.heap.size ≤ q := by omega
      have HQB := Lib.hid hqB
      rw [← hWe, ← hq]
      clear hWe hq hlt hqB
      clear c60 c61 c62 c63 c64 p60 p61 p62 p63 p64 r60 r61 r62 r63 r64 f6 c50 c51 c52 c53 c54 p50 p51 p52 p53 p54 r50 r51 r52 r53 r54 f5
      obtain ⟨c70, c71, c72, c73, c74, -, -⟩ := XW.out.n
      obtain ⟨r70, r71, r72, r73, r74⟩ := XW.out.r.c
      have f7 := XW.out.r.f
      obtain ⟨o70, o71, o72, o73, o74⟩ := OW.out.c
      have fo7 := OW.out.f
      go_wp2_with (go_at_call 203; refine (spec_sides op _).mono ?_; rw [HA.out]; rintro e w8 ⟨rfl, rfl⟩)
      have hqB := HQB.out
      obtain ⟨z0, z1, z2, z3, z4⟩ := (((XW.out.r.other hne 0 (.int .i64 (A1))).other hne 0 (.int .i64 (A2))).other hne 4 (.bool (op == 99))).cput (A2) (false) (i) (g) (op == 99)
      exact bodyPost_ret (v := .agg #[.int .i64 (A2), .bool (false), .bool (i), .bool (g), .bool (op == 99)]) (by simp [results, Tryz.results214, go_sem, z0, z1, z2, z3, z4]) rfl ⟨by rw [HR.out], below_set5 (((XW.out.n.b.setCell (p := ⟨q, 0, none⟩) hqB (.int .i64 (A1))).setCell (p := ⟨q, 0, none⟩) hqB (.int .i64 (A2))).setCell (p := ⟨q, 4, none⟩) hqB (.bool (op == 99))) (by omega) _ _ _ _ _⟩

set_option maxHeartbeats 3200000 in
theorem spec_k11 (op K L : Int) (x y : ByteArray) (a : Option Addr) (n cap : Nat) (d i g s : Bool) (w : World) (hn : n ≤ 1048576) (hP : posOk L d = true) (hK : 0 ≤ K ∧ K < (n : Int)) (h0 : ¬ levelOf 11 op = 0) : Calls Tryz.prog 214 #[.agg #[.int .i64 11, .int .i64 op, .string x, .string y, .slice a n cap], .int .i64 K, .agg #[.int .i64 L, .bool d, .bool i, .bool g, .bool s]] w fun e w' => e = .returned (.agg #[.int .i64 (kidS 11 op n K L d i g s).l, .bool (kidS 11 op n K L d i g s).d, .bool (kidS 11 op n K L d i g s).i, .bool (kidS 11 op n K L d i g s).g, .bool (kidS 11 op n K L d i g s).s]) ∧ Below w.heap.size w w' := by
  have HB := Lib.hid (fun s => Kb.start w 11 op x y (.slice a n cap) L d i g s)
  have HP := Lib.hid hP
  have HI := Lib.hid (in_of.2 hK)
  obtain ⟨V, hV⟩ : ∃ V, levelOf 11 op = V := ⟨_, rfl⟩
  have HV := Lib.hid hV
  have HH := Lib.hid (And.intro hP (And.intro hK.1 (And.intro hK.2 h0)))
  rw [hV] at h0
  have e3 : (V == 0) = false := by simp [h0]
  have hK0 := hK.1
  have hn1 : (n : Int) - 1 ≤ 9223372036854775807 := by omega
  have hn2 : (-9223372036854775808 : Int) ≤ (n : Int) - 1 := by omega
  obtain ⟨A, hA⟩ : ∃ A, sdS (opLevel op) = A := ⟨_, rfl⟩
  obtain ⟨A1, A2⟩ := A
  have HA := Lib.hid hA
  clear hP hV hK hA h0
  by_cases hz : K = 0
  · subst hz
    clear hK0
    cases s
    · have HR := Lib.hid (show kidS 11 op n 0 L d i g false = ⟨11, false, i, g, false⟩ by unfold kidS; rw [if_pos HH.out]; simp [])
      have HB := Lib.hid (HB.out false)
      clear HH
      go_enter Tryz.func214, Tryz.ntmps214
      go_upto_region 4 with (first | (go_at_call 26; refine (spec_ok L d i g _ _).mono ?_; rw [HP.out]; rintro e w5 ⟨rfl, b5⟩; have X5 := Lib.hid (HB.out.keep b5); obtain ⟨c50, c51, c52, c53, c54, -, -⟩ := X5.out.n; obtain ⟨p50, p51, p52, p53, p54, -⟩ := X5.out.p; obtain ⟨r50, r51, r52, r53, r54⟩ := X5.out.r.c; have f5 := X5.out.r.f; clear b5) | (go_at_call 86; refine (chars.spec_in _ _ _ _).mono ?_; rw [HI.out]; rintro e w' ⟨rfl, rfl⟩) | (go_at_call 211; refine (lv.spec_level 11 op x y a n cap _).mono ?_; rw [HV.out]; rintro e w6 ⟨rfl, b6⟩; have X6 := Lib.hid (X5.out.keep b6); obtain ⟨c60, c61, c62, c63, c64, -, -⟩ := X6.out.n; obtain ⟨p60, p61, p62, p63, p64, -⟩ := X6.out.p; obtain ⟨r60, r61, r62, r63, r64⟩ := X6.out.r.c; have f6 := X6.out.r.f; clear b6))
      obtain ⟨q, hq⟩ : ∃ q, q = w6.heap.size := ⟨_, rfl⟩
      obtain ⟨W, hWe⟩ : ∃ W, W = w6.alloc (.cells #[.int .i64 0, .bool false, .bool i, .bool g, .bool false] 26) := ⟨_, rfl⟩
      have XW := Lib.hid (show Kb w W 11 op x y (.slice a n cap) L d i g _ by rw [hWe]; exact X6.out.keep (box_below _ _))
      have OW := Lib.hid (show B5 q 0 false i g false W by rw [hWe, hq]; exact B5.new _ _ _ _ _ _)
      have hlt := X6.out.r.lt
      have hne : w.heap.size + 1 + 1 ≠ q := by omega
      have hne2 : q ≠ w.heap.size + 1 + 1 := by omega
      have hne3 : w.heap.size ≠ q := by omega
      have hne4 : w.heap.size + 1 ≠ q := by omega
      have hqB : w.heap.size ≤ q := by omega
      have HQB := Lib.hid hqB
      rw [← hWe, ← hq]
      clear hWe hq hlt hqB
      clear c60 c61 c62 c63 c64 p60 p61 p62 p63 p64 r60 r61 r62 r63 r64 f6 c50 c51 c52 c53 c54 p50 p51 p52 p53 p54 r50 r51 r52 r53 r54 f5
      obtain ⟨c70, c71, c72, c73, c74, -, -⟩ := XW.out.n
      obtain ⟨r70, r71, r72, r73, r74⟩ := XW.out.r.c
      have f7 := XW.out.r.f
      obtain ⟨o70, o71, o72, o73, o74⟩ := OW.out.c
      have fo7 := OW.out.f
      go_wp2_with (go_at_call 203; refine (spec_sides op _).mono ?_; rw [HA.out]; rintro e w8 ⟨rfl, rfl⟩)
      have hqB := HQB.out
      obtain ⟨z0, z1, z2, z3, z4⟩ := ((XW.out.r.other hne 0 (.int .i64 (11))).other hne 4 (.bool false)).cput (11) (false) (i) (g) (false)
      exact bodyPost_ret (v := .agg #[.int .i64 (11), .bool (false), .bool (i), .bool (g), .bool (false)]) (by simp [results, Tryz.results214, go_sem, z0, z1, z2, z3, z4]) rfl ⟨by rw [HR.out], below_set5 ((XW.out.n.b.setCell (p := ⟨q, 0, none⟩) hqB (.int .i64 (11))).setCell (p := ⟨q, 4, none⟩) hqB (.bool false)) (by omega) _ _ _ _ _⟩
    · have HR := Lib.hid (show kidS 11 op n 0 L d i g true = ⟨11, false, i, g, false⟩ by unfold kidS; rw [if_pos HH.out]; simp [])
      have HB := Lib.hid (HB.out true)
      clear HH
      go_enter Tryz.func214, Tryz.ntmps214
      go_upto_region 4 with (first | (go_at_call 26; refine (spec_ok L d i g _ _).mono ?_; rw [HP.out]; rintro e w5 ⟨rfl, b5⟩; have X5 := Lib.hid (HB.out.keep b5); obtain ⟨c50, c51, c52, c53, c54, -, -⟩ := X5.out.n; obtain ⟨p50, p51, p52, p53, p54, -⟩ := X5.out.p; obtain ⟨r50, r51, r52, r53, r54⟩ := X5.out.r.c; have f5 := X5.out.r.f; clear b5) | (go_at_call 86; refine (chars.spec_in _ _ _ _).mono ?_; rw [HI.out]; rintro e w' ⟨rfl, rfl⟩) | (go_at_call 211; refine (lv.spec_level 11 op x y a n cap _).mono ?_; rw [HV.out]; rintro e w6 ⟨rfl, b6⟩; have X6 := Lib.hid (X5.out.keep b6); obtain ⟨c60, c61, c62, c63, c64, -, -⟩ := X6.out.n; obtain ⟨p60, p61, p62, p63, p64, -⟩ := X6.out.p; obtain ⟨r60, r61, r62, r63, r64⟩ := X6.out.r.c; have f6 := X6.out.r.f; clear b6))
      obtain ⟨q, hq⟩ : ∃ q, q = w6.heap.size := ⟨_, rfl⟩
      obtain ⟨W, hWe⟩ : ∃ W, W = w6.alloc (.cells #[.int .i64 0, .bool false, .bool i, .bool g, .bool true] 26) := ⟨_, rfl⟩
      have XW := Lib.hid (show Kb w W 11 op x y (.slice a n cap) L d i g _ by rw [hWe]; exact X6.out.keep (box_below _ _))
      have OW := Lib.hid (show B5 q 0 false i g true W by rw [hWe, hq]; exact B5.new _ _ _ _ _ _)
      have hlt := X6.out.r.lt
      have hne : w.heap.size + 1 + 1 ≠ q := by omega
      have hne2 : q ≠ w.heap.size + 1 + 1 := by omega
      have hne3 : w.heap.size ≠ q := by omega
      have hne4 : w.heap.size + 1 ≠ q := by omega
      have hqB : w.heap.size ≤ q := by omega
      have HQB := Lib.hid hqB
      rw [← hWe, ← hq]
      clear hWe hq hlt hqB
      clear c60 c61 c62 c63 c64 p60 p61 p62 p63 p64 r60 r61 r62 r63 r64 f6 c50 c51 c52 c53 c54 p50 p51 p52 p53 p54 r50 r51 r52 r53 r54 f5
      obtain ⟨c70, c71, c72, c73, c74, -, -⟩ := XW.out.n
      obtain ⟨r70, r71, r72, r73, r74⟩ := XW.out.r.c
      have f7 := XW.out.r.f
      obtain ⟨o70, o71, o72, o73, o74⟩ := OW.out.c
      have fo7 := OW.out.f
      go_wp2_with (go_at_call 203; refine (spec_sides op _).mono ?_; rw [HA.out]; rintro e w8 ⟨rfl, rfl⟩)
      have hqB := HQB.out
      obtain ⟨z0, z1, z2, z3, z4⟩ := ((XW.out.r.other hne 0 (.int .i64 (11))).other hne 4 (.bool false)).cput (11) (false) (i) (g) (false)
      exact bodyPost_ret (v := .agg #[.int .i64 (11), .bool (false), .bool (i), .bool (g), .bool (false)]) (by simp [results, Tryz.results214, go_sem, z0, z1, z2, z3, z4]) rfl ⟨by rw [HR.out], below_set5 ((XW.out.n.b.setCell (p := ⟨q, 0, none⟩) hqB (.int .i64 (11))).setCell (p := ⟨q, 4, none⟩) hqB (.bool false)) (by omega) _ _ _ _ _⟩
  · have hpos : 0 < K := by omega
    have e4 : (K == 0) = false := by simp [hz]
    cases s
    · have HR := Lib.hid (show kidS 11 op n K L d i g false = ⟨11, false, i, g, false⟩ by unfold kidS; rw [if_pos HH.out]; simp [])
      have HB := Lib.hid (HB.out false)
      clear HH hz
      go_enter Tryz.func214, Tryz.ntmps214
      go_upto_region 4 with (first | (go_at_call 26; refine (spec_ok L d i g _ _).mono ?_; rw [HP.out]; rintro e w5 ⟨rfl, b5⟩; have X5 := Lib.hid (HB.out.keep b5); obtain ⟨c50, c51, c52, c53, c54, -, -⟩ := X5.out.n; obtain ⟨p50, p51, p52, p53, p54, -⟩ := X5.out.p; obtain ⟨r50, r51, r52, r53, r54⟩ := X5.out.r.c; have f5 := X5.out.r.f; clear b5) | (go_at_call 86; refine (chars.spec_in _ _ _ _).mono ?_; rw [HI.out]; rintro e w' ⟨rfl, rfl⟩) | (go_at_call 211; refine (lv.spec_level 11 op x y a n cap _).mono ?_; rw [HV.out]; rintro e w6 ⟨rfl, b6⟩; have X6 := Lib.hid (X5.out.keep b6); obtain ⟨c60, c61, c62, c63, c64, -, -⟩ := X6.out.n; obtain ⟨p60, p61, p62, p63, p64, -⟩ := X6.out.p; obtain ⟨r60, r61, r62, r63, r64⟩ := X6.out.r.c; have f6 := X6.out.r.f; clear b6))
      obtain ⟨q, hq⟩ : ∃ q, q = w6.heap.size := ⟨_, rfl⟩
      obtain ⟨W, hWe⟩ : ∃ W, W = w6.alloc (.cells #[.int .i64 0, .bool false, .bool i, .bool g, .bool false] 26) := ⟨_, rfl⟩
      have XW := Lib.hid (show Kb w W 11 op x y (.slice a n cap) L d i g _ by rw [hWe]; exact X6.out.keep (box_below _ _))
      have OW := Lib.hid (show B5 q 0 false i g false W by rw [hWe, hq]; exact B5.new _ _ _ _ _ _)
      have hlt := X6.out.r.lt
      have hne : w.heap.size + 1 + 1 ≠ q := by omega
      have hne2 : q ≠ w.heap.size + 1 + 1 := by omega
      have hne3 : w.heap.size ≠ q := by omega
      have hne4 : w.heap.size + 1 ≠ q := by omega
      have hqB : w.heap.size ≤ q := by omega
      have HQB := Lib.hid hqB
      rw [← hWe, ← hq]
      clear hWe hq hlt hqB
      clear c60 c61 c62 c63 c64 p60 p61 p62 p63 p64 r60 r61 r62 r63 r64 f6 c50 c51 c52 c53 c54 p50 p51 p52 p53 p54 r50 r51 r52 r53 r54 f5
      obtain ⟨c70, c71, c72, c73, c74, -, -⟩ := XW.out.n
      obtain ⟨r70, r71, r72, r73, r74⟩ := XW.out.r.c
      have f7 := XW.out.r.f
      obtain ⟨o70, o71, o72, o73, o74⟩ := OW.out.c
      have fo7 := OW.out.f
      go_wp2_with (go_at_call 203; refine (spec_sides op _).mono ?_; rw [HA.out]; rintro e w8 ⟨rfl, rfl⟩)
      have hqB := HQB.out
      obtain ⟨z0, z1, z2, z3, z4⟩ := ((XW.out.r.other hne 0 (.int .i64 (11))).other hne 4 (.bool false)).cput (11) (false) (i) (g) (false)
      exact bodyPost_ret (v := .agg #[.int .i64 (11), .bool (false), .bool (i), .bool (g), .bool (false)]) (by simp [results, Tryz.results214, go_sem, z0, z1, z2, z3, z4]) rfl ⟨by rw [HR.out], below_set5 ((XW.out.n.b.setCell (p := ⟨q, 0, none⟩) hqB (.int .i64 (11))).setCell (p := ⟨q, 4, none⟩) hqB (.bool false)) (by omega) _ _ _ _ _⟩
    · have HR := Lib.hid (show kidS 11 op n K L d i g true = ⟨11, false, i, g, false⟩ by unfold kidS; rw [if_pos HH.out]; simp [])
      have HB := Lib.hid (HB.out true)
      clear HH hz
      go_enter Tryz.func214, Tryz.ntmps214
      go_upto_region 4 with (first | (go_at_call 26; refine (spec_ok L d i g _ _).mono ?_; rw [HP.out]; rintro e w5 ⟨rfl, b5⟩; have X5 := Lib.hid (HB.out.keep b5); obtain ⟨c50, c51, c52, c53, c54, -, -⟩ := X5.out.n; obtain ⟨p50, p51, p52, p53, p54, -⟩ := X5.out.p; obtain ⟨r50, r51, r52, r53, r54⟩ := X5.out.r.c; have f5 := X5.out.r.f; clear b5) | (go_at_call 86; refine (chars.spec_in _ _ _ _).mono ?_; rw [HI.out]; rintro e w' ⟨rfl, rfl⟩) | (go_at_call 211; refine (lv.spec_level 11 op x y a n cap _).mono ?_; rw [HV.out]; rintro e w6 ⟨rfl, b6⟩; have X6 := Lib.hid (X5.out.keep b6); obtain ⟨c60, c61, c62, c63, c64, -, -⟩ := X6.out.n; obtain ⟨p60, p61, p62, p63, p64, -⟩ := X6.out.p; obtain ⟨r60, r61, r62, r63, r64⟩ := X6.out.r.c; have f6 := X6.out.r.f; clear b6))
      obtain ⟨q, hq⟩ : ∃ q, q = w6.heap.size := ⟨_, rfl⟩
      obtain ⟨W, hWe⟩ : ∃ W, W = w6.alloc (.cells #[.int .i64 0, .bool false, .bool i, .bool g, .bool false] 26) := ⟨_, rfl⟩
      have XW := Lib.hid (show Kb w W 11 op x y (.slice a n cap) L d i g _ by rw [hWe]; exact X6.out.keep (box_below _ _))
      have OW := Lib.hid (show B5 q 0 false i g false W by rw [hWe, hq]; exact B5.new _ _ _ _ _ _)
      have hlt := X6.out.r.lt
      have hne : w.heap.size + 1 + 1 ≠ q := by omega
      have hne2 : q ≠ w.heap.size + 1 + 1 := by omega
      have hne3 : w.heap.size ≠ q := by omega
      have hne4 : w.heap.size + 1 ≠ q := by omega
      have hqB : w.heap.size ≤ q := by omega
      have HQB := Lib.hid hqB
      rw [← hWe, ← hq]
      clear hWe hq hlt hqB
      clear c60 c61 c62 c63 c64 p60 p61 p62 p63 p64 r60 r61 r62 r63 r64 f6 c50 c51 c52 c53 c54 p50 p51 p52 p53 p54 r50 r51 r52 r53 r54 f5
      obtain ⟨c70, c71, c72, c73, c74, -, -⟩ := XW.out.n
      obtain ⟨r70, r71, r72, r73, r74⟩ := XW.out.r.c
      have f7 := XW.out.r.f
      obtain ⟨o70, o71, o72, o73, o74⟩ := OW.out.c
      have fo7 := OW.out.f
      go_wp2_with (go_at_call 203; refine (spec_sides op _).mono ?_; rw [HA.out]; rintro e w8 ⟨rfl, rfl⟩)
      have hqB := HQB.out
      obtain ⟨z0, z1, z2, z3, z4⟩ := ((XW.out.r.other hne 0 (.int .i64 (11))).other hne 4 (.bool false)).cput (11) (false) (i) (g) (false)
      exact bodyPost_ret (v := .agg #[.int .i64 (11), .bool (false), .bool (i), .bool (g), .bool (false)]) (by simp [results, Tryz.results214, go_sem, z0, z1, z2, z3, z4]) rfl ⟨by rw [HR.out], below_set5 ((XW.out.n.b.setCell (p := ⟨q, 0, none⟩) hqB (.int .i64 (11))).setCell (p := ⟨q, 4, none⟩) hqB (.bool false)) (by omega) _ _ _ _ _⟩
end Go.Proofs.YtiilpnoaocfjgaaGreatDoor.ps
