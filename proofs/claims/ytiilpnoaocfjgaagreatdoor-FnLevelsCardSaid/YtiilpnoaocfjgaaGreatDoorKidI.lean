/-
  The positions of kids: impl.KidPos: its contract.
-/
import Derived.Test.YtiilpnoaocfjgaaGreatDoorKidParts
import Derived.Deep.RegionHeld3
namespace Go.Proofs.YtiilpnoaocfjgaaGreatDoor.ps
open Go.ChangeShapes Go.WideShapes Go.ChangeAt Go.RowKit
open chars (inR)
open lv (levelOf opLevel box_below Bx)
set_option linter.unusedVariables false
set_option maxRecDepth 20000

def top : Ps := ⟨1, false, false, false, false⟩
def zero : Ps := ⟨0, false, false, false, false⟩
def kidI (k op : Int) (n : Nat) (K L : Int) (d i g s : Bool) : Ps :=
  if posOk L d = true ∧ 0 ≤ K ∧ K < (n : Int) ∧ ¬ levelOf k op = 0 then
    (if brk k op n = true then top else ⟨if K = 0 then (lvls k op).1 else (lvls k op).2, k == 6, i, g, nsI k op K s⟩)
  else zero

/-- The three boxes of impl.KidPos and spec.KidPos. -/
structure Kb (w W : World) (k op : Int) (x y : ByteArray) (v : Value) (L : Int) (d i g s : Bool) : Prop where
  n : Bx w W k op x y v
  p : Px (w.heap.size + 1) W L d i g s
  r : B5 (w.heap.size + 1 + 1) 0 false false false false W
theorem Kb.start (w : World) (k op : Int) (x y : ByteArray) (v : Value) (L : Int) (d i g s : Bool) : Kb w (((w.alloc (.cells #[.int .i64 k, .int .i64 op, .string x, .string y, v] 60)).alloc (.cells #[.int .i64 L, .bool d, .bool i, .bool g, .bool s] 26)).alloc (.cells #[.int .i64 0, .bool false, .bool false, .bool false, .bool false] 26)) k op x y v L d i g s := by
  have h := Nb.start w k op x y v L d i g s
  refine ⟨h.n.keep (box_below _ _), h.p.keep (box_below _ _), ?_⟩
  have h := B5.new ((w.alloc (.cells #[.int .i64 k, .int .i64 op, .string x, .string y, v] 60)).alloc (.cells #[.int .i64 L, .bool d, .bool i, .bool g, .bool s] 26)) 0 false false false false
  have e : ((w.alloc (.cells #[.int .i64 k, .int .i64 op, .string x, .string y, v] 60)).alloc (.cells #[.int .i64 L, .bool d, .bool i, .bool g, .bool s] 26)).heap.size = w.heap.size + 1 + 1 := by simp
  rw [e] at h
  exact h
theorem Kb.keep {w W w1 : World} {k op : Int} {x y : ByteArray} {v : Value} {L : Int} {d i g s : Bool} (h : Kb w W k op x y v L d i g s) (hb : Below W.heap.size W w1) : Kb w w1 k op x y v L d i g s :=
  ⟨h.n.keep hb, h.p.keep hb, h.r.keep hb h.r.lt⟩
theorem Kb.drew {w W : World} {k op : Int} {x y : ByteArray} {v : Value} {L : Int} {d i g s : Bool} (h : Kb w W k op x y v L d i g s) : Kb w W.drew k op x y v L d i g s := ⟨bx_drew h.n, h.p.drew, h.r.drew⟩
theorem kb_cells {w W : World} {k op : Int} {x y : ByteArray} {v : Value} {L : Int} {d i g s : Bool} (h : Kb w W k op x y v L d i g s) : W.cell? ⟨w.heap.size, 0, none⟩ = some (.int .i64 k) ∧ W.cell? ⟨w.heap.size, 1, none⟩ = some (.int .i64 op) ∧ W.cell? ⟨w.heap.size, 2, none⟩ = some (.string x) ∧ W.cell? ⟨w.heap.size, 3, none⟩ = some (.string y) ∧ W.cell? ⟨w.heap.size, 4, none⟩ = some (v) ∧ W.cell? ⟨w.heap.size + 1, 0, none⟩ = some (.int .i64 L) ∧ W.cell? ⟨w.heap.size + 1, 1, none⟩ = some (.bool d) ∧ W.cell? ⟨w.heap.size + 1, 2, none⟩ = some (.bool i) ∧ W.cell? ⟨w.heap.size + 1, 3, none⟩ = some (.bool g) ∧ W.cell? ⟨w.heap.size + 1, 4, none⟩ = some (.bool s) :=
  ⟨h.n.c0, h.n.c1, h.n.c2, h.n.c3, h.n.c4, h.p.c0, h.p.c1, h.p.c2, h.p.c3, h.p.c4⟩

theorem kb_store {w W : World} {k op : Int} {x y : ByteArray} {v : Value} {L : Int} {d i g s : Bool} (h : Kb w W k op x y v L d i g s) (L' : Int) (d' i' g' s' : Bool) : (((((W.setCell ⟨w.heap.size + 1 + 1, 0, none⟩ (.int .i64 L')).setCell ⟨w.heap.size + 1 + 1, 1, none⟩ (.bool d')).setCell ⟨w.heap.size + 1 + 1, 2, none⟩ (.bool i')).setCell ⟨w.heap.size + 1 + 1, 3, none⟩ (.bool g')).setCell ⟨w.heap.size + 1 + 1, 4, none⟩ (.bool s')).cell? ⟨w.heap.size, 0, none⟩ = some (.int .i64 k) ∧ (((((W.setCell ⟨w.heap.size + 1 + 1, 0, none⟩ (.int .i64 L')).setCell ⟨w.heap.size + 1 + 1, 1, none⟩ (.bool d')).setCell ⟨w.heap.size + 1 + 1, 2, none⟩ (.bool i')).setCell ⟨w.heap.size + 1 + 1, 3, none⟩ (.bool g')).setCell ⟨w.heap.size + 1 + 1, 4, none⟩ (.bool s')).cell? ⟨w.heap.size, 1, none⟩ = some (.int .i64 op) ∧ (((((W.setCell ⟨w.heap.size + 1 + 1, 0, none⟩ (.int .i64 L')).setCell ⟨w.heap.size + 1 + 1, 1, none⟩ (.bool d')).setCell ⟨w.heap.size + 1 + 1, 2, none⟩ (.bool i')).setCell ⟨w.heap.size + 1 + 1, 3, none⟩ (.bool g')).setCell ⟨w.heap.size + 1 + 1, 4, none⟩ (.bool s')).cell? ⟨w.heap.size, 2, none⟩ = some (.string x) ∧ (((((W.setCell ⟨w.heap.size + 1 + 1, 0, none⟩ (.int .i64 L')).setCell ⟨w.heap.size + 1 + 1, 1, none⟩ (.bool d')).setCell ⟨w.heap.size + 1 + 1, 2, none⟩ (.bool i')).setCell ⟨w.heap.size + 1 + 1, 3, none⟩ (.bool g')).setCell ⟨w.heap.size + 1 + 1, 4, none⟩ (.bool s')).cell? ⟨w.heap.size, 3, none⟩ = some (.string y) ∧ (((((W.setCell ⟨w.heap.size + 1 + 1, 0, none⟩ (.int .i64 L')).setCell ⟨w.heap.size + 1 + 1, 1, none⟩ (.bool d')).setCell ⟨w.heap.size + 1 + 1, 2, none⟩ (.bool i')).setCell ⟨w.heap.size + 1 + 1, 3, none⟩ (.bool g')).setCell ⟨w.heap.size + 1 + 1, 4, none⟩ (.bool s')).cell? ⟨w.heap.size, 4, none⟩ = some (v) ∧ (((((W.setCell ⟨w.heap.size + 1 + 1, 0, none⟩ (.int .i64 L')).setCell ⟨w.heap.size + 1 + 1, 1, none⟩ (.bool d')).setCell ⟨w.heap.size + 1 + 1, 2, none⟩ (.bool i')).setCell ⟨w.heap.size + 1 + 1, 3, none⟩ (.bool g')).setCell ⟨w.heap.size + 1 + 1, 4, none⟩ (.bool s')).cell? ⟨w.heap.size + 1, 0, none⟩ = some (.int .i64 L) ∧ (((((W.setCell ⟨w.heap.size + 1 + 1, 0, none⟩ (.int .i64 L')).setCell ⟨w.heap.size + 1 + 1, 1, none⟩ (.bool d')).setCell ⟨w.heap.size + 1 + 1, 2, none⟩ (.bool i')).setCell ⟨w.heap.size + 1 + 1, 3, none⟩ (.bool g')).setCell ⟨w.heap.size + 1 + 1, 4, none⟩ (.bool s')).cell? ⟨w.heap.size + 1, 1, none⟩ = some (.bool d) ∧ (((((W.setCell ⟨w.heap.size + 1 + 1, 0, none⟩ (.int .i64 L')).setCell ⟨w.heap.size + 1 + 1, 1, none⟩ (.bool d')).setCell ⟨w.heap.size + 1 + 1, 2, none⟩ (.bool i')).setCell ⟨w.heap.size + 1 + 1, 3, none⟩ (.bool g')).setCell ⟨w.heap.size + 1 + 1, 4, none⟩ (.bool s')).cell? ⟨w.heap.size + 1, 2, none⟩ = some (.bool i) ∧ (((((W.setCell ⟨w.heap.size + 1 + 1, 0, none⟩ (.int .i64 L')).setCell ⟨w.heap.size + 1 + 1, 1, none⟩ (.bool d')).setCell ⟨w.heap.size + 1 + 1, 2, none⟩ (.bool i')).setCell ⟨w.heap.size + 1 + 1, 3, none⟩ (.bool g')).setCell ⟨w.heap.size + 1 + 1, 4, none⟩ (.bool s')).cell? ⟨w.heap.size + 1, 3, none⟩ = some (.bool g) ∧ (((((W.setCell ⟨w.heap.size + 1 + 1, 0, none⟩ (.int .i64 L')).setCell ⟨w.heap.size + 1 + 1, 1, none⟩ (.bool d')).setCell ⟨w.heap.size + 1 + 1, 2, none⟩ (.bool i')).setCell ⟨w.heap.size + 1 + 1, 3, none⟩ (.bool g')).setCell ⟨w.heap.size + 1 + 1, 4, none⟩ (.bool s')).cell? ⟨w.heap.size + 1, 4, none⟩ = some (.bool s) := by
  have hb : Below (w.heap.size + 1 + 1) W (set5 W (w.heap.size + 1 + 1) L' d' i' g' s') := below_set5 (Below.refl _ _) (Nat.le_refl _) _ _ _ _ _
  have h0 : w.heap.size < w.heap.size + 1 + 1 := by omega
  have h1 : w.heap.size + 1 < w.heap.size + 1 + 1 := by omega
  exact ⟨(hb.cell (p := ⟨w.heap.size, 0, none⟩) h0).trans h.n.c0, (hb.cell (p := ⟨w.heap.size, 1, none⟩) h0).trans h.n.c1, (hb.cell (p := ⟨w.heap.size, 2, none⟩) h0).trans h.n.c2, (hb.cell (p := ⟨w.heap.size, 3, none⟩) h0).trans h.n.c3, (hb.cell (p := ⟨w.heap.size, 4, none⟩) h0).trans h.n.c4,
    (hb.cell (p := ⟨w.heap.size + 1, 0, none⟩) h1).trans h.p.c0, (hb.cell (p := ⟨w.heap.size + 1, 1, none⟩) h1).trans h.p.c1, (hb.cell (p := ⟨w.heap.size + 1, 2, none⟩) h1).trans h.p.c2, (hb.cell (p := ⟨w.heap.size + 1, 3, none⟩) h1).trans h.p.c3, (hb.cell (p := ⟨w.heap.size + 1, 4, none⟩) h1).trans h.p.c4⟩

set_option maxHeartbeats 3200000 in
theorem impl_kidPos (k op : Int) (x y : ByteArray) (a : Option Addr) (n cap : Nat) (K L : Int) (d i g s : Bool) (w : World) (hn : n ≤ 1048576) : Calls Tryz.prog 190 #[.agg #[.int .i64 k, .int .i64 op, .string x, .string y, .slice a n cap], .int .i64 K, .agg #[.int .i64 L, .bool d, .bool i, .bool g, .bool s]] w fun e w' => e = .returned (.agg #[.int .i64 (kidI k op n K L d i g s).l, .bool (kidI k op n K L d i g s).d, .bool (kidI k op n K L d i g s).i, .bool (kidI k op n K L d i g s).g, .bool (kidI k op n K L d i g s).s]) ∧ Below w.heap.size w w' := by
  have HB := Lib.hid (Kb.start w k op x y (.slice a n cap) L d i g s)
  obtain ⟨P, hP⟩ : ∃ P, posOk L d = P := ⟨_, rfl⟩
  have HP := Lib.hid hP
  obtain ⟨V, hV⟩ : ∃ V, levelOf k op = V := ⟨_, rfl⟩
  have HV := Lib.hid hV
  obtain ⟨B, hB⟩ : ∃ B, brk k op n = B := ⟨_, rfl⟩
  have HK := Lib.hid hB
  obtain ⟨q, hq⟩ : ∃ q, kidI k op n K L d i g s = q := ⟨_, rfl⟩
  have HQ := Lib.hid hq
  rw [hq]
  unfold kidI at hq
  rw [hP, hV, hB] at hq
  clear hP hV hB
  cases P
  · rw [if_neg (by simp)] at hq
    subst hq
    clear HQ
    go_enter Tryz.func190, Tryz.ntmps190
    go_wp2_with (first | (go_at_call 60; refine (impl_ok L d i g s _).mono ?_; rw [HP.out]; rintro e w5 ⟨rfl, b5⟩; have X5 := Lib.hid (HB.out.keep b5); obtain ⟨c50, c51, c52, c53, c54, -, -⟩ := X5.out.n; obtain ⟨p50, p51, p52, p53, p54, -⟩ := X5.out.p; obtain ⟨r50, r51, r52, r53, r54⟩ := X5.out.r.c; have f5 := X5.out.r.f; clear b5) | (go_at_call 156; refine (lv.impl_level k op x y a n cap _).mono ?_; rw [HV.out]; rintro e w6 ⟨rfl, b6⟩; have X6 := Lib.hid (X5.out.keep b6); obtain ⟨c60, c61, c62, c63, c64, -, -⟩ := X6.out.n; obtain ⟨p60, p61, p62, p63, p64, -⟩ := X6.out.p; obtain ⟨r60, r61, r62, r63, r64⟩ := X6.out.r.c; have f6 := X6.out.r.f; clear b6) | (go_at_call 271; refine (impl_brk k op x y a n cap _ hn).mono ?_; rw [HK.out]; rintro e w7 ⟨rfl, b7⟩; have X7 := Lib.hid (X6.out.keep b7); obtain ⟨c70, c71, c72, c73, c74, -, -⟩ := X7.out.n; obtain ⟨p70, p71, p72, p73, p74, -⟩ := X7.out.p; obtain ⟨r70, r71, r72, r73, r74⟩ := X7.out.r.c; have f7 := X7.out.r.f; clear b7) | (go_at_call 29; refine (impl_top _).mono ?_; rintro e w8 ⟨rfl, b8⟩; have X8 := Lib.hid (X7.out.keep b8); obtain ⟨c80, c81, c82, c83, c84, -, -⟩ := X8.out.n; obtain ⟨p80, p81, p82, p83, p84, -⟩ := X8.out.p; obtain ⟨r80, r81, r82, r83, r84⟩ := X8.out.r.c; have f8 := X8.out.r.f; clear b8))
    obtain ⟨z0, z1, z2, z3, z4⟩ := X5.out.r.cput (0) (false) (false) (false) (false)
    exact bodyPost_ret (v := .agg #[.int .i64 (0), .bool (false), .bool (false), .bool (false), .bool (false)]) (by simp [results, Tryz.results190, go_sem, z0, z1, z2, z3, z4]) rfl ⟨rfl, below_set5 X5.out.n.b (by omega) _ _ _ _ _⟩
  by_cases h1 : 0 ≤ K ∧ K < (n : Int) ∧ ¬ V = 0
  · obtain ⟨g1, g2, g3⟩ := h1
    rw [if_pos ⟨rfl, g1, g2, g3⟩] at hq
    have k1 : ¬ K < 0 := by omega
    have k2 : ¬ (n : Int) ≤ K := by omega
    have e1 : decide (K < 0) = false := decide_eq_false k1
    have e2 : decide ((n : Int) ≤ K) = false := decide_eq_false k2
    have e3 : (V == 0) = false := by simp [g3]
    clear k1 k2 g1 g2
    cases B
    · obtain ⟨LV, hLV⟩ : ∃ LV, (if K = 0 then (lvls k op).1 else (lvls k op).2) = LV := ⟨_, rfl⟩
      obtain ⟨NS, hNS⟩ : ∃ NS, nsI k op K s = NS := ⟨_, rfl⟩
      have HL := Lib.hid hLV
      have HN := Lib.hid hNS
      rw [if_neg (by simp), hLV, hNS] at hq
      subst hq
      clear HQ hLV hNS
      go_enter Tryz.func190, Tryz.ntmps190
      go_wp2_with (first | (go_at_call 60; refine (impl_ok L d i g s _).mono ?_; rw [HP.out]; rintro e w5 ⟨rfl, b5⟩; have X5 := Lib.hid (HB.out.keep b5); obtain ⟨c50, c51, c52, c53, c54, -, -⟩ := X5.out.n; obtain ⟨p50, p51, p52, p53, p54, -⟩ := X5.out.p; obtain ⟨r50, r51, r52, r53, r54⟩ := X5.out.r.c; have f5 := X5.out.r.f; clear b5) | (go_at_call 156; refine (lv.impl_level k op x y a n cap _).mono ?_; rw [HV.out]; rintro e w6 ⟨rfl, b6⟩; have X6 := Lib.hid (X5.out.keep b6); obtain ⟨c60, c61, c62, c63, c64, -, -⟩ := X6.out.n; obtain ⟨p60, p61, p62, p63, p64, -⟩ := X6.out.p; obtain ⟨r60, r61, r62, r63, r64⟩ := X6.out.r.c; have f6 := X6.out.r.f; clear b6) | (go_at_call 271; refine (impl_brk k op x y a n cap _ hn).mono ?_; rw [HK.out]; rintro e w7 ⟨rfl, b7⟩; have X7 := Lib.hid (X6.out.keep b7); obtain ⟨c70, c71, c72, c73, c74, -, -⟩ := X7.out.n; obtain ⟨p70, p71, p72, p73, p74, -⟩ := X7.out.p; obtain ⟨r70, r71, r72, r73, r74⟩ := X7.out.r.c; have f7 := X7.out.r.f; clear b7) | (go_at_call 29; refine (impl_top _).mono ?_; rintro e w8 ⟨rfl, b8⟩; have X8 := Lib.hid (X7.out.keep b8); obtain ⟨c80, c81, c82, c83, c84, -, -⟩ := X8.out.n; obtain ⟨p80, p81, p82, p83, p84, -⟩ := X8.out.p; obtain ⟨r80, r81, r82, r83, r84⟩ := X8.out.r.c; have f8 := X8.out.r.f; clear b8))
      go_region_held3 (fun w' => w'.cell? ⟨w.heap.size, 0, none⟩ = some (.int .i64 k) ∧ w'.cell? ⟨w.heap.size, 1, none⟩ = some (.int .i64 op) ∧ w'.cell? ⟨w.heap.size, 2, none⟩ = some (.string x) ∧ w'.cell? ⟨w.heap.size, 3, none⟩ = some (.string y) ∧ w'.cell? ⟨w.heap.size, 4, none⟩ = some (.slice a n cap) ∧ w'.cell? ⟨w.heap.size + 1, 0, none⟩ = some (.int .i64 L) ∧ w'.cell? ⟨w.heap.size + 1, 1, none⟩ = some (.bool d) ∧ w'.cell? ⟨w.heap.size + 1, 2, none⟩ = some (.bool i) ∧ w'.cell? ⟨w.heap.size + 1, 3, none⟩ = some (.bool g) ∧ w'.cell? ⟨w.heap.size + 1, 4, none⟩ = some (.bool s))
        (first | assumption | with_reducible exact kb_cells X7.out.drew | with_reducible exact kb_cells X7.out | with_reducible exact kb_cells X11.out | with_reducible exact kb_cells X12.out | with_reducible exact kb_store X12.out _ _ _ _ _)
        (first
          | (go_at_call 272; refine (impl_kidLevel k op K x y a n cap _).mono ?_; rw [HL.out]; rintro e w11 ⟨rfl, b11⟩; have X11 := Lib.hid (X7.out.drew.keep b11); obtain ⟨c110, c111, c112, c113, c114, -, -⟩ := X11.out.n; obtain ⟨p110, p111, p112, p113, p114, -⟩ := X11.out.p; obtain ⟨r110, r111, r112, r113, r114⟩ := X11.out.r.c; have f11 := X11.out.r.f; clear b11)
          | (go_at_call 273; refine (impl_ns k op K L x y a n cap d i g s _).mono ?_; rw [HN.out]; rintro e w12 ⟨rfl, b12⟩; have X12 := Lib.hid (X11.out.keep b12); obtain ⟨c120, c121, c122, c123, c124, -, -⟩ := X12.out.n; obtain ⟨p120, p121, p122, p123, p124, -⟩ := X12.out.p; obtain ⟨r120, r121, r122, r123, r124⟩ := X12.out.r.c; have f12 := X12.out.r.f; clear b12))
      go_wp2
      obtain ⟨z0, z1, z2, z3, z4⟩ := X12.out.r.cput (LV) (k == 6) (i) (g) (NS)
      exact bodyPost_ret (v := .agg #[.int .i64 (LV), .bool (k == 6), .bool (i), .bool (g), .bool (NS)]) (by simp [results, Tryz.results190, go_sem, z0, z1, z2, z3, z4]) rfl ⟨rfl, below_set5 X12.out.n.b (by omega) _ _ _ _ _⟩
    · rw [if_pos rfl] at hq
      subst hq
      clear HQ
      go_enter Tryz.func190, Tryz.ntmps190
      go_wp2_with (first | (go_at_call 60; refine (impl_ok L d i g s _).mono ?_; rw [HP.out]; rintro e w5 ⟨rfl, b5⟩; have X5 := Lib.hid (HB.out.keep b5); obtain ⟨c50, c51, c52, c53, c54, -, -⟩ := X5.out.n; obtain ⟨p50, p51, p52, p53, p54, -⟩ := X5.out.p; obtain ⟨r50, r51, r52, r53, r54⟩ := X5.out.r.c; have f5 := X5.out.r.f; clear b5) | (go_at_call 156; refine (lv.impl_level k op x y a n cap _).mono ?_; rw [HV.out]; rintro e w6 ⟨rfl, b6⟩; have X6 := Lib.hid (X5.out.keep b6); obtain ⟨c60, c61, c62, c63, c64, -, -⟩ := X6.out.n; obtain ⟨p60, p61, p62, p63, p64, -⟩ := X6.out.p; obtain ⟨r60, r61, r62, r63, r64⟩ := X6.out.r.c; have f6 := X6.out.r.f; clear b6) | (go_at_call 271; refine (impl_brk k op x y a n cap _ hn).mono ?_; rw [HK.out]; rintro e w7 ⟨rfl, b7⟩; have X7 := Lib.hid (X6.out.keep b7); obtain ⟨c70, c71, c72, c73, c74, -, -⟩ := X7.out.n; obtain ⟨p70, p71, p72, p73, p74, -⟩ := X7.out.p; obtain ⟨r70, r71, r72, r73, r74⟩ := X7.out.r.c; have f7 := X7.out.r.f; clear b7) | (go_at_call 29; refine (impl_top _).mono ?_; rintro e w8 ⟨rfl, b8⟩; have X8 := Lib.hid (X7.out.keep b8); obtain ⟨c80, c81, c82, c83, c84, -, -⟩ := X8.out.n; obtain ⟨p80, p81, p82, p83, p84, -⟩ := X8.out.p; obtain ⟨r80, r81, r82, r83, r84⟩ := X8.out.r.c; have f8 := X8.out.r.f; clear b8))
      obtain ⟨z0, z1, z2, z3, z4⟩ := X8.out.r.cput (1) (false) (false) (false) (false)
      exact bodyPost_ret (v := .agg #[.int .i64 (1), .bool (false), .bool (false), .bool (false), .bool (false)]) (by simp [results, Tryz.results190, go_sem, z0, z1, z2, z3, z4]) rfl ⟨rfl, below_set5 X8.out.n.b (by omega) _ _ _ _ _⟩
  · rw [if_neg (fun h => h1 h.2)] at hq
    subst hq
    clear HQ
    by_cases k1 : K < 0
    · clear h1
      go_enter Tryz.func190, Tryz.ntmps190
      go_wp2_with (first | (go_at_call 60; refine (impl_ok L d i g s _).mono ?_; rw [HP.out]; rintro e w5 ⟨rfl, b5⟩; have X5 := Lib.hid (HB.out.keep b5); obtain ⟨c50, c51, c52, c53, c54, -, -⟩ := X5.out.n; obtain ⟨p50, p51, p52, p53, p54, -⟩ := X5.out.p; obtain ⟨r50, r51, r52, r53, r54⟩ := X5.out.r.c; have f5 := X5.out.r.f; clear b5) | (go_at_call 156; refine (lv.impl_level k op x y a n cap _).mono ?_; rw [HV.out]; rintro e w6 ⟨rfl, b6⟩; have X6 := Lib.hid (X5.out.keep b6); obtain ⟨c60, c61, c62, c63, c64, -, -⟩ := X6.out.n; obtain ⟨p60, p61, p62, p63, p64, -⟩ := X6.out.p; obtain ⟨r60, r61, r62, r63, r64⟩ := X6.out.r.c; have f6 := X6.out.r.f; clear b6) | (go_at_call 271; refine (impl_brk k op x y a n cap _ hn).mono ?_; rw [HK.out]; rintro e w7 ⟨rfl, b7⟩; have X7 := Lib.hid (X6.out.keep b7); obtain ⟨c70, c71, c72, c73, c74, -, -⟩ := X7.out.n; obtain ⟨p70, p71, p72, p73, p74, -⟩ := X7.out.p; obtain ⟨r70, r71, r72, r73, r74⟩ := X7.out.r.c; have f7 := X7.out.r.f; clear b7) | (go_at_call 29; refine (impl_top _).mono ?_; rintro e w8 ⟨rfl, b8⟩; have X8 := Lib.hid (X7.out.keep b8); obtain ⟨c80, c81, c82, c83, c84, -, -⟩ := X8.out.n; obtain ⟨p80, p81, p82, p83, p84, -⟩ := X8.out.p; obtain ⟨r80, r81, r82, r83, r84⟩ := X8.out.r.c; have f8 := X8.out.r.f; clear b8))
      obtain ⟨z0, z1, z2, z3, z4⟩ := X5.out.r.cput (0) (false) (false) (false) (false)
      exact bodyPost_ret (v := .agg #[.int .i64 (0), .bool (false), .bool (false), .bool (false), .bool (false)]) (by simp [results, Tryz.results190, go_sem, z0, z1, z2, z3, z4]) rfl ⟨rfl, below_set5 X5.out.n.b (by omega) _ _ _ _ _⟩
    by_cases k2 : (n : Int) ≤ K
    · clear h1
      go_enter Tryz.func190, Tryz.ntmps190
      go_wp2_with (first | (go_at_call 60; refine (impl_ok L d i g s _).mono ?_; rw [HP.out]; rintro e w5 ⟨rfl, b5⟩; have X5 := Lib.hid (HB.out.keep b5); obtain ⟨c50, c51, c52, c53, c54, -, -⟩ := X5.out.n; obtain ⟨p50, p51, p52, p53, p54, -⟩ := X5.out.p; obtain ⟨r50, r51, r52, r53, r54⟩ := X5.out.r.c; have f5 := X5.out.r.f; clear b5) | (go_at_call 156; refine (lv.impl_level k op x y a n cap _).mono ?_; rw [HV.out]; rintro e w6 ⟨rfl, b6⟩; have X6 := Lib.hid (X5.out.keep b6); obtain ⟨c60, c61, c62, c63, c64, -, -⟩ := X6.out.n; obtain ⟨p60, p61, p62, p63, p64, -⟩ := X6.out.p; obtain ⟨r60, r61, r62, r63, r64⟩ := X6.out.r.c; have f6 := X6.out.r.f; clear b6) | (go_at_call 271; refine (impl_brk k op x y a n cap _ hn).mono ?_; rw [HK.out]; rintro e w7 ⟨rfl, b7⟩; have X7 := Lib.hid (X6.out.keep b7); obtain ⟨c70, c71, c72, c73, c74, -, -⟩ := X7.out.n; obtain ⟨p70, p71, p72, p73, p74, -⟩ := X7.out.p; obtain ⟨r70, r71, r72, r73, r74⟩ := X7.out.r.c; have f7 := X7.out.r.f; clear b7) | (go_at_call 29; refine (impl_top _).mono ?_; rintro e w8 ⟨rfl, b8⟩; have X8 := Lib.hid (X7.out.keep b8); obtain ⟨c80, c81, c82, c83, c84, -, -⟩ := X8.out.n; obtain ⟨p80, p81, p82, p83, p84, -⟩ := X8.out.p; obtain ⟨r80, r81, r82, r83, r84⟩ := X8.out.r.c; have f8 := X8.out.r.f; clear b8))
      obtain ⟨z0, z1, z2, z3, z4⟩ := X5.out.r.cput (0) (false) (false) (false) (false)
      exact bodyPost_ret (v := .agg #[.int .i64 (0), .bool (false), .bool (false), .bool (false), .bool (false)]) (by simp [results, Tryz.results190, go_sem, z0, z1, z2, z3, z4]) rfl ⟨rfl, below_set5 X5.out.n.b (by omega) _ _ _ _ _⟩
    have h0 : V = 0 := by
      by_cases h : V = 0
      · exact h
      · exact absurd ⟨by omega, by omega, h⟩ h1
    clear h1
    subst h0
    go_enter Tryz.func190, Tryz.ntmps190
    go_wp2_with (first | (go_at_call 60; refine (impl_ok L d i g s _).mono ?_; rw [HP.out]; rintro e w5 ⟨rfl, b5⟩; have X5 := Lib.hid (HB.out.keep b5); obtain ⟨c50, c51, c52, c53, c54, -, -⟩ := X5.out.n; obtain ⟨p50, p51, p52, p53, p54, -⟩ := X5.out.p; obtain ⟨r50, r51, r52, r53, r54⟩ := X5.out.r.c; have f5 := X5.out.r.f; clear b5) | (go_at_call 156; refine (lv.impl_level k op x y a n cap _).mono ?_; rw [HV.out]; rintro e w6 ⟨rfl, b6⟩; have X6 := Lib.hid (X5.out.keep b6); obtain ⟨c60, c61, c62, c63, c64, -, -⟩ := X6.out.n; obtain ⟨p60, p61, p62, p63, p64, -⟩ := X6.out.p; obtain ⟨r60, r61, r62, r63, r64⟩ := X6.out.r.c; have f6 := X6.out.r.f; clear b6) | (go_at_call 271; refine (impl_brk k op x y a n cap _ hn).mono ?_; rw [HK.out]; rintro e w7 ⟨rfl, b7⟩; have X7 := Lib.hid (X6.out.keep b7); obtain ⟨c70, c71, c72, c73, c74, -, -⟩ := X7.out.n; obtain ⟨p70, p71, p72, p73, p74, -⟩ := X7.out.p; obtain ⟨r70, r71, r72, r73, r74⟩ := X7.out.r.c; have f7 := X7.out.r.f; clear b7) | (go_at_call 29; refine (impl_top _).mono ?_; rintro e w8 ⟨rfl, b8⟩; have X8 := Lib.hid (X7.out.keep b8); obtain ⟨c80, c81, c82, c83, c84, -, -⟩ := X8.out.n; obtain ⟨p80, p81, p82, p83, p84, -⟩ := X8.out.p; obtain ⟨r80, r81, r82, r83, r84⟩ := X8.out.r.c; have f8 := X8.out.r.f; clear b8))
    obtain ⟨z0, z1, z2, z3, z4⟩ := X6.out.r.cput (0) (false) (false) (false) (false)
    exact bodyPost_ret (v := .agg #[.int .i64 (0), .bool (false), .bool (false), .bool (false), .bool (false)]) (by simp [results, Tryz.results190, go_sem, z0, z1, z2, z3, z4]) rfl ⟨rfl, below_set5 X6.out.n.b (by omega) _ _ _ _ _⟩
end Go.Proofs.YtiilpnoaocfjgaaGreatDoor.ps
