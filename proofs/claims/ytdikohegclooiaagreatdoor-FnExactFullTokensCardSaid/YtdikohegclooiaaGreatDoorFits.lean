/-
  spec.Fits: its contract.
-/
import Derived.Test.YtdikohegclooiaaGreatDoorPos
import Derived.Deep.CutRange
import Derived.Deep.CutBlock
import Derived.Deep.DeepCutAuto
namespace Go.Proofs.YtdikohegclooiaaGreatDoor.ps
open Go.ChangeShapes Go.WideShapes Go.ChangeAt Go.RowKit
open chars (inR)
open lv (levelOf opLevel box_below Bx)
set_option linter.unusedVariables false
set_option maxRecDepth 20000

theorem fits_eq {k op L V : Int} {d i g s C1 C2 C3 C4 : Bool} (h : posOk L d = true) (hV : levelOf k op = V) (h0 : ¬ V = 0) (h1 : (i && k == 13) = C1) (h2 : (g && (k == 12 && op == 62)) = C2) (h3 : (s && (k == 11 || k == 9 || k == 4)) = C3) (h4 : (d && k == 9) = C4) : fits k op L d i g s = (!(C1 || C2 || C3) && (C4 || decide (L ≤ V))) := by
  unfold fits forb
  rw [h, hV, h1, h2, h3, h4]
  have : (V == 0) = false := by simp [h0]
  rw [this]
  simp
set_option maxHeartbeats 3200000 in
theorem spec_fits (k op L : Int) (x y : ByteArray) (a : Option Addr) (n cap : Nat) (d i g s : Bool) (w : World) : Calls Tryz.prog 37 #[.agg #[.int .i64 k, .int .i64 op, .string x, .string y, .slice a n cap], .agg #[.int .i64 L, .bool d, .bool i, .bool g, .bool s]] w fun e w' => e = .returned (.bool (fits k op L d i g s)) ∧ Below w.heap.size w w' := by
  have HB := Lib.hid (Nb.start w k op x y (.slice a n cap) L d i g s)
  obtain ⟨P, hP⟩ : ∃ P, posOk L d = P := ⟨_, rfl⟩
  have HP := Lib.hid hP
  clear hP
  obtain ⟨V, hV⟩ : ∃ V, levelOf k op = V := ⟨_, rfl⟩
  have HV := Lib.hid hV
  clear hV
  cases P
  · have HE := Lib.hid (fits_no (k := k) (op := op) (i := i) (g := g) (s := s) HP.out)
    go_enter Tryz.func37, Tryz.ntmps37
    go_wp2_with (first | (go_at_call 19; refine (spec_ok L _ _ _ _ _).mono ?_; rw [HP.out]; rintro e w5 ⟨rfl, b5⟩; have X5 := Lib.hid (HB.out.keep b5); obtain ⟨c50, c51, c52, c53, c54, -, -⟩ := X5.out.n; obtain ⟨p50, p51, p52, p53, p54, -⟩ := X5.out.p; clear b5) | (go_at_call 39; refine (lv.spec_level k op x y a n cap _).mono ?_; rw [HV.out]; rintro e w6 ⟨rfl, b6⟩; have X6 := Lib.hid (X5.out.keep b6); obtain ⟨c60, c61, c62, c63, c64, -, -⟩ := X6.out.n; obtain ⟨p60, p61, p62, p63, p64, -⟩ := X6.out.p; clear b6))
    go_ret
    exact ⟨by rw [HE.out]; rfl, X5.out.n.b⟩
  by_cases h0 : V = 0
  · subst h0
    have HE := Lib.hid (show fits k op L d i g s = false by unfold fits; rw [HP.out, HV.out]; rfl)
    go_enter Tryz.func37, Tryz.ntmps37
    go_wp2_with (first | (go_at_call 19; refine (spec_ok L _ _ _ _ _).mono ?_; rw [HP.out]; rintro e w5 ⟨rfl, b5⟩; have X5 := Lib.hid (HB.out.keep b5); obtain ⟨c50, c51, c52, c53, c54, -, -⟩ := X5.out.n; obtain ⟨p50, p51, p52, p53, p54, -⟩ := X5.out.p; clear b5) | (go_at_call 39; refine (lv.spec_level k op x y a n cap _).mono ?_; rw [HV.out]; rintro e w6 ⟨rfl, b6⟩; have X6 := Lib.hid (X5.out.keep b6); obtain ⟨c60, c61, c62, c63, c64, -, -⟩ := X6.out.n; obtain ⟨p60, p61, p62, p63, p64, -⟩ := X6.out.p; clear b6))
    go_ret
    exact ⟨by rw [HE.out]; rfl, X6.out.n.b⟩
  obtain ⟨C1, hC1⟩ : ∃ C, (i && k == 13) = C := ⟨_, rfl⟩
  obtain ⟨C2, hC2⟩ : ∃ C, (g && (k == 12 && op == 62)) = C := ⟨_, rfl⟩
  obtain ⟨C3, hC3⟩ : ∃ C, (s && (k == 11 || k == 9 || k == 4)) = C := ⟨_, rfl⟩
  obtain ⟨C4, hC4⟩ : ∃ C, (d && k == 9) = C := ⟨_, rfl⟩
  have HE := Lib.hid (fits_eq HP.out HV.out h0 hC1 hC2 hC3 hC4)
  have H1 := Lib.hid hC1
  have H2 := Lib.hid hC2
  have H3 := Lib.hid hC3
  have H4 := Lib.hid hC4
  clear hC1 hC2 hC3 hC4
  go_enter Tryz.func37, Tryz.ntmps37
  have hv0 : (V == 0) = false := by simp [h0]
  go_upto_region 3 with (first | (go_at_call 19; refine (spec_ok L _ _ _ _ _).mono ?_; rw [HP.out]; rintro e w5 ⟨rfl, b5⟩; have X5 := Lib.hid (HB.out.keep b5); obtain ⟨c50, c51, c52, c53, c54, -, -⟩ := X5.out.n; obtain ⟨p50, p51, p52, p53, p54, -⟩ := X5.out.p; clear b5) | (go_at_call 39; refine (lv.spec_level k op x y a n cap _).mono ?_; rw [HV.out]; rintro e w6 ⟨rfl, b6⟩; have X6 := Lib.hid (X5.out.keep b6); obtain ⟨c60, c61, c62, c63, c64, -, -⟩ := X6.out.n; obtain ⟨p60, p61, p62, p63, p64, -⟩ := X6.out.p; clear b6))
  (try rw [hv0])
  clear h0 hv0
  go_cut [14] (fun v wx => v = .bool C1 ∧ wx = w6)
  case first =>
    cases i
    all_goals
      go_wp2_with fail
      all_goals
        go_meet
        first | done | exact ⟨congrArg Value.bool (by rw [← H1.out]; simp_all), rfl⟩
  case rest =>
  obtain ⟨rfl, hw⟩ := hcut
  subst wc
  cases C1
  rotate_left
  · go_wp2_with fail
    go_ret
    exact ⟨by rw [HE.out]; rfl, X6.out.n.b⟩
  go_upto_region 5 with (fail)
  go_cut [22] (fun v wx => v = .bool C2 ∧ wx = w6)
  case first =>
    by_cases hk12 : k = 12
    · subst hk12
      cases g
      all_goals
        go_wp2_with fail
        all_goals
          go_meet
          first | done | exact ⟨congrArg Value.bool (by rw [← H2.out]; simp_all), rfl⟩
    cases g
    all_goals
      go_wp2_with fail
      all_goals
        go_meet
        first | done | exact ⟨congrArg Value.bool (by rw [← H2.out]; simp_all), rfl⟩
  case rest =>
  obtain ⟨rfl, hw⟩ := hcut
  subst wc
  cases C2
  rotate_left
  · go_wp2_with fail
    go_ret
    exact ⟨by rw [HE.out]; rfl, X6.out.n.b⟩
  go_upto_region 7 with (fail)
  go_cut [35] (fun v wx => v = .bool C3 ∧ wx = w6)
  case first =>
    by_cases hk11 : k = 11
    · subst hk11
      cases s
      all_goals
        go_wp2_with fail
        all_goals
          go_meet
          first | done | exact ⟨congrArg Value.bool (by rw [← H3.out]; simp_all), rfl⟩
    by_cases hk9 : k = 9
    · subst hk9
      cases s
      all_goals
        go_wp2_with fail
        all_goals
          go_meet
          first | done | exact ⟨congrArg Value.bool (by rw [← H3.out]; simp_all), rfl⟩
    by_cases hk4 : k = 4
    · subst hk4
      cases s
      all_goals
        go_wp2_with fail
        all_goals
          go_meet
          first | done | exact ⟨congrArg Value.bool (by rw [← H3.out]; simp_all), rfl⟩
    cases s
    all_goals
      go_wp2_with fail
      all_goals
        go_meet
        first | done | exact ⟨congrArg Value.bool (by rw [← H3.out]; simp_all), rfl⟩
  case rest =>
  obtain ⟨rfl, hw⟩ := hcut
  subst wc
  cases C3
  rotate_left
  · go_wp2_with fail
    go_ret
    exact ⟨by rw [HE.out]; rfl, X6.out.n.b⟩
  go_upto_region 9 with (fail)
  go_cut [53] (fun v wx => v = .bool C4 ∧ wx = w6)
  case first =>
    by_cases hk9 : k = 9
    · subst hk9
      cases d
      all_goals
        go_wp2_with fail
        all_goals
          go_meet
          first | done | exact ⟨congrArg Value.bool (by rw [← H4.out]; simp_all), rfl⟩
    cases d
    all_goals
      go_wp2_with fail
      all_goals
        go_meet
        first | done | exact ⟨congrArg Value.bool (by rw [← H4.out]; simp_all), rfl⟩
  case rest =>
  obtain ⟨rfl, hw⟩ := hcut
  subst wc
  cases C4
  rotate_left
  · go_wp2_with fail
    go_ret
    exact ⟨by rw [HE.out]; rfl, X6.out.n.b⟩
  go_wp2_with fail
  go_region_held3 (fun w' => (w'.cell? ⟨w.heap.size, 0, none⟩ = some (.int .i64 k) ∧ w'.cell? ⟨w.heap.size, 1, none⟩ = some (.int .i64 op) ∧ w'.cell? ⟨w.heap.size, 2, none⟩ = some (.string x) ∧ w'.cell? ⟨w.heap.size, 3, none⟩ = some (.string y) ∧ w'.cell? ⟨w.heap.size, 4, none⟩ = some (.slice a n cap) ∧ w'.cell? ⟨w.heap.size + 1, 0, none⟩ = some (.int .i64 L) ∧ w'.cell? ⟨w.heap.size + 1, 1, none⟩ = some (.bool d) ∧ w'.cell? ⟨w.heap.size + 1, 2, none⟩ = some (.bool i) ∧ w'.cell? ⟨w.heap.size + 1, 3, none⟩ = some (.bool g) ∧ w'.cell? ⟨w.heap.size + 1, 4, none⟩ = some (.bool s)) ∧ Nb w w' k op x y (.slice a n cap) L d i g s)
    (first | exact nb_cells X6.out.drew | exact nb_cells X6.out | exact nb_cells ((by assumption : _ ∧ Nb _ _ _ _ _ _ _ _ _ _ _ _).2.keep (by assumption)) | exact nb_cells (by assumption : _ ∧ Nb _ _ _ _ _ _ _ _ _ _ _ _).2.drew)
    (first | (go_at_call 39; refine (lv.spec_level k op x y a n cap _).mono ?_; rw [HV.out]; rintro e w7 ⟨rfl, b7⟩))
  have HBZ := Lib.hid (by assumption : _ ∧ Nb _ _ _ _ _ _ _ _ _ _ _ _).2.n.b
  go_wp2
  go_ret
  exact ⟨by rw [HE.out]; rfl, HBZ.out⟩
end Go.Proofs.YtdikohegclooiaaGreatDoor.ps
