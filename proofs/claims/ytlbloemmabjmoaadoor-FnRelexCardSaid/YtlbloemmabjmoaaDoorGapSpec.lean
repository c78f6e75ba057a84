/-
  The model's NeedsGap: a contract.
-/
import Derived.Test.YtlbloemmabjmoaaDoorGap
namespace Go.Proofs.YtlbloemmabjmoaaDoor.gap
open Go.ChangeShapes Go.WideShapes Go.ChangeAt Go.RowKit
open tk scan
set_option linter.unusedVariables false

theorem box_after (w : World) (xk xa yk ya : Int) (xs ys : ByteArray) {w1 : World} (b : Below (((w.alloc (.cells #[.int .i64 xk, .string xs, .int .i64 xa] 35)).alloc (.cells #[.int .i64 yk, .string ys, .int .i64 ya] 35))).heap.size ((w.alloc (.cells #[.int .i64 xk, .string xs, .int .i64 xa] 35)).alloc (.cells #[.int .i64 yk, .string ys, .int .i64 ya] 35)) w1) :
    w1.cell? ⟨w.heap.size, 0, none⟩ = some (.int .i64 xk) ∧ w1.cell? ⟨w.heap.size, 1, none⟩ = some (.string xs) := by
  have h : w1.heap[w.heap.size]? = some (.cells #[.int .i64 xk, .string xs, .int .i64 xa] 35 (0, 0)) := by
    rw [b.block _ (by simp; omega), Below.heap_alloc _ _ _ (by simp)]
    exact heap_alloc_new w _
  exact ⟨by rw [cell_of_row _ _ 0 _ _ _ h]; rfl, by rw [cell_of_row _ _ 1 _ _ _ h]; rfl⟩

set_option maxHeartbeats 16000000 in
theorem spec_gap (xk xa yk ya : Int) (xs ys : ByteArray) (w : World) (hs : xs.size + ys.size ≤ 1048576) :
    Calls Tryd.prog 28 #[.agg #[.int .i64 xk, .string xs, .int .i64 xa], .agg #[.int .i64 yk, .string ys, .int .i64 ya]] w fun e w' => e = .returned (.bool (needsGap ⟨xk, xs, xa⟩ ⟨yk, ys, ya⟩)) ∧ Below w.heap.size w w' := by
  by_cases h1 : xs.size = 0
  · have HE := Lib.hid (show needsGap ⟨xk, xs, xa⟩ ⟨yk, ys, ya⟩ = false from by unfold needsGap; rw [if_pos (by simp only; omega)])
    obtain ⟨a1, a2⟩ := empty_yes h1
    clear h1
    go_enter Tryd.func28, Tryd.ntmps28
    go_wp2
    go_ret
    exact ⟨by rw [HE.out]; rfl, below_two _ _ _⟩
  obtain ⟨a1, a2⟩ := empty_no h1
  by_cases h2 : ys.size = 0
  · have HE := Lib.hid (show needsGap ⟨xk, xs, xa⟩ ⟨yk, ys, ya⟩ = false from by unfold needsGap; rw [if_pos (by simp only; omega)])
    obtain ⟨b1, b2⟩ := empty_yes h2
    clear h2
    go_enter Tryd.func28, Tryd.ntmps28
    go_wp2
    go_ret
    exact ⟨by rw [HE.out]; rfl, below_two _ _ _⟩
  obtain ⟨b1, b2⟩ := empty_no h2
  by_cases h3 : xk = 2
  · have HE := Lib.hid (show needsGap ⟨xk, xs, xa⟩ ⟨yk, ys, ya⟩ = false from by unfold needsGap; rw [if_pos (by simp only; omega)])
    obtain ⟨c1, -⟩ := eqI h3
    clear h3
    go_enter Tryd.func28, Tryd.ntmps28
    go_wp2
    go_ret
    exact ⟨by rw [HE.out]; rfl, below_two _ _ _⟩
  obtain ⟨c1, -⟩ := neI h3
  by_cases h4 : xk = 1
  · have HE := Lib.hid (show needsGap ⟨xk, xs, xa⟩ ⟨yk, ys, ya⟩ = false from by unfold needsGap; rw [if_pos (by simp only; omega)])
    obtain ⟨d1, -⟩ := eqI h4
    clear h4 h3
    go_enter Tryd.func28, Tryd.ntmps28
    go_wp2
    go_ret
    exact ⟨by rw [HE.out]; rfl, below_two _ _ _⟩
  obtain ⟨d1, -⟩ := neI h4
  by_cases h5 : yk = 1
  · have HE := Lib.hid (show needsGap ⟨xk, xs, xa⟩ ⟨yk, ys, ya⟩ = false from by unfold needsGap; rw [if_pos (by simp only; omega)])
    obtain ⟨e1, -⟩ := eqI h5
    clear h5 h4 h3
    go_enter Tryd.func28, Tryd.ntmps28
    go_wp2
    go_ret
    exact ⟨by rw [HE.out]; rfl, below_two _ _ _⟩
  obtain ⟨e1, -⟩ := neI h5
  have hd : needsGap ⟨xk, xs, xa⟩ ⟨yk, ys, ya⟩ = if chars.isWord (byteZ xs ((xs.size : Int) - 1)) = true ∧ chars.isWord (byteZ ys 0) = true then true
      else if xk = 3 then (chars.isWord (byteZ ys 0) || byteZ ys 0 == 46)
      else if xk = 6 then (yk == 32)
      else if 30 ≤ xk ∧ xk ≤ 68 then decide ((xs.size : Int) < (ops.opAt (xs ++ ys) 0).2)
      else false := by
    unfold needsGap
    rw [if_neg (by simp only; omega)]
  have hx1 : xs.size ≤ 1048576 := by omega
  have hy1 : ys.size ≤ 1048576 := by omega
  have hxy : (xs ++ ys).size ≤ 1048576 := by rw [ByteArray.size_append]; omega
  have ka := fun w => run_string_add_sum (P := Tryd.prog) (w := w) xs ys (by omega)
  obtain ⟨P, hP⟩ : ∃ P, P = ops.opAt (xs ++ ys) 0 := ⟨_, rfl⟩
  rw [← hP] at hd
  have HP := Lib.hid hP
  obtain ⟨n, hn⟩ : ∃ n : Nat, xs.size = n + 1 := ⟨xs.size - 1, by omega⟩
  have hnl : n < xs.size := by omega
  have hyl : 0 < ys.size := by omega
  have hnz : (xs.size : Int) - 1 = (n : Int) := by omega
  have hLz := byte_in hnl
  have hFz := byte_in hyl
  have hc1 := xs[n].toNat_lt
  have hc2 := ys[0].toNat_lt
  rw [hnz, hLz, show byteZ ys 0 = (ys[0].toNat : Int) from hFz] at hd
  have HD := Lib.hid hd
  clear h1 h2 h3 h4 h5 hd hP hLz hFz hn
  cases hwL : chars.isWord (xs[n].toNat : Int)
  · cases hwF : chars.isWord (ys[0].toNat : Int)
    · skip
      have HD2 := HD.out.trans (if_neg (by rintro ⟨q1, q2⟩; rw [hwL] at q1; cases q1))
      by_cases k3 : xk = 3
      · obtain ⟨z3, -⟩ := eqI k3
        have hnr : chars.inR xk 30 68 = false := by simp [chars.inR]; omega
        by_cases h46 : (ys[0].toNat : Int) = 46
        · have HE := Lib.hid (show needsGap ⟨xk, xs, xa⟩ ⟨yk, ys, ya⟩ = true by rw [HD2, if_pos k3, hwF]; exact (eqI h46).1)
          obtain ⟨p46, -⟩ := eqI h46
          clear k3 HD2 h46
          go_enter Tryd.func28, Tryd.ntmps28
          go_wp2_with (go_at_call 54; refine (chars.spec_word _ _).mono ?_; rintro e w' ⟨rfl, rfl⟩)
          go_ret
          exact ⟨by rw [HE.out]; rfl, below_two _ _ _⟩
        · have HE := Lib.hid (show needsGap ⟨xk, xs, xa⟩ ⟨yk, ys, ya⟩ = false by rw [HD2, if_pos k3, hwF]; exact (neI h46).1)
          obtain ⟨p46, -⟩ := neI h46
          obtain ⟨z6, -⟩ := neI (show ¬ xk = 6 by omega)
          clear k3 HD2 h46
          go_enter Tryd.func28, Tryd.ntmps28
          go_wp2_with (go_at_call 54; refine (chars.spec_word _ _).mono ?_; rintro e w' ⟨rfl, rfl⟩)
          refine (ops.spec_op _ 0 _ hxy).mono ?_
          rintro e w1 ⟨he, b1⟩
          rw [← HP.out] at he
          subst he
          have HT := Lib.hid b1
          obtain ⟨t0, t1⟩ := box_after w xk xa yk ya xs ys b1
          have HB1 := Lib.hid ((below_two w _ _).trans (b1.mono (by simp; omega)))
          clear b1
          go_wp2_with (go_at_call 56; refine (chars.spec_in _ _ _ _).mono ?_; rintro e w' ⟨rfl, rfl⟩)
          go_ret
          exact ⟨by rw [HE.out]; rfl, HB1.out⟩
      obtain ⟨z3, -⟩ := neI k3
      by_cases k6 : xk = 6
      · obtain ⟨z6, -⟩ := eqI k6
        have hnr : chars.inR xk 30 68 = false := by simp [chars.inR]; omega
        by_cases y32 : yk = 32
        · have HE := Lib.hid (show needsGap ⟨xk, xs, xa⟩ ⟨yk, ys, ya⟩ = true by rw [HD2, if_neg k3, if_pos k6]; exact (eqI y32).1)
          obtain ⟨z7, -⟩ := eqI y32
          clear k3 k6 HD2 y32
          go_enter Tryd.func28, Tryd.ntmps28
          go_wp2_with (go_at_call 54; refine (chars.spec_word _ _).mono ?_; rintro e w' ⟨rfl, rfl⟩)
          go_ret
          exact ⟨by rw [HE.out]; rfl, below_two _ _ _⟩
        · have HE := Lib.hid (show needsGap ⟨xk, xs, xa⟩ ⟨yk, ys, ya⟩ = false by rw [HD2, if_neg k3, if_pos k6]; exact (neI y32).1)
          obtain ⟨z7, -⟩ := neI y32
          clear k3 k6 HD2 y32
          go_enter Tryd.func28, Tryd.ntmps28
          go_wp2_with (go_at_call 54; refine (chars.spec_word _ _).mono ?_; rintro e w' ⟨rfl, rfl⟩)
          refine (ops.spec_op _ 0 _ hxy).mono ?_
          rintro e w1 ⟨he, b1⟩
          rw [← HP.out] at he
          subst he
          have HT := Lib.hid b1
          obtain ⟨t0, t1⟩ := box_after w xk xa yk ya xs ys b1
          have HB1 := Lib.hid ((below_two w _ _).trans (b1.mono (by simp; omega)))
          clear b1
          go_wp2_with (go_at_call 56; refine (chars.spec_in _ _ _ _).mono ?_; rintro e w' ⟨rfl, rfl⟩)
          go_ret
          exact ⟨by rw [HE.out]; rfl, HB1.out⟩
      obtain ⟨z6, -⟩ := neI k6
      by_cases kop : 30 ≤ xk ∧ xk ≤ 68
      · have HE := Lib.hid (show needsGap ⟨xk, xs, xa⟩ ⟨yk, ys, ya⟩ = decide ((xs.size : Int) < P.2) by rw [HD2, if_neg k3, if_neg k6, if_pos kop])
        have hnr : chars.inR xk 30 68 = true := by simp [chars.inR]; omega
        clear k3 k6 HD2 kop
        go_enter Tryd.func28, Tryd.ntmps28
        go_wp2_with (go_at_call 54; refine (chars.spec_word _ _).mono ?_; rintro e w' ⟨rfl, rfl⟩)
        refine (ops.spec_op _ 0 _ hxy).mono ?_
        rintro e w1 ⟨he, b1⟩
        rw [← HP.out] at he
        subst he
        have HT := Lib.hid b1
        obtain ⟨t0, t1⟩ := box_after w xk xa yk ya xs ys b1
        have HB1 := Lib.hid ((below_two w _ _).trans (b1.mono (by simp; omega)))
        clear b1
        go_wp2_with (go_at_call 56; refine (chars.spec_in _ _ _ _).mono ?_; rintro e w' ⟨rfl, rfl⟩)
        go_ret
        exact ⟨by rw [HE.out]; rfl, HB1.out⟩
      have HE := Lib.hid (show needsGap ⟨xk, xs, xa⟩ ⟨yk, ys, ya⟩ = false by rw [HD2, if_neg k3, if_neg k6, if_neg kop])
      have hnr : chars.inR xk 30 68 = false := by simp [chars.inR]; omega
      clear k3 k6 HD2 kop
      go_enter Tryd.func28, Tryd.ntmps28
      go_wp2_with (go_at_call 54; refine (chars.spec_word _ _).mono ?_; rintro e w' ⟨rfl, rfl⟩)
      refine (ops.spec_op _ 0 _ hxy).mono ?_
      rintro e w1 ⟨he, b1⟩
      rw [← HP.out] at he
      subst he
      have HT := Lib.hid b1
      obtain ⟨t0, t1⟩ := box_after w xk xa yk ya xs ys b1
      have HB1 := Lib.hid ((below_two w _ _).trans (b1.mono (by simp; omega)))
      clear b1
      go_wp2_with (go_at_call 56; refine (chars.spec_in _ _ _ _).mono ?_; rintro e w' ⟨rfl, rfl⟩)
      go_ret
      exact ⟨by rw [HE.out]; rfl, HB1.out⟩
    · skip
      have HD2 := HD.out.trans (if_neg (by rintro ⟨q1, q2⟩; rw [hwL] at q1; cases q1))
      by_cases k3 : xk = 3
      · have HE := Lib.hid (show needsGap ⟨xk, xs, xa⟩ ⟨yk, ys, ya⟩ = true by rw [HD2, if_pos k3, hwF]; rfl)
        obtain ⟨z3, -⟩ := eqI k3
        clear k3 HD2
        go_enter Tryd.func28, Tryd.ntmps28
        go_wp2_with (go_at_call 54; refine (chars.spec_word _ _).mono ?_; rintro e w' ⟨rfl, rfl⟩)
        go_ret
        exact ⟨by rw [HE.out]; rfl, below_two _ _ _⟩
      obtain ⟨z3, -⟩ := neI k3
      by_cases k6 : xk = 6
      · obtain ⟨z6, -⟩ := eqI k6
        have hnr : chars.inR xk 30 68 = false := by simp [chars.inR]; omega
        by_cases y32 : yk = 32
        · have HE := Lib.hid (show needsGap ⟨xk, xs, xa⟩ ⟨yk, ys, ya⟩ = true by rw [HD2, if_neg k3, if_pos k6]; exact (eqI y32).1)
          obtain ⟨z7, -⟩ := eqI y32
          clear k3 k6 HD2 y32
          go_enter Tryd.func28, Tryd.ntmps28
          go_wp2_with (go_at_call 54; refine (chars.spec_word _ _).mono ?_; rintro e w' ⟨rfl, rfl⟩)
          go_ret
          exact ⟨by rw [HE.out]; rfl, below_two _ _ _⟩
        · have HE := Lib.hid (show needsGap ⟨xk, xs, xa⟩ ⟨yk, ys, ya⟩ = false by rw [HD2, if_neg k3, if_pos k6]; exact (neI y32).1)
          obtain ⟨z7, -⟩ := neI y32
          clear k3 k6 HD2 y32
          go_enter Tryd.func28, Tryd.ntmps28
          go_wp2_with (go_at_call 54; refine (chars.spec_word _ _).mono ?_; rintro e w' ⟨rfl, rfl⟩)
          refine (ops.spec_op _ 0 _ hxy).mono ?_
          rintro e w1 ⟨he, b1⟩
          rw [← HP.out] at he
          subst he
          have HT := Lib.hid b1
          obtain ⟨t0, t1⟩ := box_after w xk xa yk ya xs ys b1
          have HB1 := Lib.hid ((below_two w _ _).trans (b1.mono (by simp; omega)))
          clear b1
          go_wp2_with (go_at_call 56; refine (chars.spec_in _ _ _ _).mono ?_; rintro e w' ⟨rfl, rfl⟩)
          go_ret
          exact ⟨by rw [HE.out]; rfl, HB1.out⟩
      obtain ⟨z6, -⟩ := neI k6
      by_cases kop : 30 ≤ xk ∧ xk ≤ 68
      · have HE := Lib.hid (show needsGap ⟨xk, xs, xa⟩ ⟨yk, ys, ya⟩ = decide ((xs.size : Int) < P.2) by rw [HD2, if_neg k3, if_neg k6, if_pos kop])
        have hnr : chars.inR xk 30 68 = true := by simp [chars.inR]; omega
        clear k3 k6 HD2 kop
        go_enter Tryd.func28, Tryd.ntmps28
        go_wp2_with (go_at_call 54; refine (chars.spec_word _ _).mono ?_; rintro e w' ⟨rfl, rfl⟩)
        refine (ops.spec_op _ 0 _ hxy).mono ?_
        rintro e w1 ⟨he, b1⟩
        rw [← HP.out] at he
        subst he
        have HT := Lib.hid b1
        obtain ⟨t0, t1⟩ := box_after w xk xa yk ya xs ys b1
        have HB1 := Lib.hid ((below_two w _ _).trans (b1.mono (by simp; omega)))
        clear b1
        go_wp2_with (go_at_call 56; refine (chars.spec_in _ _ _ _).mono ?_; rintro e w' ⟨rfl, rfl⟩)
        go_ret
        exact ⟨by rw [HE.out]; rfl, HB1.out⟩
      have HE := Lib.hid (show needsGap ⟨xk, xs, xa⟩ ⟨yk, ys, ya⟩ = false by rw [HD2, if_neg k3, if_neg k6, if_neg kop])
      have hnr : chars.inR xk 30 68 = false := by simp [chars.inR]; omega
      clear k3 k6 HD2 kop
      go_enter Tryd.func28, Tryd.ntmps28
      go_wp2_with (go_at_call 54; refine (chars.spec_word _ _).mono ?_; rintro e w' ⟨rfl, rfl⟩)
      refine (ops.spec_op _ 0 _ hxy).mono ?_
      rintro e w1 ⟨he, b1⟩
      rw [← HP.out] at he
      subst he
      have HT := Lib.hid b1
      obtain ⟨t0, t1⟩ := box_after w xk xa yk ya xs ys b1
      have HB1 := Lib.hid ((below_two w _ _).trans (b1.mono (by simp; omega)))
      clear b1
      go_wp2_with (go_at_call 56; refine (chars.spec_in _ _ _ _).mono ?_; rintro e w' ⟨rfl, rfl⟩)
      go_ret
      exact ⟨by rw [HE.out]; rfl, HB1.out⟩
  · cases hwF : chars.isWord (ys[0].toNat : Int)
    · skip
      have HD2 := HD.out.trans (if_neg (by rintro ⟨q1, q2⟩; rw [hwF] at q2; cases q2))
      by_cases k3 : xk = 3
      · obtain ⟨z3, -⟩ := eqI k3
        have hnr : chars.inR xk 30 68 = false := by simp [chars.inR]; omega
        by_cases h46 : (ys[0].toNat : Int) = 46
        · have HE := Lib.hid (show needsGap ⟨xk, xs, xa⟩ ⟨yk, ys, ya⟩ = true by rw [HD2, if_pos k3, hwF]; exact (eqI h46).1)
          obtain ⟨p46, -⟩ := eqI h46
          clear k3 HD2 h46
          go_enter Tryd.func28, Tryd.ntmps28
          go_wp2_with (go_at_call 54; refine (chars.spec_word _ _).mono ?_; rintro e w' ⟨rfl, rfl⟩)
          go_ret
          exact ⟨by rw [HE.out]; rfl, below_two _ _ _⟩
        · have HE := Lib.hid (show needsGap ⟨xk, xs, xa⟩ ⟨yk, ys, ya⟩ = false by rw [HD2, if_pos k3, hwF]; exact (neI h46).1)
          obtain ⟨p46, -⟩ := neI h46
          obtain ⟨z6, -⟩ := neI (show ¬ xk = 6 by omega)
          clear k3 HD2 h46
          go_enter Tryd.func28, Tryd.ntmps28
          go_wp2_with (go_at_call 54; refine (chars.spec_word _ _).mono ?_; rintro e w' ⟨rfl, rfl⟩)
          refine (ops.spec_op _ 0 _ hxy).mono ?_
          rintro e w1 ⟨he, b1⟩
          rw [← HP.out] at he
          subst he
          have HT := Lib.hid b1
          obtain ⟨t0, t1⟩ := box_after w xk xa yk ya xs ys b1
          have HB1 := Lib.hid ((below_two w _ _).trans (b1.mono (by simp; omega)))
          clear b1
          go_wp2_with (go_at_call 56; refine (chars.spec_in _ _ _ _).mono ?_; rintro e w' ⟨rfl, rfl⟩)
          go_ret
          exact ⟨by rw [HE.out]; rfl, HB1.out⟩
      obtain ⟨z3, -⟩ := neI k3
      by_cases k6 : xk = 6
      · obtain ⟨z6, -⟩ := eqI k6
        have hnr : chars.inR xk 30 68 = false := by simp [chars.inR]; omega
        by_cases y32 : yk = 32
        · have HE := Lib.hid (show needsGap ⟨xk, xs, xa⟩ ⟨yk, ys, ya⟩ = true by rw [HD2, if_neg k3, if_pos k6]; exact (eqI y32).1)
          obtain ⟨z7, -⟩ := eqI y32
          clear k3 k6 HD2 y32
          go_enter Tryd.func28, Tryd.ntmps28
          go_wp2_with (go_at_call 54; refine (chars.spec_word _ _).mono ?_; rintro e w' ⟨rfl, rfl⟩)
          go_ret
          exact ⟨by rw [HE.out]; rfl, below_two _ _ _⟩
        · have HE := Lib.hid (show needsGap ⟨xk, xs, xa⟩ ⟨yk, ys, ya⟩ = false by rw [HD2, if_neg k3, if_pos k6]; exact (neI y32).1)
          obtain ⟨z7, -⟩ := neI y32
          clear k3 k6 HD2 y32
          go_enter Tryd.func28, Tryd.ntmps28
          go_wp2_with (go_at_call 54; refine (chars.spec_word _ _).mono ?_; rintro e w' ⟨rfl, rfl⟩)
          refine (ops.spec_op _ 0 _ hxy).mono ?_
          rintro e w1 ⟨he, b1⟩
          rw [← HP.out] at he
          subst he
          have HT := Lib.hid b1
          obtain ⟨t0, t1⟩ := box_after w xk xa yk ya xs ys b1
          have HB1 := Lib.hid ((below_two w _ _).trans (b1.mono (by simp; omega)))
          clear b1
          go_wp2_with (go_at_call 56; refine (chars.spec_in _ _ _ _).mono ?_; rintro e w' ⟨rfl, rfl⟩)
          go_ret
          exact ⟨by rw [HE.out]; rfl, HB1.out⟩
      obtain ⟨z6, -⟩ := neI k6
      by_cases kop : 30 ≤ xk ∧ xk ≤ 68
      · have HE := Lib.hid (show needsGap ⟨xk, xs, xa⟩ ⟨yk, ys, ya⟩ = decide ((xs.size : Int) < P.2) by rw [HD2, if_neg k3, if_neg k6, if_pos kop])
        have hnr : chars.inR xk 30 68 = true := by simp [chars.inR]; omega
        clear k3 k6 HD2 kop
        go_enter Tryd.func28, Tryd.ntmps28
        go_wp2_with (go_at_call 54; refine (chars.spec_word _ _).mono ?_; rintro e w' ⟨rfl, rfl⟩)
        refine (ops.spec_op _ 0 _ hxy).mono ?_
        rintro e w1 ⟨he, b1⟩
        rw [← HP.out] at he
        subst he
        have HT := Lib.hid b1
        obtain ⟨t0, t1⟩ := box_after w xk xa yk ya xs ys b1
        have HB1 := Lib.hid ((below_two w _ _).trans (b1.mono (by simp; omega)))
        clear b1
        go_wp2_with (go_at_call 56; refine (chars.spec_in _ _ _ _).mono ?_; rintro e w' ⟨rfl, rfl⟩)
        go_ret
        exact ⟨by rw [HE.out]; rfl, HB1.out⟩
      have HE := Lib.hid (show needsGap ⟨xk, xs, xa⟩ ⟨yk, ys, ya⟩ = false by rw [HD2, if_neg k3, if_neg k6, if_neg kop])
      have hnr : chars.inR xk 30 68 = false := by simp [chars.inR]; omega
      clear k3 k6 HD2 kop
      go_enter Tryd.func28, Tryd.ntmps28
      go_wp2_with (go_at_call 54; refine (chars.spec_word _ _).mono ?_; rintro e w' ⟨rfl, rfl⟩)
      refine (ops.spec_op _ 0 _ hxy).mono ?_
      rintro e w1 ⟨he, b1⟩
      rw [← HP.out] at he
      subst he
      have HT := Lib.hid b1
      obtain ⟨t0, t1⟩ := box_after w xk xa yk ya xs ys b1
      have HB1 := Lib.hid ((below_two w _ _).trans (b1.mono (by simp; omega)))
      clear b1
      go_wp2_with (go_at_call 56; refine (chars.spec_in _ _ _ _).mono ?_; rintro e w' ⟨rfl, rfl⟩)
      go_ret
      exact ⟨by rw [HE.out]; rfl, HB1.out⟩
    · have HE := Lib.hid (show needsGap ⟨xk, xs, xa⟩ ⟨yk, ys, ya⟩ = true by rw [HD.out, if_pos ⟨hwL, hwF⟩])
      go_enter Tryd.func28, Tryd.ntmps28
      go_wp2_with (go_at_call 54; refine (chars.spec_word _ _).mono ?_; rintro e w' ⟨rfl, rfl⟩)
      go_ret
      exact ⟨by rw [HE.out]; rfl, below_two _ _ _⟩
end Go.Proofs.YtlbloemmabjmoaaDoor.gap
