/-
  NeedsGap of both sides: whether a space is needed between two tokens ('needsGap'): contracts.
-/
import Derived.Test.YtlbloemmabjmoaaDoorTk
import Derived.Test.YtlbloemmabjmoaaDoorOps
import Derived.Test.YtlbloemmabjmoaaDoorTok
namespace Go.Proofs.YtlbloemmabjmoaaDoor.gap
open Go.ChangeShapes Go.WideShapes Go.ChangeAt Go.RowKit
open tk scan
open spell (Held)
set_option linter.unusedVariables false

def needsGap (x y : Tk) : Bool :=
  if x.s.size = 0 ∨ y.s.size = 0 ∨ x.k = 2 ∨ x.k = 1 ∨ y.k = 1 then false
  else if chars.isWord (byteZ x.s ((x.s.size : Int) - 1)) = true ∧ chars.isWord (byteZ y.s 0) = true then true
  else if x.k = 3 then (chars.isWord (byteZ y.s 0) || byteZ y.s 0 == 46)
  else if x.k = 6 then (y.k == 32)
  else if 30 ≤ x.k ∧ x.k ≤ 68 then decide ((x.s.size : Int) < (ops.opAt (x.s ++ y.s) 0).2)
  else false

theorem eqI {x c : Int} (h : x = c) : (x == c) = true ∧ (x != c) = false := by subst h; simp
theorem neI {x c : Int} (h : ¬ x = c) : (x == c) = false ∧ (x != c) = true := by simp [h]
theorem empty_yes {s : ByteArray} (h : s.size = 0) : s.toList.isEmpty = true ∧ s.toList = [] := by
  obtain rfl : s = ⟨#[]⟩ := ByteArray.ext (Array.size_eq_zero_iff.1 h)
  exact ⟨by rw [ByteArray.toList_eq]; rfl, by rw [ByteArray.toList_eq]⟩
theorem empty_no {s : ByteArray} (h : ¬ s.size = 0) : s.toList.isEmpty = false ∧ ¬ s.toList = [] := by
  have h1 := chars.ne_empty (s := s) (by omega)
  exact ⟨h1, fun e => by rw [e] at h1; cases h1⟩
theorem below_boxes (w : World) (a b : Obj) (n : Nat) : Below w.heap.size w (((w.alloc a).alloc b).drewN n) := tok.below_drewN (below_two w a b) n

theorem impl_isOp (n : Int) (w : World) : Calls Tryd.prog 59 #[.int .i64 n] w fun e w' => e = .returned (.bool (chars.inR n 30 68)) ∧ w = w' := by
  by_cases h1 : 30 ≤ n
  · have HE := Lib.hid (show chars.inR n 30 68 = decide (n ≤ 68) by simp [chars.inR, h1])
    go_enter Tryd.func59, Tryd.ntmps59
    go_wp2
    go_ret
    exact ⟨by rw [HE.out]; rfl, rfl⟩
  · have HE := Lib.hid (show chars.inR n 30 68 = false by simp [chars.inR, h1])
    go_enter Tryd.func59, Tryd.ntmps59
    go_wp2
    go_ret
    exact ⟨by rw [HE.out]; rfl, rfl⟩

set_option maxHeartbeats 16000000 in
theorem impl_gap (xk xa yk ya : Int) (xs ys : ByteArray) (w : World) (hs : xs.size + ys.size ≤ 1048576) (hh : Held w) :
    Calls Tryd.prog 30 #[.agg #[.int .i64 xk, .string xs, .int .i64 xa], .agg #[.int .i64 yk, .string ys, .int .i64 ya]] w fun e w' => e = .returned (.bool (needsGap ⟨xk, xs, xa⟩ ⟨yk, ys, ya⟩)) ∧ Below w.heap.size w w' := by
  have HH := Lib.hid hh
  clear hh
  by_cases h1 : xs.size = 0
  · have HE := Lib.hid (show needsGap ⟨xk, xs, xa⟩ ⟨yk, ys, ya⟩ = false from by unfold needsGap; rw [if_pos (by simp only; omega)])
    obtain ⟨a1, a2⟩ := empty_yes h1
    clear h1
    go_enter Tryd.func30, Tryd.ntmps30
    go_wp2
    go_ret
    exact ⟨by rw [HE.out]; rfl, below_two _ _ _⟩
  obtain ⟨a1, a2⟩ := empty_no h1
  by_cases h2 : ys.size = 0
  · have HE := Lib.hid (show needsGap ⟨xk, xs, xa⟩ ⟨yk, ys, ya⟩ = false from by unfold needsGap; rw [if_pos (by simp only; omega)])
    obtain ⟨b1, b2⟩ := empty_yes h2
    clear h2
    go_enter Tryd.func30, Tryd.ntmps30
    go_wp2
    go_ret
    exact ⟨by rw [HE.out]; rfl, below_two _ _ _⟩
  obtain ⟨b1, b2⟩ := empty_no h2
  by_cases h3 : xk = 2
  · have HE := Lib.hid (show needsGap ⟨xk, xs, xa⟩ ⟨yk, ys, ya⟩ = false from by unfold needsGap; rw [if_pos (by simp only; omega)])
    obtain ⟨c1, -⟩ := eqI h3
    clear h3
    go_enter Tryd.func30, Tryd.ntmps30
    go_wp2
    go_ret
    exact ⟨by rw [HE.out]; rfl, below_two _ _ _⟩
  obtain ⟨c1, -⟩ := neI h3
  by_cases h4 : xk = 1
  · have HE := Lib.hid (show needsGap ⟨xk, xs, xa⟩ ⟨yk, ys, ya⟩ = false from by unfold needsGap; rw [if_pos (by simp only; omega)])
    obtain ⟨d1, -⟩ := eqI h4
    clear h4 h3
    go_enter Tryd.func30, Tryd.ntmps30
    go_wp2
    go_ret
    exact ⟨by rw [HE.out]; rfl, below_two _ _ _⟩
  obtain ⟨d1, -⟩ := neI h4
  by_cases h5 : yk = 1
  · have HE := Lib.hid (show needsGap ⟨xk, xs, xa⟩ ⟨yk, ys, ya⟩ = false from by unfold needsGap; rw [if_pos (by simp only; omega)])
    obtain ⟨e1, -⟩ := eqI h5
    clear h5 h4 h3
    go_enter Tryd.func30, Tryd.ntmps30
    go_wp2
    go_ret
    exact ⟨by rw [HE.out]; rfl, below_two _ _ _⟩
  obtain ⟨e1, -⟩ := neI h5
  have hd : needsGap ⟨xk, xs, xa⟩ ⟨yk, ys, ya⟩ = if chars.isWord (byteZ xs ((xs.size : Int) - 1)) = true ∧ chars.isWord (byteZ ys 0) = true then true
      else if xk = 3 then (chars.isWord (byteZ ys 0) || byteZ ys 0 == 46)
      else if xk = 6 then (yk == 32)
      else if 30 ≤ xk ∧ xk ≤ 68 then decide ((xs.size : Int) < (ops.opAt (xs ++ ys) 0).2)
      else false := by
    unfold needsGap
    rw [if_neg (by simp only; omega)]
  have hx1 : xs.size ≤ 1048576 := by omega
  have hy1 : ys.size ≤ 1048576 := by omega
  have hxy : (xs ++ ys).size ≤ 1048576 := by rw [ByteArray.size_append]; omega
  have ka := fun w => run_string_add_sum (P := Tryd.prog) (w := w) xs ys (by omega)
  obtain ⟨P, hP⟩ : ∃ P, P = ops.opAt (xs ++ ys) 0 := ⟨_, rfl⟩
  rw [← hP] at hd
  have HP := Lib.hid hP
  obtain ⟨L, hL⟩ : ∃ L, L = byteZ xs ((xs.size : Int) - 1) := ⟨_, rfl⟩
  obtain ⟨Fb, hFb⟩ : ∃ Fb, Fb = byteZ ys 0 := ⟨_, rfl⟩
  rw [← hL, ← hFb] at hd
  have HL := Lib.hid hL
  have HCL := Lib.hid (show ∀ n : Nat, Calls Tryd.prog 57 #[.string xs, .int .i64 ((xs.size : Int) - 1)] (((w.alloc (.cells #[.int .i64 xk, .string xs, .int .i64 xa] 35)).alloc (.cells #[.int .i64 yk, .string ys, .int .i64 ya] 35)).drewN n) fun e w'' => e = .returned (.int .i64 L) ∧ ∃ m, w'' = ((w.alloc (.cells #[.int .i64 xk, .string xs, .int .i64 xa] 35)).alloc (.cells #[.int .i64 yk, .string ys, .int .i64 ya] 35)).drewN m from fun n => Calls.quiet_of_same ((impl_byte xs _ _ hx1).mono fun _ _ h => ⟨by rw [hL]; exact h.1, h.2.symm⟩))
  have HCF := Lib.hid (show ∀ n : Nat, Calls Tryd.prog 57 #[.string ys, .int .i64 0] (((w.alloc (.cells #[.int .i64 xk, .string xs, .int .i64 xa] 35)).alloc (.cells #[.int .i64 yk, .string ys, .int .i64 ya] 35)).drewN n) fun e w'' => e = .returned (.int .i64 Fb) ∧ ∃ m, w'' = ((w.alloc (.cells #[.int .i64 xk, .string xs, .int .i64 xa] 35)).alloc (.cells #[.int .i64 yk, .string ys, .int .i64 ya] 35)).drewN m from fun n => Calls.quiet_of_same ((impl_byte ys _ _ hy1).mono fun _ _ h => ⟨by rw [hFb]; exact h.1, h.2.symm⟩))
  have HFb := Lib.hid hFb
  have HD := Lib.hid hd
  clear h1 h2 h3 h4 h5 hd hL hFb hP
  cases hwL : chars.isWord L
  · cases hwF : chars.isWord Fb
    · skip
      have HD2 := HD.out.trans (if_neg (by rintro ⟨q1, q2⟩; rw [hwL] at q1; cases q1))
      by_cases k3 : xk = 3
      · have HE := Lib.hid (show needsGap ⟨xk, xs, xa⟩ ⟨yk, ys, ya⟩ = (Fb == 46) by rw [HD2, if_pos k3, hwF]; simp)
        obtain ⟨z3, -⟩ := eqI k3
        clear k3 HD2
        go_enter Tryd.func30, Tryd.ntmps30
        go_wp2
        go_quiet ((first | (go_at_call_of 57 (Value.string xs); exact HCL.out _) | (go_at_call_of 57 (Value.string ys); exact HCF.out _)))
        go_wp2_with (first | (go_at_call 58; refine (chars.impl_word _ _).mono ?_; rintro e w' ⟨rfl, rfl⟩) | (go_at_call 59; refine (impl_isOp _ _).mono ?_; rintro e w' ⟨rfl, rfl⟩) | (go_at_call 60; refine (ops.impl_op _ 0 _ hxy (HH.out.below (below_boxes _ _ _ _))).mono ?_; rintro e w' ⟨he, rfl⟩; rw [← HP.out] at he; subst he))
        go_ret
        exact ⟨by rw [HE.out]; rfl, below_boxes _ _ _ _⟩
      obtain ⟨z3, -⟩ := neI k3
      by_cases k6 : xk = 6
      · by_cases y32 : yk = 32
        · have HE := Lib.hid (show needsGap ⟨xk, xs, xa⟩ ⟨yk, ys, ya⟩ = true by rw [HD2, if_neg k3, if_pos k6]; exact (eqI y32).1)
          obtain ⟨z6, -⟩ := eqI k6
          obtain ⟨z7, -⟩ := eqI y32
          clear k3 k6 HD2 y32
          go_enter Tryd.func30, Tryd.ntmps30
          go_wp2
          go_quiet ((first | (go_at_call_of 57 (Value.string xs); exact HCL.out _) | (go_at_call_of 57 (Value.string ys); exact HCF.out _)))
          go_wp2_with (first | (go_at_call 58; refine (chars.impl_word _ _).mono ?_; rintro e w' ⟨rfl, rfl⟩) | (go_at_call 59; refine (impl_isOp _ _).mono ?_; rintro e w' ⟨rfl, rfl⟩) | (go_at_call 60; refine (ops.impl_op _ 0 _ hxy (HH.out.below (below_boxes _ _ _ _))).mono ?_; rintro e w' ⟨he, rfl⟩; rw [← HP.out] at he; subst he))
          go_ret
          exact ⟨by rw [HE.out]; rfl, below_boxes _ _ _ _⟩
        · have HE := Lib.hid (show needsGap ⟨xk, xs, xa⟩ ⟨yk, ys, ya⟩ = false by rw [HD2, if_neg k3, if_pos k6]; exact (neI y32).1)
          have hnr : chars.inR xk 30 68 = false := by simp [chars.inR]; omega
          obtain ⟨z6, -⟩ := eqI k6
          obtain ⟨z7, -⟩ := neI y32
          clear k3 k6 HD2 y32
          go_enter Tryd.func30, Tryd.ntmps30
          go_wp2
          go_quiet ((first | (go_at_call_of 57 (Value.string xs); exact HCL.out _) | (go_at_call_of 57 (Value.string ys); exact HCF.out _)))
          go_wp2_with (first | (go_at_call 58; refine (chars.impl_word _ _).mono ?_; rintro e w' ⟨rfl, rfl⟩) | (go_at_call 59; refine (impl_isOp _ _).mono ?_; rintro e w' ⟨rfl, rfl⟩) | (go_at_call 60; refine (ops.impl_op _ 0 _ hxy (HH.out.below (below_boxes _ _ _ _))).mono ?_; rintro e w' ⟨he, rfl⟩; rw [← HP.out] at he; subst he))
          go_ret
          exact ⟨by rw [HE.out]; rfl, below_boxes _ _ _ _⟩
      obtain ⟨z6, -⟩ := neI k6
      by_cases kop : 30 ≤ xk ∧ xk ≤ 68
      · have HE := Lib.hid (show needsGap ⟨xk, xs, xa⟩ ⟨yk, ys, ya⟩ = decide ((xs.size : Int) < P.2) by rw [HD2, if_neg k3, if_neg k6, if_pos kop])
        have hnr : chars.inR xk 30 68 = true := by simp [chars.inR]; omega
        clear k3 k6 HD2 kop
        go_enter Tryd.func30, Tryd.ntmps30
        go_wp2
        go_quiet ((first | (go_at_call_of 57 (Value.string xs); exact HCL.out _) | (go_at_call_of 57 (Value.string ys); exact HCF.out _)))
        go_wp2_with (first | (go_at_call 58; refine (chars.impl_word _ _).mono ?_; rintro e w' ⟨rfl, rfl⟩) | (go_at_call 59; refine (impl_isOp _ _).mono ?_; rintro e w' ⟨rfl, rfl⟩) | (go_at_call 60; refine (ops.impl_op _ 0 _ hxy (HH.out.below (below_boxes _ _ _ _))).mono ?_; rintro e w' ⟨he, rfl⟩; rw [← HP.out] at he; subst he))
        go_ret
        exact ⟨by rw [HE.out]; rfl, below_boxes _ _ _ _⟩
      have HE := Lib.hid (show needsGap ⟨xk, xs, xa⟩ ⟨yk, ys, ya⟩ = false by rw [HD2, if_neg k3, if_neg k6, if_neg kop])
      have hnr : chars.inR xk 30 68 = false := by simp [chars.inR]; omega
      clear k3 k6 HD2 kop
      go_enter Tryd.func30, Tryd.ntmps30
      go_wp2
      go_quiet ((first | (go_at_call_of 57 (Value.string xs); exact HCL.out _) | (go_at_call_of 57 (Value.string ys); exact HCF.out _)))
      go_wp2_with (first | (go_at_call 58; refine (chars.impl_word _ _).mono ?_; rintro e w' ⟨rfl, rfl⟩) | (go_at_call 59; refine (impl_isOp _ _).mono ?_; rintro e w' ⟨rfl, rfl⟩) | (go_at_call 60; refine (ops.impl_op _ 0 _ hxy (HH.out.below (below_boxes _ _ _ _))).mono ?_; rintro e w' ⟨he, rfl⟩; rw [← HP.out] at he; subst he))
      go_ret
      exact ⟨by rw [HE.out]; rfl, below_boxes _ _ _ _⟩
    · skip
      have HD2 := HD.out.trans (if_neg (by rintro ⟨q1, q2⟩; rw [hwL] at q1; cases q1))
      by_cases k3 : xk = 3
      · have HE := Lib.hid (show needsGap ⟨xk, xs, xa⟩ ⟨yk, ys, ya⟩ = true by rw [HD2, if_pos k3, hwF]; simp)
        obtain ⟨z3, -⟩ := eqI k3
        clear k3 HD2
        go_enter Tryd.func30, Tryd.ntmps30
        go_wp2
        go_quiet ((first | (go_at_call_of 57 (Value.string xs); exact HCL.out _) | (go_at_call_of 57 (Value.string ys); exact HCF.out _)))
        go_wp2_with (first | (go_at_call 58; refine (chars.impl_word _ _).mono ?_; rintro e w' ⟨rfl, rfl⟩) | (go_at_call 59; refine (impl_isOp _ _).mono ?_; rintro e w' ⟨rfl, rfl⟩) | (go_at_call 60; refine (ops.impl_op _ 0 _ hxy (HH.out.below (below_boxes _ _ _ _))).mono ?_; rintro e w' ⟨he, rfl⟩; rw [← HP.out] at he; subst he))
        go_ret
        exact ⟨by rw [HE.out]; rfl, below_boxes _ _ _ _⟩
      obtain ⟨z3, -⟩ := neI k3
      by_cases k6 : xk = 6
      · by_cases y32 : yk = 32
        · have HE := Lib.hid (show needsGap ⟨xk, xs, xa⟩ ⟨yk, ys, ya⟩ = true by rw [HD2, if_neg k3, if_pos k6]; exact (eqI y32).1)
          obtain ⟨z6, -⟩ := eqI k6
          obtain ⟨z7, -⟩ := eqI y32
          clear k3 k6 HD2 y32
          go_enter Tryd.func30, Tryd.ntmps30
          go_wp2
          go_quiet ((first | (go_at_call_of 57 (Value.string xs); exact HCL.out _) | (go_at_call_of 57 (Value.string ys); exact HCF.out _)))
          go_wp2_with (first | (go_at_call 58; refine (chars.impl_word _ _).mono ?_; rintro e w' ⟨rfl, rfl⟩) | (go_at_call 59; refine (impl_isOp _ _).mono ?_; rintro e w' ⟨rfl, rfl⟩) | (go_at_call 60; refine (ops.impl_op _ 0 _ hxy (HH.out.below (below_boxes _ _ _ _))).mono ?_; rintro e w' ⟨he, rfl⟩; rw [← HP.out] at he; subst he))
          go_ret
          exact ⟨by rw [HE.out]; rfl, below_boxes _ _ _ _⟩
        · have HE := Lib.hid (show needsGap ⟨xk, xs, xa⟩ ⟨yk, ys, ya⟩ = false by rw [HD2, if_neg k3, if_pos k6]; exact (neI y32).1)
          have hnr : chars.inR xk 30 68 = false := by simp [chars.inR]; omega
          obtain ⟨z6, -⟩ := eqI k6
          obtain ⟨z7, -⟩ := neI y32
          clear k3 k6 HD2 y32
          go_enter Tryd.func30, Tryd.ntmps30
          go_wp2
          go_quiet ((first | (go_at_call_of 57 (Value.string xs); exact HCL.out _) | (go_at_call_of 57 (Value.string ys); exact HCF.out _)))
          go_wp2_with (first | (go_at_call 58; refine (chars.impl_word _ _).mono ?_; rintro e w' ⟨rfl, rfl⟩) | (go_at_call 59; refine (impl_isOp _ _).mono ?_; rintro e w' ⟨rfl, rfl⟩) | (go_at_call 60; refine (ops.impl_op _ 0 _ hxy (HH.out.below (below_boxes _ _ _ _))).mono ?_; rintro e w' ⟨he, rfl⟩; rw [← HP.out] at he; subst he))
          go_ret
          exact ⟨by rw [HE.out]; rfl, below_boxes _ _ _ _⟩
      obtain ⟨z6, -⟩ := neI k6
      by_cases kop : 30 ≤ xk ∧ xk ≤ 68
      · have HE := Lib.hid (show needsGap ⟨xk, xs, xa⟩ ⟨yk, ys, ya⟩ = decide ((xs.size : Int) < P.2) by rw [HD2, if_neg k3, if_neg k6, if_pos kop])
        have hnr : chars.inR xk 30 68 = true := by simp [chars.inR]; omega
        clear k3 k6 HD2 kop
        go_enter Tryd.func30, Tryd.ntmps30
        go_wp2
        go_quiet ((first | (go_at_call_of 57 (Value.string xs); exact HCL.out _) | (go_at_call_of 57 (Value.string ys); exact HCF.out _)))
        go_wp2_with (first | (go_at_call 58; refine (chars.impl_word _ _).mono ?_; rintro e w' ⟨rfl, rfl⟩) | (go_at_call 59; refine (impl_isOp _ _).mono ?_; rintro e w' ⟨rfl, rfl⟩) | (go_at_call 60; refine (ops.impl_op _ 0 _ hxy (HH.out.below (below_boxes _ _ _ _))).mono ?_; rintro e w' ⟨he, rfl⟩; rw [← HP.out] at he; subst he))
        go_ret
        exact ⟨by rw [HE.out]; rfl, below_boxes _ _ _ _⟩
      have HE := Lib.hid (show needsGap ⟨xk, xs, xa⟩ ⟨yk, ys, ya⟩ = false by rw [HD2, if_neg k3, if_neg k6, if_neg kop])
      have hnr : chars.inR xk 30 68 = false := by simp [chars.inR]; omega
      clear k3 k6 HD2 kop
      go_enter Tryd.func30, Tryd.ntmps30
      go_wp2
      go_quiet ((first | (go_at_call_of 57 (Value.string xs); exact HCL.out _) | (go_at_call_of 57 (Value.string ys); exact HCF.out _)))
      go_wp2_with (first | (go_at_call 58; refine (chars.impl_word _ _).mono ?_; rintro e w' ⟨rfl, rfl⟩) | (go_at_call 59; refine (impl_isOp _ _).mono ?_; rintro e w' ⟨rfl, rfl⟩) | (go_at_call 60; refine (ops.impl_op _ 0 _ hxy (HH.out.below (below_boxes _ _ _ _))).mono ?_; rintro e w' ⟨he, rfl⟩; rw [← HP.out] at he; subst he))
      go_ret
      exact ⟨by rw [HE.out]; rfl, below_boxes _ _ _ _⟩
  · cases hwF : chars.isWord Fb
    · skip
      have HD2 := HD.out.trans (if_neg (by rintro ⟨q1, q2⟩; rw [hwF] at q2; cases q2))
      by_cases k3 : xk = 3
      · have HE := Lib.hid (show needsGap ⟨xk, xs, xa⟩ ⟨yk, ys, ya⟩ = (Fb == 46) by rw [HD2, if_pos k3, hwF]; simp)
        obtain ⟨z3, -⟩ := eqI k3
        clear k3 HD2
        go_enter Tryd.func30, Tryd.ntmps30
        go_wp2
        go_quiet ((first | (go_at_call_of 57 (Value.string xs); exact HCL.out _) | (go_at_call_of 57 (Value.string ys); exact HCF.out _)))
        go_wp2_with (first | (go_at_call 58; refine (chars.impl_word _ _).mono ?_; rintro e w' ⟨rfl, rfl⟩) | (go_at_call 59; refine (impl_isOp _ _).mono ?_; rintro e w' ⟨rfl, rfl⟩) | (go_at_call 60; refine (ops.impl_op _ 0 _ hxy (HH.out.below (below_boxes _ _ _ _))).mono ?_; rintro e w' ⟨he, rfl⟩; rw [← HP.out] at he; subst he))
        go_ret
        exact ⟨by rw [HE.out]; rfl, below_boxes _ _ _ _⟩
      obtain ⟨z3, -⟩ := neI k3
      by_cases k6 : xk = 6
      · by_cases y32 : yk = 32
        · have HE := Lib.hid (show needsGap ⟨xk, xs, xa⟩ ⟨yk, ys, ya⟩ = true by rw [HD2, if_neg k3, if_pos k6]; exact (eqI y32).1)
          obtain ⟨z6, -⟩ := eqI k6
          obtain ⟨z7, -⟩ := eqI y32
          clear k3 k6 HD2 y32
          go_enter Tryd.func30, Tryd.ntmps30
          go_wp2
          go_quiet ((first | (go_at_call_of 57 (Value.string xs); exact HCL.out _) | (go_at_call_of 57 (Value.string ys); exact HCF.out _)))
          go_wp2_with (first | (go_at_call 58; refine (chars.impl_word _ _).mono ?_; rintro e w' ⟨rfl, rfl⟩) | (go_at_call 59; refine (impl_isOp _ _).mono ?_; rintro e w' ⟨rfl, rfl⟩) | (go_at_call 60; refine (ops.impl_op _ 0 _ hxy (HH.out.below (below_boxes _ _ _ _))).mono ?_; rintro e w' ⟨he, rfl⟩; rw [← HP.out] at he; subst he))
          go_ret
          exact ⟨by rw [HE.out]; rfl, below_boxes _ _ _ _⟩
        · have HE := Lib.hid (show needsGap ⟨xk, xs, xa⟩ ⟨yk, ys, ya⟩ = false by rw [HD2, if_neg k3, if_pos k6]; exact (neI y32).1)
          have hnr : chars.inR xk 30 68 = false := by simp [chars.inR]; omega
          obtain ⟨z6, -⟩ := eqI k6
          obtain ⟨z7, -⟩ := neI y32
          clear k3 k6 HD2 y32
          go_enter Tryd.func30, Tryd.ntmps30
          go_wp2
          go_quiet ((first | (go_at_call_of 57 (Value.string xs); exact HCL.out _) | (go_at_call_of 57 (Value.string ys); exact HCF.out _)))
          go_wp2_with (first | (go_at_call 58; refine (chars.impl_word _ _).mono ?_; rintro e w' ⟨rfl, rfl⟩) | (go_at_call 59; refine (impl_isOp _ _).mono ?_; rintro e w' ⟨rfl, rfl⟩) | (go_at_call 60; refine (ops.impl_op _ 0 _ hxy (HH.out.below (below_boxes _ _ _ _))).mono ?_; rintro e w' ⟨he, rfl⟩; rw [← HP.out] at he; subst he))
          go_ret
          exact ⟨by rw [HE.out]; rfl, below_boxes _ _ _ _⟩
      obtain ⟨z6, -⟩ := neI k6
      by_cases kop : 30 ≤ xk ∧ xk ≤ 68
      · have HE := Lib.hid (show needsGap ⟨xk, xs, xa⟩ ⟨yk, ys, ya⟩ = decide ((xs.size : Int) < P.2) by rw [HD2, if_neg k3, if_neg k6, if_pos kop])
        have hnr : chars.inR xk 30 68 = true := by simp [chars.inR]; omega
        clear k3 k6 HD2 kop
        go_enter Tryd.func30, Tryd.ntmps30
        go_wp2
        go_quiet ((first | (go_at_call_of 57 (Value.string xs); exact HCL.out _) | (go_at_call_of 57 (Value.string ys); exact HCF.out _)))
        go_wp2_with (first | (go_at_call 58; refine (chars.impl_word _ _).mono ?_; rintro e w' ⟨rfl, rfl⟩) | (go_at_call 59; refine (impl_isOp _ _).mono ?_; rintro e w' ⟨rfl, rfl⟩) | (go_at_call 60; refine (ops.impl_op _ 0 _ hxy (HH.out.below (below_boxes _ _ _ _))).mono ?_; rintro e w' ⟨he, rfl⟩; rw [← HP.out] at he; subst he))
        go_ret
        exact ⟨by rw [HE.out]; rfl, below_boxes _ _ _ _⟩
      have HE := Lib.hid (show needsGap ⟨xk, xs, xa⟩ ⟨yk, ys, ya⟩ = false by rw [HD2, if_neg k3, if_neg k6, if_neg kop])
      have hnr : chars.inR xk 30 68 = false := by simp [chars.inR]; omega
      clear k3 k6 HD2 kop
      go_enter Tryd.func30, Tryd.ntmps30
      go_wp2
      go_quiet ((first | (go_at_call_of 57 (Value.string xs); exact HCL.out _) | (go_at_call_of 57 (Value.string ys); exact HCF.out _)))
      go_wp2_with (first | (go_at_call 58; refine (chars.impl_word _ _).mono ?_; rintro e w' ⟨rfl, rfl⟩) | (go_at_call 59; refine (impl_isOp _ _).mono ?_; rintro e w' ⟨rfl, rfl⟩) | (go_at_call 60; refine (ops.impl_op _ 0 _ hxy (HH.out.below (below_boxes _ _ _ _))).mono ?_; rintro e w' ⟨he, rfl⟩; rw [← HP.out] at he; subst he))
      go_ret
      exact ⟨by rw [HE.out]; rfl, below_boxes _ _ _ _⟩
    · have HE := Lib.hid (show needsGap ⟨xk, xs, xa⟩ ⟨yk, ys, ya⟩ = true by rw [HD.out, if_pos ⟨hwL, hwF⟩])
      go_enter Tryd.func30, Tryd.ntmps30
      go_wp2
      go_quiet ((first | (go_at_call_of 57 (Value.string xs); exact HCL.out _) | (go_at_call_of 57 (Value.string ys); exact HCF.out _)))
      go_wp2_with (first | (go_at_call 58; refine (chars.impl_word _ _).mono ?_; rintro e w' ⟨rfl, rfl⟩) | (go_at_call 59; refine (impl_isOp _ _).mono ?_; rintro e w' ⟨rfl, rfl⟩) | (go_at_call 60; refine (ops.impl_op _ 0 _ hxy (HH.out.below (below_boxes _ _ _ _))).mono ?_; rintro e w' ⟨he, rfl⟩; rw [← HP.out] at he; subst he))
      go_ret
      exact ⟨by rw [HE.out]; rfl, below_boxes _ _ _ _⟩
end Go.Proofs.YtlbloemmabjmoaaDoor.gap
