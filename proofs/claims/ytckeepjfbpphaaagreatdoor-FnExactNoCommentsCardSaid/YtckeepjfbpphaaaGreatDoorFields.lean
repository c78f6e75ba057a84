/-
  Right nodes: the model's fields and limits, FieldsOk of both sides: contracts.
-/
import Derived.Test.YtckeepjfbpphaaaGreatDoorRight
namespace Go.Proofs.YtckeepjfbpphaaaGreatDoor.rt
open Go.ChangeShapes Go.WideShapes Go.ChangeAt Go.RowKit
open chars (inR)
open spell (Held nameOk)
open toks (isBuiltin)
open tok (tokOk below_box)
set_option linter.unusedVariables false
set_option maxRecDepth 20000
set_option linter.unusedSimpArgs false


set_option maxHeartbeats 1600000 in
theorem spec_text (k op : Int) (s t : ByteArray) (a : Option Addr) (n cap : Nat) (w : World) (hs : s.size ≤ 1048576) (ht : t.size ≤ 1048576) : Calls Tryz.prog 37 #[.agg #[.int .i64 k, .int .i64 op, .string s, .string t, .slice a n cap]] w fun e w' => e = .returned (.bool (textOk k s && otherOk k t)) ∧ Below w.heap.size w w' := by
  by_cases h32 : k = 32
  · subst h32
    have HS := Bx.start w 32 op s t (.slice a n cap) 36
    cases hn : nameOk s
    · go_enter Tryz.func37, Tryz.ntmps37
      go_wp2_with fail
      refine (spell.spec_name s _ hs).mono ?_
      rw [hn]
      rintro e w1 ⟨rfl, b1⟩
      go_wp2
      go_ret
      exact ⟨congrArg (fun b => Ending.returned (Value.bool b)) (by simp [textOk, hn]), (HS.keep b1).b⟩
    · go_enter Tryz.func37, Tryz.ntmps37
      go_wp2_with fail
      refine (spell.spec_name s _ hs).mono ?_
      rw [hn]
      rintro e w1 ⟨rfl, b1⟩
      obtain ⟨c0, c1, c2, c3, c4, bb, lt⟩ := HS.keep b1
      go_wp2_with fail
      refine (spell.spec_name t _ ht).mono ?_
      rintro e w2 ⟨rfl, b2⟩
      go_wp2
      go_ret
      exact ⟨congrArg (fun b => Ending.returned (Value.bool b)) (by simp [textOk, otherOk, hn]), bb.trans (b2.mono (Nat.le_of_lt lt))⟩
  obtain ⟨d32, -⟩ := ne_facts h32
  have HS := Bx.start w k op s t (.slice a n cap) 36
  go_enter Tryz.func37, Tryz.ntmps37
  go_wp2_with (first | (go_at_call 51; refine (spell.spec_name s _ hs).mono ?_; rintro e w1 ⟨rfl, b1⟩; obtain ⟨c0, c1, c2, c3, c4, bb, lt⟩ := HS.keep b1) | (go_at_call 53; refine (toks.spec_builtin s _).mono ?_; rintro e w1 ⟨rfl, b1⟩; obtain ⟨c0, c1, c2, c3, c4, bb, lt⟩ := HS.keep b1) | (go_at_call 52; refine (tok.spec_tok _ _ s _ hs).mono ?_; rintro e w1 ⟨rfl, b1⟩; obtain ⟨c0, c1, c2, c3, c4, bb, lt⟩ := HS.keep b1))
  all_goals
    go_ret
    exact ⟨congrArg (fun b => Ending.returned (Value.bool b)) (by clear HS; simp_all [textOk, otherOk]), by first | exact below_box _ _ | assumption⟩

set_option maxHeartbeats 3200000 in
theorem spec_many (k op : Int) (s t : ByteArray) (a : Option Addr) (n cap : Nat) (w : World) (hn : n ≤ 1048576) : Calls Tryz.prog 35 #[.agg #[.int .i64 k, .int .i64 op, .string s, .string t, .slice a n cap]] w fun e w' => (∃ x y : Int, e = .returned (.tuple #[.int .i64 x, .int .i64 y]) ∧ (opOk k op = true → x = (lim n k op t).1 ∧ y = (lim n k op t).2)) ∧ Below w.heap.size w w' := by
  by_cases h33 : k = 33 ∨ k = 45
  · have hl : lim n k op t = (0, (n : Int)) := by unfold lim; rw [if_pos h33]
    rcases h33 with rfl | rfl
    all_goals
      go_enter Tryz.func35, Tryz.ntmps35
      go_wp2
      go_quiet (fail)
      go_wp2
      go_ret2
      exact ⟨⟨_, _, rfl, fun _ => by rw [hl]; exact ⟨rfl, rfl⟩⟩, tok.below_drewN (below_box _ _) _⟩
  obtain ⟨d33, -⟩ := ne_facts (fun e => h33 (.inl e))
  obtain ⟨d45, -⟩ := ne_facts (fun e => h33 (.inr e))
  by_cases ho : opOk k op = true
  · by_cases h42 : k = 42
    · subst h42
      have : op = 1 ∨ op = 2 ∨ op = 3 := by simp [opOk, inR] at ho; omega
      clear ho
      rcases this with rfl | rfl | rfl
      all_goals
        go_enter Tryz.func35, Tryz.ntmps35
        go_wp2
        go_quiet (fail)
        go_wp2
        go_ret2
        exact ⟨⟨_, _, rfl, fun _ => by simp [lim, lim0]⟩, tok.below_drewN (below_box _ _) _⟩
    by_cases h43 : k = 43
    · subst h43
      have : op = 1 ∨ op = 3 := by simp [opOk] at ho; omega
      clear ho
      rcases this with rfl | rfl
      all_goals
        go_enter Tryz.func35, Tryz.ntmps35
        go_wp2
        go_quiet (fail)
        go_wp2
        go_ret2
        exact ⟨⟨_, _, rfl, fun _ => by simp [lim, lim0]⟩, tok.below_drewN (below_box _ _) _⟩
    by_cases h21 : k = 21
    · subst h21
      obtain ⟨o0, o1⟩ := op_print ho
      clear ho
      go_enter Tryz.func35, Tryz.ntmps35
      go_wp2
      all_goals
        go_ret2
        exact ⟨⟨_, _, rfl, fun _ => by simp_all [lim, lim0]⟩, below_box _ _⟩
    obtain ⟨d42, -⟩ := ne_facts h42
    obtain ⟨d43, -⟩ := ne_facts h43
    obtain ⟨d21, -⟩ := ne_facts h21
    clear ho
    go_enter Tryz.func35, Tryz.ntmps35
    go_wp2
    all_goals
      first
        | (exfalso; simp_all; done)
        | (go_ret2; exact ⟨⟨_, _, rfl, fun _ => by simp_all [lim, lim0]⟩, below_box _ _⟩)
  · have HO := Lib.hid ho
    clear ho
    by_cases h42 : k = 42 ∨ k = 43
    · rcases h42 with rfl | rfl
      all_goals
        go_enter Tryz.func35, Tryz.ntmps35
        go_wp2
        go_quiet (fail)
        go_wp2
        go_ret2
        exact ⟨⟨_, _, rfl, fun h => absurd h HO.out⟩, tok.below_drewN (below_box _ _) _⟩
    obtain ⟨d42, -⟩ := ne_facts (fun e => h42 (.inl e))
    obtain ⟨d43, -⟩ := ne_facts (fun e => h42 (.inr e))
    go_enter Tryz.func35, Tryz.ntmps35
    go_wp2
    all_goals
      first
        | (exfalso; simp_all; done)
        | (go_ret2; exact ⟨⟨_, _, rfl, fun h => absurd h HO.out⟩, below_box _ _⟩)

set_option maxHeartbeats 3200000 in
theorem impl_fields (k op : Int) (s t : ByteArray) (a : Option Addr) (n cap : Nat) (w : World) (hs : s.size ≤ 1048576) (ht : t.size ≤ 1048576) (hn : n ≤ 1048576) (hh : Held w) : Calls Tryz.prog 30 #[.agg #[.int .i64 k, .int .i64 op, .string s, .string t, .slice a n cap]] w fun e w' => e = .returned (.bool (fieldsOk k op s t n)) ∧ Below w.heap.size w w' := by
  have HH := Lib.hid hh
  clear hh
  have HS := Bx.start w k op s t (.slice a n cap) 36
  have hnn : (n : Int) ≤ 9223372036854775807 := by omega
  cases e0 : isNode k
  · go_enter Tryz.func30, Tryz.ntmps30
    go_wp2_with fail
    refine (impl_node k _).mono ?_
    rw [e0]
    rintro e w' ⟨rfl, rfl⟩
    go_wp2
    go_ret
    exact ⟨congrArg (fun b => Ending.returned (Value.bool b)) (by simp [fieldsOk, e0]), HS.b⟩
  · cases e1 : opOk k op
    · go_enter Tryz.func30, Tryz.ntmps30
      go_wp2_with fail
      refine (impl_node k _).mono ?_
      rw [e0]
      rintro e w' ⟨rfl, rfl⟩
      go_wp2_with fail
      refine (impl_opK k op s t a n cap _).mono ?_
      rw [e1]
      rintro e w1 ⟨rfl, b1⟩
      have B1 := Lib.hid (HS.keep b1)
      obtain ⟨c10, c11, c12, c13, c14, -, -⟩ := B1.out
      go_wp2
      go_ret
      exact ⟨congrArg (fun b => Ending.returned (Value.bool b)) (by simp [fieldsOk, e0, e1]), B1.out.b⟩
    · cases e2 : textOk k s
      · go_enter Tryz.func30, Tryz.ntmps30
        go_wp2_with fail
        refine (impl_node k _).mono ?_
        rw [e0]
        rintro e w' ⟨rfl, rfl⟩
        go_wp2_with fail
        refine (impl_opK k op s t a n cap _).mono ?_
        rw [e1]
        rintro e w1 ⟨rfl, b1⟩
        have B1 := Lib.hid (HS.keep b1)
        obtain ⟨c10, c11, c12, c13, c14, -, -⟩ := B1.out
        go_wp2_with fail
        refine (impl_text k op s t a n cap _ hs (HH.out.below B1.out.b)).mono ?_
        rw [e2]
        rintro e w2 ⟨rfl, b2⟩
        have B2 := Lib.hid (B1.out.keep b2)
        obtain ⟨c20, c21, c22, c23, c24, -, -⟩ := B2.out
        go_wp2
        go_ret
        exact ⟨congrArg (fun b => Ending.returned (Value.bool b)) (by simp [fieldsOk, e0, e1, e2]), B2.out.b⟩
      · cases e3 : otherOk k t
        · go_enter Tryz.func30, Tryz.ntmps30
          go_wp2_with fail
          refine (impl_node k _).mono ?_
          rw [e0]
          rintro e w' ⟨rfl, rfl⟩
          go_wp2_with fail
          refine (impl_opK k op s t a n cap _).mono ?_
          rw [e1]
          rintro e w1 ⟨rfl, b1⟩
          have B1 := Lib.hid (HS.keep b1)
          obtain ⟨c10, c11, c12, c13, c14, -, -⟩ := B1.out
          go_wp2_with fail
          refine (impl_text k op s t a n cap _ hs (HH.out.below B1.out.b)).mono ?_
          rw [e2]
          rintro e w2 ⟨rfl, b2⟩
          have B2 := Lib.hid (B1.out.keep b2)
          obtain ⟨c20, c21, c22, c23, c24, -, -⟩ := B2.out
          go_wp2_with fail
          refine (impl_other k op s t a n cap _ ht (HH.out.below B2.out.b)).mono ?_
          rw [e3]
          rintro e w3 ⟨rfl, b3⟩
          have B3 := Lib.hid (B2.out.keep b3)
          obtain ⟨c30, c31, c32, c33, c34, -, -⟩ := B3.out
          go_wp2
          go_ret
          exact ⟨congrArg (fun b => Ending.returned (Value.bool b)) (by simp [fieldsOk, e0, e1, e2, e3]), B3.out.b⟩
        · have HM := Lib.hid (many_max (k := k) (op := op) (t := t) hnn)
          obtain ⟨x, hx⟩ : ∃ x, x = (lim 9223372036854775807 k op t).1 := ⟨_, rfl⟩
          obtain ⟨y, hy⟩ : ∃ y, y = (lim 9223372036854775807 k op t).2 := ⟨_, rfl⟩
          have HX := Lib.hid hx
          have HY := Lib.hid hy
          clear hx hy
          go_enter Tryz.func30, Tryz.ntmps30
          go_wp2_with fail
          refine (impl_node k _).mono ?_
          rw [e0]
          rintro e w' ⟨rfl, rfl⟩
          go_wp2_with fail
          refine (impl_opK k op s t a n cap _).mono ?_
          rw [e1]
          rintro e w1 ⟨rfl, b1⟩
          have B1 := Lib.hid (HS.keep b1)
          obtain ⟨c10, c11, c12, c13, c14, -, -⟩ := B1.out
          go_wp2_with fail
          refine (impl_text k op s t a n cap _ hs (HH.out.below B1.out.b)).mono ?_
          rw [e2]
          rintro e w2 ⟨rfl, b2⟩
          have B2 := Lib.hid (B1.out.keep b2)
          obtain ⟨c20, c21, c22, c23, c24, -, -⟩ := B2.out
          go_wp2_with fail
          refine (impl_other k op s t a n cap _ ht (HH.out.below B2.out.b)).mono ?_
          rw [e3]
          rintro e w3 ⟨rfl, b3⟩
          have B3 := Lib.hid (B2.out.keep b3)
          obtain ⟨c30, c31, c32, c33, c34, -, -⟩ := B3.out
          go_wp2_with fail
          refine (impl_lim k op s t a n cap _ e1).mono ?_
          rw [← HX.out, ← HY.out]
          rintro e w4 ⟨rfl, b4⟩
          have B4 := Lib.hid (B3.out.keep b4)
          obtain ⟨c40, c41, c42, c43, c44, -, -⟩ := B4.out
          go_wp2
          all_goals
            go_ret
            exact ⟨congrArg (fun b => Ending.returned (Value.bool b)) (by rw [fieldsOk, e0, e1, e2, e3, HM.out, ← HX.out, ← HY.out]; first | (simp_all; done) | (simp_all; omega)), B4.out.b⟩

set_option maxHeartbeats 3200000 in
theorem spec_fields (k op : Int) (s t : ByteArray) (a : Option Addr) (n cap : Nat) (w : World) (hs : s.size ≤ 1048576) (ht : t.size ≤ 1048576) (hn : n ≤ 1048576) : Calls Tryz.prog 24 #[.agg #[.int .i64 k, .int .i64 op, .string s, .string t, .slice a n cap]] w fun e w' => e = .returned (.bool (fieldsOk k op s t n)) ∧ Below w.heap.size w w' := by
  have HS := Bx.start w k op s t (.slice a n cap) 36
  have HI := Lib.hid (node_in k)
  go_enter Tryz.func24, Tryz.ntmps24
  go_wp2_with fail
  refine (spec_many k op s t a n cap _ hn).mono ?_
  rintro e w0 ⟨⟨x, y, rfl, hxy⟩, b0⟩
  have HXY := Lib.hid hxy
  have B0 := Lib.hid (HS.keep b0)
  obtain ⟨c00, c01, c02, c03, c04, -, -⟩ := B0.out
  clear hxy
  cases e0 : isNode k
  · have HZ := Lib.hid (HI.out.symm.trans e0)
    go_wp2_with (go_at_call 33; refine (chars.spec_in _ _ _ _).mono ?_; rintro e w' ⟨rfl, rfl⟩)
    all_goals
      first
        | (exfalso; have := HZ.out; simp_all; done)
        | (go_ret; exact ⟨congrArg (fun b => Ending.returned (Value.bool b)) (by have := HZ.out; simp_all [fieldsOk]), B0.out.b⟩)
  have HZ := Lib.hid (HI.out.symm.trans e0)
  have HF := Lib.hid (show fieldsOk k op s t n = (opOk k op && (textOk k s && otherOk k t) && many k op t n) by unfold fieldsOk; rw [e0]; simp [Bool.and_assoc])
  have HMy := Lib.hid (show many k op t n = inR n (lim n k op t).1 (lim n k op t).2 from rfl)
  clear e0
  cases e1 : opOk k op
  · have HY := Lib.hid (show fieldsOk k op s t n = false by rw [HF.out, e1]; rfl)
    go_wp2_with (first | (go_at_call 33; refine (chars.spec_in _ _ _ _).mono ?_; rintro e w' ⟨rfl, rfl⟩) | (go_at_call 36; refine (spec_opK k op s t a n cap _).mono ?_; rw [e1]; rintro e w1 ⟨rfl, b1⟩; have B1 := Lib.hid (B0.out.keep b1); obtain ⟨c10, c11, c12, c13, c14, -, -⟩ := B1.out))
    all_goals
      first
        | (exfalso; have := HZ.out; simp_all; done)
        | (go_ret; exact ⟨congrArg (fun b => Ending.returned (Value.bool b)) (by rw [HY.out]), (by assumption : Hid (Bx w _ k op s t _)).out.b⟩)
  obtain ⟨rfl, rfl⟩ := HXY.out e1
  obtain ⟨x, hx⟩ : ∃ x, x = (lim n k op t).1 := ⟨_, rfl⟩
  obtain ⟨y, hy⟩ : ∃ y, y = (lim n k op t).2 := ⟨_, rfl⟩
  rw [← hx, ← hy]
  have HX := Lib.hid hx
  have HY := Lib.hid hy
  clear hx hy
  cases e2 : (textOk k s && otherOk k t)
  · have HQ := Lib.hid (show fieldsOk k op s t n = false by rw [HF.out, e2, Bool.and_false]; rfl)
    go_wp2_with (first | (go_at_call 33; refine (chars.spec_in _ _ _ _).mono ?_; rintro e w' ⟨rfl, rfl⟩) | (go_at_call 36; refine (spec_opK k op s t a n cap _).mono ?_; rw [e1]; rintro e w1 ⟨rfl, b1⟩; have B1 := Lib.hid (B0.out.keep b1); obtain ⟨c10, c11, c12, c13, c14, -, -⟩ := B1.out) | (go_at_call 37; refine (spec_text k op s t a n cap _ hs ht).mono ?_; rw [e2]; rintro e w2 ⟨rfl, b2⟩; have B2 := Lib.hid ((by assumption : Hid (Bx w _ k op s t _)).out.keep b2); obtain ⟨c20, c21, c22, c23, c24, -, -⟩ := B2.out))
    all_goals
      first
        | (exfalso; have := HZ.out; simp_all; done)
        | (go_ret; exact ⟨congrArg (fun b => Ending.returned (Value.bool b)) (by rw [HQ.out]), (by assumption : Hid (Bx w _ k op s t _)).out.b⟩)
  · have HQ := Lib.hid (show fieldsOk k op s t n = inR n x y by rw [HF.out, e1, e2, HMy.out, HX.out, HY.out]; rfl)
    go_wp2_with (first | (go_at_call 33; refine (chars.spec_in _ _ _ _).mono ?_; rintro e w' ⟨rfl, rfl⟩) | (go_at_call 36; refine (spec_opK k op s t a n cap _).mono ?_; rw [e1]; rintro e w1 ⟨rfl, b1⟩; have B1 := Lib.hid (B0.out.keep b1); obtain ⟨c10, c11, c12, c13, c14, -, -⟩ := B1.out) | (go_at_call 37; refine (spec_text k op s t a n cap _ hs ht).mono ?_; rw [e2]; rintro e w2 ⟨rfl, b2⟩; have B2 := Lib.hid ((by assumption : Hid (Bx w _ k op s t _)).out.keep b2); obtain ⟨c20, c21, c22, c23, c24, -, -⟩ := B2.out))
    all_goals
      first
        | (exfalso; have := HZ.out; simp_all; done)
        | (go_ret; exact ⟨congrArg (fun b => Ending.returned (Value.bool b)) (by rw [HQ.out]), (by assumption : Hid (Bx w _ k op s t _)).out.b⟩)
end Go.Proofs.YtckeepjfbpphaaaGreatDoor.rt
