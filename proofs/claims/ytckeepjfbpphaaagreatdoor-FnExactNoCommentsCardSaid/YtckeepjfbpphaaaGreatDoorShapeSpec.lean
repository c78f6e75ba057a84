/-
  The model's ShapeOk and StartOf: contracts.
-/
import Derived.Test.YtckeepjfbpphaaaGreatDoorStartsSpec
namespace Go.Proofs.YtckeepjfbpphaaaGreatDoor.nd
open Go.ChangeShapes Go.WideShapes Go.ChangeAt Go.RowKit
set_option linter.unusedVariables false
set_option maxRecDepth 20000

set_option maxHeartbeats 800000 in
theorem spec_shape (l : List Nd) (a : Option Addr) (cap : Nat) (w : World) (hn : l.length ≤ 1048576) (hk : ∀ t ∈ l, t.kids.length ≤ 1048576) (hc : Lies w.heap.size w a l) :
    Calls Tryz.prog 22 #[.slice a l.length cap] w fun e w' => e = .returned (.bool (shape l)) ∧ Below w.heap.size w w' := by
  have HC := Lib.hid hc
  have HK := Lib.hid hk
  clear hc hk
  by_cases hin : 1 ≤ l.length ∧ l.length ≤ 400
  · have HI := Lib.hid (inR_yes (n := (l.length : Int)) (a := 1) (b := 400) (by omega) (by omega))
    have hlen := hin.1
    have HIN := Lib.hid hin
    cases hs : stF l []
    · have HS := Lib.hid (shape_no (stO_none hs))
      have HB := Lib.hid (show stB l = false by unfold stB; rw [hs]; rfl)
      clear hin hs
      go_enter Tryz.func22, Tryz.ntmps22
      go_wp2_with fail
      refine (spec_in _ _ _ _).mono ?_
      rintro e w2 ⟨he, rfl⟩
      rw [HI.out] at he
      subst he
      go_wp2_with fail
      refine (spec_starts l a cap _ hn HK.out HC.out).mono ?_
      rintro e w2 ⟨a2, c2, he, b2, i2⟩
      rw [HB.out] at he
      subst he
      go_wp2
      go_ret
      exact ⟨by rw [HS.out]; rfl, b2⟩
    · rename_i ss
      have HB := Lib.hid (show stB l = true by unfold stB; rw [hs]; rfl)
      have HR := Lib.hid (show stR l = ss by unfold stR; rw [hs]; rfl)
      have hsl : ss.length = l.length := by have := stF_len hs; simpa using this
      obtain ⟨n, hn0⟩ : ∃ n, l.length = n + 1 := ⟨l.length - 1, by omega⟩
      have hln : n < ss.length := by omega
      obtain ⟨S, hS⟩ : ∃ S, S = ss[n]'hln := ⟨_, rfl⟩
      have hget : ss.getD (l.length - 1) 0 = S := by
        rw [hS, hn0]; simp [hln]
      have HSH := Lib.hid (show shape l = ((S : Int) == 0) by
        by_cases h0 : S = 0
        · rw [shape_of (by omega) (by omega) hs (by rw [hget, h0]), h0]; rfl
        · rw [shape_no (stO_last hs (by rw [hget]; exact h0))]
          symm
          simp
          exact h0)
      have HS := Lib.hid hS
      have HL := Lib.hid hsl
      have HC0 := HC.out
      clear hin hs hget hS hlen
      rw [hn0] at hsl HI hn ⊢
      have i1 : (n : Int) < ((n : Int) + 1) := by omega
      have i0 : (0 : Int) ≤ (n : Int) := by omega
      go_enter Tryz.func22, Tryz.ntmps22
      go_wp2_with fail
      rw [show ((n : Int) + 1) = ((n + 1 : Nat) : Int) by omega]
      refine (spec_in _ _ _ _).mono ?_
      rintro e w2 ⟨he, rfl⟩
      rw [HI.out] at he
      subst he
      go_wp2_with fail
      rw [← hn0]
      refine (spec_starts l a cap _ (by omega) HK.out HC0).mono ?_
      rintro e w2 ⟨a2, c2, he, b2, i2⟩
      rw [HB.out, HR.out, HL.out, hn0] at he
      rw [HR.out] at i2
      subst he
      obtain ⟨b3, o3, rfl, _, hc3⟩ := ints_at i2 (I := n) (by rw [ints_len, HL.out]; omega)
      have c3 := hc3 n (by rw [ints_len, HL.out]; omega)
      rw [ints_get hln, ← HS.out] at c3
      have B2 := Lib.hid b2
      clear hc3 i2 b2
      go_wp2
      go_ret
      exact ⟨by rw [HSH.out]; rfl, B2.out⟩
  · have HI := Lib.hid (inR_no (n := (l.length : Int)) (a := 1) (b := 400) (by omega))
    have HS := Lib.hid (shape_no (stO_out (l := l) (by omega)))
    clear hin
    go_enter Tryz.func22, Tryz.ntmps22
    go_wp2_with fail
    refine (spec_in _ _ _ _).mono ?_
    rintro e w2 ⟨he, rfl⟩
    rw [HI.out] at he
    subst he
    go_wp2
    go_ret
    exact ⟨by rw [HS.out]; rfl, Below.refl _ _⟩

theorem start_no {l : List Nd} {i : Int} (h : shape l = false ∨ ¬ (0 ≤ i ∧ i ≤ (l.length : Int) - 1)) : startOf l i = -1 := by
  unfold startOf
  rw [if_neg]
  intro ⟨h0, h1⟩
  rcases h with h | h
  · unfold shape at h
    have := of_decide_eq_false h
    omega
  · cases hs : shape l
    · unfold shape at hs
      have := of_decide_eq_false hs
      omega
    · obtain ⟨_, _, _, hl, _⟩ := shape_yes hs
      omega
theorem start_yes {l : List Nd} {I : Nat} (h : shape l = true) (hI : I < l.length) : startOf l (I : Int) = (((stO l).getD I 0 : Nat) : Int) := by
  obtain ⟨_, _, _, hl, _⟩ := shape_yes h
  unfold startOf
  rw [if_pos ⟨by omega, by omega⟩]
  simp
end Go.Proofs.YtckeepjfbpphaaaGreatDoor.nd
