/-
  laws.at: a byte of a code, or one that follows from it: some number below 256.
-/
import Derived.Test.YtagonpjkohidkaaGreatDoorIsRow
namespace Go.Proofs.YtagonpjkohidkaaGreatDoor.draw
open Go.ChangeShapes Go.WideShapes Go.ChangeAt Go.RowKit
set_option linter.unusedVariables false
set_option linter.unusedSimpArgs false
set_option maxRecDepth 20000
theorem at_code {a : Option Addr} {len cap : Nat} {zs : List Int} (k : Nat) (hk : k ≤ 10) (w : World) (hc : draw.Code w.heap.size w a len zs) (hl : len ≤ 1048576) :
    Calls Tryz.prog 19 #[.slice a len cap, .int .i64 (k : Int)] w fun e w' => (∃ x : Nat, x < 256 ∧ e = .returned (.int .i64 (x : Int))) ∧ w = w' := by
  by_cases h : k < len
  · rcases hc with ⟨h1, h2, h3 | ⟨b, o, rfl, hb, h4⟩⟩
    · omega
    · have c0 := h4 k h
      have hx : 0 ≤ zs.getD k 0 ∧ zs.getD k 0 < 256 := by
        rw [List.getD_eq_getElem?_getD, List.getElem?_eq_getElem (by omega)]
        exact h2 _ (List.getElem_mem (by omega))
      obtain ⟨X, hX⟩ : ∃ X : Nat, zs.getD k 0 = (X : Int) := ⟨(zs.getD k 0).toNat, by omega⟩
      rw [hX] at c0 hx
      have hX2 : X < 256 := by omega
      have hk1 : (k : Int) < (len : Int) := by omega
      have hk0 : (0 : Int) ≤ (k : Int) := by omega
      clear h1 h2 h4 hX hb h
      go_enter Tryz.func19, Tryz.ntmps19
      go_wp2
      go_ret
      refine ⟨⟨X, hX2, ?_⟩, rfl⟩
      first | rfl | (congr 2; unfold IntKind.wrap; simp; omega) | simp
  · have hk1 : ¬ (k : Int) < (len : Int) := by omega
    clear hc
    obtain ⟨X, hX⟩ : ∃ X : Nat, X = (k * 37 + len * 11) % 256 := ⟨_, rfl⟩
    have hX2 : X < 256 := by omega
    have e1 : ((k : Int) * 37 + (len : Int) * 11).tmod 256 = (X : Int) := by rw [Int.tmod_eq_emod_of_nonneg (by omega)]; omega
    have e2 : ((k : Int) * 37 + (len : Int) * 11) % 256 = (X : Int) := by omega
    clear hX
    go_enter Tryz.func19, Tryz.ntmps19
    go_wp2
    go_ret
    refine ⟨⟨X, hX2, ?_⟩, rfl⟩
    first | rfl | (simp [e1, e2]) | (congr 2)
end Go.Proofs.YtagonpjkohidkaaGreatDoor.draw
