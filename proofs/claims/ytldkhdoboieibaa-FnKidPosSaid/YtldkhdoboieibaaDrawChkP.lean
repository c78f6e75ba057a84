/-
  The reckoning for whole programs.
-/
import Derived.Test.YtldkhdoboieibaaDrawChk
namespace Go.Proofs.Ytldkhdoboieibaa.draw
open nd lcg
theorem chk_prog : chk nx fProg 40 3182 0 = true := by decide +kernel
theorem prog_next (u : Nat) : ∃ b, 0 < b ∧ b ≤ 3181 ∧ (fProg u).2 = it nx b u := by
  obtain ⟨b, h0, h1, e⟩ := adv_prog (f := nx) (x := xF) u
  unfold fProg fast
  rw [rd_2]
  exact ⟨b, h0, h1, e⟩
theorem prog_ends (u : Nat) (hu : u < 18446744073709551616) : ∃ n, EndsIn fProg n u :=
  ends_all nx 18446744073709551616 nx_reach fProg 3181 0 (Nat.two_pow_pos 64) prog_next (fun k hk => ⟨40, chk_all nx fProg 40 3182 0 chk_prog k (Nat.lt_succ_of_le hk)⟩) u hu
end Go.Proofs.Ytldkhdoboieibaa.draw
