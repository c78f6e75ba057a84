/-
  The reckoning: from each of a stretch of places the loops end soon; so they end from everywhere.
-/
import Derived.Test.YtldkhdoboieibaaDrawFast
namespace Go.Proofs.Ytldkhdoboieibaa.draw
open nd lcg
theorem chk_some : chk nx fSome 40 445 0 = true := by decide +kernel
theorem some_next (u : Nat) : ∃ b, 0 < b ∧ b ≤ 444 ∧ (fSome u).2 = it nx b u := by
  obtain ⟨b, h0, h1, e⟩ := adv_some (f := nx) (x := xF) u
  unfold fSome fast
  rw [rd_2]
  exact ⟨b, h0, h1, e⟩
theorem some_ends (u : Nat) (hu : u < 18446744073709551616) : ∃ n, EndsIn fSome n u :=
  ends_all nx 18446744073709551616 nx_reach fSome 444 0 (Nat.two_pow_pos 64) some_next (fun k hk => ⟨40, chk_all nx fSome 40 445 0 chk_some k (Nat.lt_succ_of_le hk)⟩) u hu
end Go.Proofs.Ytldkhdoboieibaa.draw
