/-
  The loops that draw a small expression or program end from every cursor.
-/
import Derived.Test.YtldkhdoboieibaaDrawExact
namespace Go.Proofs.Ytldkhdoboieibaa.draw
open nd lcg
set_option linter.unusedVariables false

theorem byte_up (zs : List Int) (n : Nat) (s : St) (h0 : 0 < n) (h1 : n ≤ 256) : s.1 ≤ (belowF zs n s).2.1 ∧ (s.1 < zs.length → s.1 < (belowF zs n s).2.1) := by
  unfold belowF
  rw [if_neg (by omega), if_pos (by omega)]
  unfold byteF
  split
  · exact ⟨Nat.le_succ _, fun _ => Nat.lt_succ_self _⟩
  · rename_i hc
    exact ⟨Nat.le_refl _, fun h => absurd h hc⟩
theorem exact_up (zs : List Int) (i : Nat) : Step (exactG zs) (exactG zs) (fun s u => s = u ∧ i ≤ s.1) (fun _ _ => True) := by
  refine ⟨fun n s u h0 h1 h => ?_, fun n l k h => trivial⟩
  obtain ⟨rfl, h⟩ := h
  exact ⟨rfl, rfl, Nat.le_trans h (byte_up zs n s h0 h1).1⟩
theorem some_up (zs : List Int) (s : St) (h : s.1 < zs.length) : s.1 < (someG (exactG zs) s).2.1 :=
  ((exact_up zs (s.1 + 1)).expr (1 + ((exactG zs).bl 4 s).1) ((exactG zs).bl 4 s).2 _ ⟨rfl, (byte_up zs 4 s (by decide) (by decide)).2 h⟩).2.2
theorem prog_up (zs : List Int) (s : St) (h : s.1 < zs.length) : s.1 < (progG (exactG zs) s).2.1 :=
  (times_two (exact_up zs (s.1 + 1)).item ((exactG zs).bl 4 s).1 ((exactG zs).bl 4 s).2 _ ⟨rfl, (byte_up zs 4 s (by decide) (by decide)).2 h⟩).2.2
theorem low_of (h : Int) : (((h % 18446744073709551616).toNat : Nat) : Int) = h % 18446744073709551616 ∧ (h % 18446744073709551616).toNat < 18446744073709551616 := by
  have h0 := Int.emod_nonneg h (show (18446744073709551616 : Int) ≠ 0 by decide)
  have h1 := Int.emod_lt_of_pos h (show (0 : Int) < 18446744073709551616 by decide)
  generalize h % 18446744073709551616 = z at h0 h1 ⊢
  omega
theorem ends_every (zs : List Int) (n : Nat) (E : St → List Nd × St) (F : Nat → Nat × Nat) (hfn : ∀ i, Fn (AtU zs i) (fun q k => q.length = k) E F) (he : ∀ u, u < 18446744073709551616 → ∃ k, EndsIn (fun u => rd n (F u)) k u)
    (hup : ∀ s : St, s.1 < zs.length → s.1 < (E s).2.1) : ∀ s : St, ∃ k, EndsIn (rdE n E) k s := by
  have main : ∀ m (s : St), zs.length - s.1 = m → ∃ k, EndsIn (rdE n E) k s := by
    intro m
    induction m using Nat.strongRecOn with
    | ind m ih =>
      intro s hm
      by_cases hlt : s.1 < zs.length
      · have := hup s hlt
        obtain ⟨k, hk⟩ := ih (zs.length - (E s).2.1) (by omega) (E s).2 rfl
        exact ⟨k + 1, .inr hk⟩
      · obtain ⟨e1, e2⟩ := low_of s.2
        obtain ⟨k, hk⟩ := he _ e2
        exact ⟨k, ends_behind zs s.1 n E F (hfn s.1) k s _ ⟨rfl, by omega, e1⟩ hk⟩
  exact fun s => main _ s rfl
theorem some_every (zs : List Int) : ∀ s : St, ∃ k, EndsIn (rdE 60 (someG (exactG zs))) k s :=
  ends_every zs 60 _ (someG fast) (fun i => (exact_fast zs i).some) some_ends (some_up zs)
theorem prog_every (zs : List Int) : ∀ s : St, ∃ k, EndsIn (rdE 220 (progG (exactG zs))) k s :=
  ends_every zs 220 _ (progG fast) (fun i => (exact_fast zs i).prog) prog_ends (prog_up zs)
end Go.Proofs.Ytldkhdoboieibaa.draw
