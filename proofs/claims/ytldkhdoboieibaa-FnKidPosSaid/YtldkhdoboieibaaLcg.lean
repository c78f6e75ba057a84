/-
  The sequence behind the end of the code: it reaches every number below 2^64, and a loop that draws until something is small enough ends.
-/
import Derived.Test.YtldkhdoboieibaaDrawBase
namespace Go.Proofs.Ytldkhdoboieibaa.lcg
set_option linter.unusedVariables false

/-- A step again and again. -/
def it (f : Nat → Nat) : Nat → Nat → Nat
  | 0, u => u
  | n + 1, u => it f n (f u)
theorem it_add (f : Nat → Nat) : ∀ (m n u : Nat), it f (m + n) u = it f n (it f m u) := by
  intro m
  induction m with
  | zero => intro n u; rw [Nat.zero_add]; rfl
  | succ m ih => intro n u; rw [Nat.succ_add]; exact ih n (f u)
theorem it_lt (f : Nat → Nat) (m : Nat) (hf : ∀ u, f u < m) : ∀ (n u : Nat), u < m → it f n u < m := by
  intro n
  induction n with
  | zero => intro u h; exact h
  | succ n ih => intro u h; exact ih _ (hf u)
/-- A step of 2^k at once: the factor and the summand. -/
def AC (a c m : Nat) : Nat → Nat × Nat
  | 0 => (a, c)
  | k + 1 => ((AC a c m k).1 * (AC a c m k).1 % m, ((AC a c m k).1 * (AC a c m k).2 + (AC a c m k).2) % m)
theorem it_pow (f : Nat → Nat) (a c m : Nat) (hf : ∀ u, f u = (u * a + c) % m) : ∀ (k u : Nat), it f (2 ^ k) u = (u * (AC a c m k).1 + (AC a c m k).2) % m := by
  intro k
  induction k with
  | zero => intro u; exact hf u
  | succ k ih =>
    intro u
    rw [Nat.pow_succ, Nat.mul_two, it_add, ih, ih]
    simp only [AC]
    generalize (AC a c m k).1 = A
    generalize (AC a c m k).2 = C
    rw [Nat.add_mod, Nat.mul_mod, Nat.mod_mod, ← Nat.mul_mod, ← Nat.add_mod]
    rw [Nat.add_mod (u * _), Nat.mul_mod u, Nat.mod_mod, ← Nat.mul_mod, Nat.mod_mod, ← Nat.add_mod]
    congr 1
    rw [Nat.add_mul, Nat.mul_assoc, Nat.mul_comm C A, Nat.add_assoc]
/-- Of the factors and summands: each 2^k-fold step turns bit k and keeps what lies below. -/
def Odd (a c m : Nat) : Prop := ∀ k, k < 64 → (AC a c m k).1 % 2 ^ (k + 1) = 1 ∧ (AC a c m k).2 % 2 ^ (k + 1) = 2 ^ k
section
variable (f : Nat → Nat) (a c m : Nat) (hf : ∀ u, f u = (u * a + c) % m) (hm : m = 2 ^ 64) (ho : Odd a c m)
include hf hm ho
theorem reach_bit (k u t : Nat) (hk : k < 64) (h : u % 2 ^ k = t % 2 ^ k) : ∃ n, it f n u % 2 ^ (k + 1) = t % 2 ^ (k + 1) := by
  by_cases he : u % 2 ^ (k + 1) = t % 2 ^ (k + 1)
  · exact ⟨0, he⟩
  · refine ⟨2 ^ k, ?_⟩
    obtain ⟨h1, h2⟩ := ho k hk
    have hd : 2 ^ (k + 1) ∣ m := ⟨2 ^ (63 - k), by rw [hm, ← Nat.pow_add, show k + 1 + (63 - k) = 64 by omega]⟩
    rw [it_pow f a c m hf, Nat.mod_mod_of_dvd _ hd, Nat.add_mod, Nat.mul_mod, h1, h2, Nat.mul_one, Nat.mod_mod]
    have hp : 2 ^ (k + 1) = 2 * 2 ^ k := by rw [Nat.pow_succ, Nat.mul_comm]
    have hu : u % 2 ^ (k + 1) % 2 ^ k = u % 2 ^ k := Nat.mod_mod_of_dvd _ ⟨2, by rw [hp, Nat.mul_comm]⟩
    have ht : t % 2 ^ (k + 1) % 2 ^ k = t % 2 ^ k := Nat.mod_mod_of_dvd _ ⟨2, by rw [hp, Nat.mul_comm]⟩
    clear h1 h2 hd hf ho hm
    have bu : u % 2 ^ (k + 1) < 2 ^ (k + 1) := Nat.mod_lt _ (Nat.two_pow_pos _)
    have bt : t % 2 ^ (k + 1) < 2 ^ (k + 1) := Nat.mod_lt _ (Nat.two_pow_pos _)
    have hP := Nat.two_pow_pos k
    have he2 : u % (2 * 2 ^ k) ≠ t % (2 * 2 ^ k) := by rw [← hp]; exact he
    clear he
    rw [hp] at hu ht bu bt ⊢
    clear hp
    generalize 2 ^ k = P at hu ht bu bt h hP he2 ⊢
    generalize u % (2 * P) = x at hu bu he2 ⊢
    generalize t % (2 * P) = y at ht bt he2 ⊢
    have dx : x = x % P ∨ x = x % P + P := by
      rcases Nat.lt_or_ge x P with h | h
      · left; rw [Nat.mod_eq_of_lt h]
      · right; rw [Nat.mod_eq_sub_mod h, Nat.mod_eq_of_lt (by omega)]; omega
    have dy : y = y % P ∨ y = y % P + P := by
      rcases Nat.lt_or_ge y P with h | h
      · left; rw [Nat.mod_eq_of_lt h]
      · right; rw [Nat.mod_eq_sub_mod h, Nat.mod_eq_of_lt (by omega)]; omega
    rw [hu] at dx
    rw [ht, ← h] at dy
    have hq : u % P < P := Nat.mod_lt _ hP
    generalize u % P = q at dx dy hq
    rcases dx with dx | dx
    · rcases dy with dy | dy
      · exact absurd (dx.trans dy.symm) he2
      · rw [dx, dy]; exact Nat.mod_eq_of_lt (by omega)
    · rcases dy with dy | dy
      · rw [dx, dy, show q + P + P = q + 2 * P by omega, Nat.add_mod_right]; exact Nat.mod_eq_of_lt (by omega)
      · exact absurd (dx.trans dy.symm) he2
theorem reach_low (u t : Nat) : ∀ k, k ≤ 64 → ∃ n, it f n u % 2 ^ k = t % 2 ^ k := by
  intro k
  induction k with
  | zero => intro _; exact ⟨0, by simp [Nat.mod_one]⟩
  | succ k ih =>
    intro hk
    obtain ⟨n, hn⟩ := ih (by omega)
    obtain ⟨j, hj⟩ := reach_bit f a c m hf hm ho k (it f n u) t (by omega) hn
    exact ⟨n + j, by rw [it_add]; exact hj⟩
/-- From every number the sequence comes to every number. -/
theorem reach (u t : Nat) (hu : u < m) (ht : t < m) : ∃ n, it f n u = t := by
  obtain ⟨n, hn⟩ := reach_low f a c m hf hm ho u t 64 (Nat.le_refl _)
  refine ⟨n, ?_⟩
  have h1 := it_lt f m (fun u => by rw [hf]; exact Nat.mod_lt _ (by rw [hm]; exact Nat.two_pow_pos 64)) n u hu
  rw [← hm, Nat.mod_eq_of_lt h1, Nat.mod_eq_of_lt ht] at hn
  exact hn
end

/-! ### A loop that draws again -/
/-- One round: is it right, and the state behind it. -/
def EndsIn {α : Type} (g : α → Bool × α) : Nat → α → Prop
  | 0, _ => False
  | n + 1, s => (g s).1 = true ∨ EndsIn g n (g s).2
def endsB {α : Type} (g : α → Bool × α) : Nat → α → Bool
  | 0, _ => false
  | n + 1, s => if (g s).1 then true else endsB g n (g s).2
theorem endsB_in {α : Type} (g : α → Bool × α) : ∀ n s, endsB g n s = true → EndsIn g n s := by
  intro n
  induction n with
  | zero => intro s h; cases h
  | succ n ih =>
    intro s h
    unfold endsB at h
    by_cases hc : (g s).1 = true
    · exact .inl hc
    · rw [if_neg hc] at h
      exact .inr (ih _ h)
/-- From all of a stretch of K places on the loop ends; a round goes at least one and at most K places on: then it ends from everywhere. -/
theorem ends_all (f : Nat → Nat) (m : Nat) (hr : ∀ u t, u < m → t < m → ∃ n, it f n u = t) (g : Nat → Bool × Nat) (K t : Nat) (ht : t < m) (hg : ∀ u, ∃ b, 0 < b ∧ b ≤ K ∧ (g u).2 = it f b u) (hK : ∀ k, k ≤ K → ∃ n, EndsIn g n (it f k t)) : ∀ u, u < m → ∃ n, EndsIn g n u := by
  have main : ∀ n u, it f n u = t → ∃ n, EndsIn g n u := by
    intro n
    induction n using Nat.strongRecOn with
    | ind n ih =>
      intro u hu
      obtain ⟨b, hb0, hbK, hb⟩ := hg u
      by_cases hle : b ≤ n
      · obtain ⟨j, hj⟩ := ih (n - b) (by omega) (it f b u) (by rw [← it_add, show b + (n - b) = n by omega]; exact hu)
        exact ⟨j + 1, .inr (by rw [hb]; exact hj)⟩
      · obtain ⟨j, hj⟩ := hK (b - n) (by omega)
        refine ⟨j + 1, .inr ?_⟩
        rw [hb, show b = n + (b - n) by omega, it_add, hu]
        exact hj
  intro u hu
  obtain ⟨n, hn⟩ := hr u t hu ht
  exact main n u hn

/-! ### The sequence itself -/
def nx (u : Nat) : Nat := (u * 6364136223846793005 + 1442695040888963407) % 18446744073709551616
theorem ac_odd : Odd 6364136223846793005 1442695040888963407 18446744073709551616 := by unfold Odd; decide +kernel
theorem nx_reach : ∀ u t, u < 18446744073709551616 → t < 18446744073709551616 → ∃ n, it nx n u = t := fun u t hu ht => reach nx 6364136223846793005 1442695040888963407 18446744073709551616 (fun _ => rfl) (by decide) ac_odd u t hu ht
end Go.Proofs.Ytldkhdoboieibaa.lcg
