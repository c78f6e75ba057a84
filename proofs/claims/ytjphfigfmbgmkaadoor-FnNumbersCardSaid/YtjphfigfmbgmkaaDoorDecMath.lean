/-
  Plain facts on decimal numerals ('Lib.decDigits', 'Lib.itoa', 'Lib.atoiAll'): no program in sight.
-/
import Derived.Test.YtjphfigfmbgmkaaDoorBase
import Derived.Lib.ItoaMem
import Derived.Lib.ItoaLen
import Derived.Lib.AtoiAll
import Derived.Lib.AtoiAllCases
import Derived.Lib.AtoiTie
import Derived.Lib.Strings
namespace Go.Proofs.YtjphfigfmbgmkaaDoor.decm
open Go.RowKit

/-- Is it a digit? -/
def isDg (c : UInt8) : Prop := 48 ≤ c.toNat ∧ c.toNat ≤ 57
instance (c : UInt8) : Decidable (isDg c) := by unfold isDg; infer_instance

/-- The number that the digits of l spell, whatever stands between them; and how many they are. -/
def step (a : Nat) (c : UInt8) : Nat := if isDg c then a * 10 + (c.toNat - 48) else a
def dv (l : List UInt8) : Nat := l.foldl step 0
def dn (l : List UInt8) : Nat := l.foldl (fun a c => if isDg c then a + 1 else a) 0
theorem step_yes (a : Nat) {c : UInt8} (h : isDg c) : step a c = a * 10 + (c.toNat - 48) := by unfold step; rw [if_pos h]
theorem step_no (a : Nat) {c : UInt8} (h : ¬ isDg c) : step a c = a := by unfold step; rw [if_neg h]
theorem dv_snoc (l : List UInt8) (c : UInt8) : dv (l ++ [c]) = step (dv l) c := by simp [dv]
theorem dn_snoc (l : List UInt8) (c : UInt8) : dn (l ++ [c]) = if isDg c then dn l + 1 else dn l := by simp [dn]

theorem dn_le (l : List UInt8) : dn l ≤ l.length := by
  refine snoc_ind (P := fun l => dn l ≤ l.length) (by simp [dn]) ?_ l
  intro l c ih
  rw [dn_snoc]
  simp only [List.length_append, List.length_singleton]
  split <;> omega

theorem dv_lt (l : List UInt8) : dv l < 10 ^ dn l := by
  refine snoc_ind (P := fun l => dv l < 10 ^ dn l) (by simp [dv, dn]) ?_ l
  intro l c ih
  rw [dv_snoc, dn_snoc]
  unfold step
  by_cases h : isDg c
  · rw [if_pos h, if_pos h, Nat.pow_succ]
    unfold isDg at h
    omega
  · rw [if_neg h, if_neg h]
    exact ih

theorem digit_of (u : Nat) : (UInt8.ofNat (48 + u % 10)).toNat = 48 + u % 10 := by simp; omega
theorem digit_is (u : Nat) : isDg (UInt8.ofNat (48 + u % 10)) := by unfold isDg; rw [digit_of]; omega

theorem digs (u : Nat) : dv (Lib.decDigits u) = u ∧ dn (Lib.decDigits u) = (Lib.decDigits u).length ∧ (∀ c ∈ Lib.decDigits u, isDg c) ∧ Lib.decDigits u ≠ [] := by
  induction u using Nat.strongRecOn with
  | _ u ih =>
    by_cases h : u < 10
    · have e : Lib.decDigits u = [] ++ [UInt8.ofNat (48 + u % 10)] := by rw [Lib.decDigits, dif_pos h, Nat.mod_eq_of_lt h]; rfl
      rw [e, dv_snoc, dn_snoc, if_pos (digit_is u), step, if_pos (digit_is u), digit_of]
      refine ⟨by simp [dv]; omega, by simp [dn], ?_, by simp⟩
      intro c hc
      simp at hc
      subst hc
      have := digit_is u
      simpa using this
    · have e : Lib.decDigits u = Lib.decDigits (u / 10) ++ [UInt8.ofNat (48 + u % 10)] := by rw [Lib.decDigits, dif_neg h]
      obtain ⟨h1, h2, h3, h4⟩ := ih (u / 10) (by omega)
      rw [e, dv_snoc, dn_snoc, if_pos (digit_is u), step, if_pos (digit_is u), digit_of, h1, h2]
      refine ⟨by omega, by simp, ?_, by simp⟩
      intro c hc
      rcases List.mem_append.1 hc with hc | hc
      · exact h3 c hc
      · simp only [List.mem_singleton] at hc
        subst hc
        exact digit_is u

theorem digs_len (k : Nat) : ∀ u : Nat, u < 10 ^ (k + 1) → (Lib.decDigits u).length ≤ k + 1 := by
  induction k with
  | zero =>
    intro u h
    rw [Lib.decDigits, dif_pos (by simpa using h)]
    simp
  | succ k ih =>
    intro u h
    by_cases h10 : u < 10
    · rw [Lib.decDigits, dif_pos h10]
      simp
    · rw [Lib.decDigits, dif_neg h10]
      rw [Nat.pow_succ] at h
      have := ih (u / 10) (by omega)
      simp only [List.length_append, List.length_singleton]
      omega

theorem digs_bound (u : Nat) (h : (Lib.decDigits u).length ≤ 9) : u < 1000000000 := by
  obtain ⟨h1, h2, h3, h4⟩ := digs u
  have := dv_lt (Lib.decDigits u)
  rw [h1, h2] at this
  have h5 : (10 : Nat) ^ (Lib.decDigits u).length ≤ 10 ^ 9 := Nat.pow_le_pow_right (by omega) h
  have h6 : (10 : Nat) ^ 9 = 1000000000 := by decide
  omega

/-- The head of the digits is no sign. -/
theorem digs_head (u : Nat) : ∃ c r, Lib.decDigits u = c :: r ∧ isDg c := by
  obtain ⟨h1, h2, h3, h4⟩ := digs u
  cases hd : Lib.decDigits u with
  | nil => exact absurd hd h4
  | cons c r => exact ⟨c, r, rfl, h3 c (by rw [hd]; simp)⟩

theorem itoa_cases (m : Int) : (m < 0 ∧ Lib.itoa m = 45 :: Lib.decDigits m.natAbs) ∨ (0 ≤ m ∧ Lib.itoa m = Lib.decDigits m.natAbs) := by
  by_cases h : m < 0
  · exact .inl ⟨h, by unfold Lib.itoa; rw [if_pos h]⟩
  · refine .inr ⟨by omega, ?_⟩
    unfold Lib.itoa
    rw [if_neg h]
    congr 1
    omega

/-- The sign and the digits of l say m. -/
theorem itoa_dv (m : Int) : m = (if (Lib.itoa m).head? = some 45 then -(dv (Lib.itoa m) : Int) else (dv (Lib.itoa m) : Int)) ∧ dn (Lib.itoa m) = (Lib.decDigits m.natAbs).length := by
  obtain ⟨h1, h2, h3, h4⟩ := digs m.natAbs
  rcases itoa_cases m with ⟨h, e⟩ | ⟨h, e⟩
  · have e1 : dv (45 :: Lib.decDigits m.natAbs) = dv (Lib.decDigits m.natAbs) := by simp [dv, step, isDg]
    have e2 : dn (45 :: Lib.decDigits m.natAbs) = dn (Lib.decDigits m.natAbs) := by simp [dn, isDg]
    rw [e, e1, e2, h1, h2]
    simp
    omega
  · obtain ⟨c, r, e2, hc⟩ := digs_head m.natAbs
    have hn : ¬ (Lib.itoa m).head? = some 45 := by
      rw [e, e2]
      intro h
      simp at h
      subst h
      unfold isDg at hc
      simp at hc
    rw [if_neg hn, e, h1, h2]
    omega

theorem itoa_inj {m m' : Int} (h : Lib.itoa m = Lib.itoa m') : m = m' := by
  rw [(itoa_dv m).1, (itoa_dv m').1, h]

theorem itoa_short {m : Int} (h : m.natAbs < 1000000000) : (Lib.decDigits m.natAbs).length ≤ 9 ∧ (Lib.itoa m).length ≤ 10 := by
  have h1 := digs_len 8 m.natAbs (by omega)
  refine ⟨by omega, ?_⟩
  rcases itoa_cases m with ⟨_, e⟩ | ⟨_, e⟩
  · rw [e, List.length_cons]; omega
  · rw [e]; omega

/-- What stands behind a leading sign. -/
theorem trim_itoa (m : Int) : Lib.trimPrefix (Lib.itoa m) [45] = Lib.decDigits m.natAbs := by
  rcases itoa_cases m with ⟨_, e⟩ | ⟨_, e⟩
  · rw [e]; simp [Lib.trimPrefix, Lib.hasPrefix]
  · obtain ⟨c, r, e2, hc⟩ := digs_head m.natAbs
    rw [e, e2]
    have : ¬ (45 : UInt8) = c := by
      intro h
      subst h
      unfold isDg at hc
      simp at hc
    simp [Lib.trimPrefix, Lib.hasPrefix, this]

theorem decFrom_snoc (b : UInt8) (d : Nat) (hb : Lib.digitVal b = some d) : ∀ (l : List UInt8) (acc n : Nat), Lib.decFrom acc l = some n → Lib.decFrom acc (l ++ [b]) = some (n * 10 + d)
  | [], acc, n, h => by
    simp only [Lib.decFrom, Option.some.injEq] at h
    subst h
    simp [Lib.decFrom, hb]
  | c :: r, acc, n, h => by
    simp only [Lib.decFrom, List.cons_append] at h ⊢
    split at h
    · exact decFrom_snoc b d hb r _ n h
    · cases h

theorem decFrom_digits (u : Nat) : Lib.decFrom 0 (Lib.decDigits u) = some u := by
  induction u using Nat.strongRecOn with
  | _ u ih =>
    have hv : Lib.digitVal (UInt8.ofNat (48 + u % 10)) = some (u % 10) := by
      unfold Lib.digitVal
      rw [digit_of, if_pos (by omega)]
      congr 1
      omega
    by_cases h : u < 10
    · have e : Lib.decDigits u = [] ++ [UInt8.ofNat (48 + u % 10)] := by rw [Lib.decDigits, dif_pos h, Nat.mod_eq_of_lt h]; rfl
      rw [e, decFrom_snoc _ _ hv [] 0 0 rfl]
      congr 1
      omega
    · rw [Lib.decDigits, dif_neg h, decFrom_snoc _ _ hv _ 0 _ (ih (u / 10) (by omega))]
      congr 1
      omega

theorem atoi_itoa (m : Int) (h : m.natAbs < 1000000000) : Lib.atoiAll (Lib.itoa m) = .ok m := by
  obtain ⟨hl, hl2⟩ := itoa_short h
  rw [Lib.atoiAll_short _ (by omega)]
  have hd := decFrom_digits m.natAbs
  obtain ⟨c, r, e2, hc⟩ := digs_head m.natAbs
  have hdn : Lib.decNat (Lib.decDigits m.natAbs) = some m.natAbs := by
    unfold Lib.decNat
    rw [e2] at hd ⊢
    simpa using hd
  rcases itoa_cases m with ⟨hm, e⟩ | ⟨hm, e⟩
  · rw [e]
    simp [Lib.atoi, hdn, Lib.NumEnd.ofOption]
    omega
  · rw [e, e2]
    rw [e2] at hdn
    have h1 : ¬ c = 45 := by
      intro h
      subst h
      unfold isDg at hc
      simp at hc
    have h2 : ¬ c = 43 := by
      intro h
      subst h
      unfold isDg at hc
      simp at hc
    simp [Lib.atoi, hdn, Lib.NumEnd.ofOption, h1, h2]
    omega

/-- What ReadDec answers to s: (m, true) where s is the numeral of m and m has at most nine digits; else (0, false). -/
def Ans (s : List UInt8) (n : Int) (ok : Bool) : Prop :=
  (n.natAbs < 1000000000 ∧ Lib.itoa n = s ∧ ok = true) ∨ ((∀ m : Int, m.natAbs < 1000000000 → ¬ Lib.itoa m = s) ∧ n = 0 ∧ ok = false)

theorem ans_one {s : List UInt8} {n n' : Int} {b b' : Bool} (h : Ans s n b) (h' : Ans s n' b') : n = n' ∧ b = b' := by
  rcases h with ⟨h1, h2, rfl⟩ | ⟨h1, rfl, rfl⟩
  · rcases h' with ⟨h3, h4, rfl⟩ | ⟨h3, rfl, rfl⟩
    · exact ⟨itoa_inj (h2.trans h4.symm), rfl⟩
    · exact absurd h2 (h3 _ h1)
  · rcases h' with ⟨h3, h4, rfl⟩ | ⟨h3, rfl, rfl⟩
    · exact absurd h4 (h1 _ h3)
    · exact ⟨rfl, rfl⟩
end Go.Proofs.YtjphfigfmbgmkaaDoor.decm
