/-
  Parens and Bare over tokens in memory: contracts of both sides.
-/
import Derived.Test.YtdikohegclooiaaTk
namespace Go.Proofs.Ytdikohegclooiaa.pb
open Go.ChangeShapes Go.WideShapes Go.ChangeAt Go.RowKit
open tk
set_option linter.unusedVariables false

/-- The kind of the token ahead of the first I. -/
def pk (l : List Tk) (I : Nat) : Int := if I = 0 then 0 else (l.getD (I - 1) default).k
def one (k p : Int) : Nat := if k = 32 ∧ ¬ p = 7 ∧ ¬ p = 8 then 1 else 0
def pc (l : List Tk) : Nat → Nat
  | 0 => 0
  | I + 1 => pc l I + one (l.getD I default).k (pk l I)
theorem pc_le (l : List Tk) : ∀ I, pc l I ≤ I := by
  intro I
  induction I with
  | zero => exact Nat.le_refl _
  | succ I ih =>
    have : one (l.getD I default).k (pk l I) ≤ 1 := by unfold one; split <;> omega
    show pc l I + _ ≤ _
    omega
theorem pc_step {l : List Tk} {I : Nat} (h : I < l.length) : pc l (I + 1) = pc l I + one l[I].k (pk l I) := by
  show pc l I + _ = _
  rw [List.getD_eq_getElem?_getD, List.getElem?_eq_getElem h]
  rfl
theorem pk_next {l : List Tk} {I : Nat} (h : I < l.length) : pk l (I + 1) = l[I].k := by
  unfold pk
  rw [if_neg (by omega), Nat.add_sub_cancel, List.getD_eq_getElem?_getD, List.getElem?_eq_getElem h]
  rfl
theorem one_no {k p : Int} (h : ¬ k = 32) : one k p = 0 := if_neg fun e => h e.1
theorem one_f {k : Int} : one k 7 = 0 := if_neg fun e => e.2.1 rfl
theorem one_b {k : Int} : one k 8 = 0 := if_neg fun e => e.2.2 rfl
theorem one_yes {p : Int} (h1 : ¬ p = 7) (h2 : ¬ p = 8) : one 32 p = 1 := if_pos ⟨rfl, h1, h2⟩

def RelSp (w : World) (l : List Tk) (n i : Value) (wr : World) : Prop :=
  ∃ I : Nat, I ≤ l.length ∧ i = .int .i64 (I : Int) ∧ n = .int .i64 (pc l I : Int) ∧ Below w.heap.size w wr
def RelIp (w : World) (l : List Tk) (n p i : Value) (wr : World) : Prop :=
  ∃ I : Nat, I ≤ l.length ∧ i = .int .i64 (I : Int) ∧ n = .int .i64 (pc l I : Int) ∧ p = .int .i64 (pk l I) ∧ Below w.heap.size w wr

set_option maxHeartbeats 1600000 in
theorem impl_parens (l : List Tk) (a : Option Addr) (cap : Nat) (w : World) (hn : l.length ≤ 1048576) (hc : Lies w.heap.size w a l) :
    Calls Try.prog 8 #[.slice a l.length cap] w fun e w' => e = .returned (.int .i64 (pc l l.length : Int)) ∧ Below w.heap.size w w' := by
  have HC := Lib.hid hc
  clear hc
  obtain ⟨n, hln⟩ : ∃ n, n = l.length := ⟨_, rfl⟩
  have HLN := Lib.hid hln
  rw [← hln]
  rw [← hln] at hn
  clear hln
  go_enter Try.func8, Try.ntmps8
  go_wp2
  go_loopw [3, 4, 9] (fun m p i wr => RelIp w l m p i wr) (fun _ _ i _ => n - (intOf i).toNat)
  case atStart => exact ⟨0, by omega, rfl, rfl, rfl, Below.refl _ _⟩
  case round =>
    obtain ⟨I, hI, rfl, rfl, rfl, hbel⟩ := hrel
    have HB := Lib.hid hbel
    rw [← HLN.out] at hI
    clear hbel
    have hpl := pc_le l I
    obtain ⟨P, hP⟩ : ∃ P, P = pc l I := ⟨_, rfl⟩
    obtain ⟨q, hq⟩ : ∃ q, q = pk l I := ⟨_, rfl⟩
    rw [← hP] at hpl ⊢
    rw [← hq]
    have HP := Lib.hid hP
    have HQ := Lib.hid hq
    clear hP hq
    by_cases hlt : I < n
    · have hltl : I < l.length := by have := HLN.out; omega
      obtain ⟨b, o, rfl, hb, hcell⟩ := lies_at HC.out hltl
      obtain ⟨c0, c1, c2⟩ := (hcell I hltl).keep HB.out hb
      have HST := Lib.hid (pc_step hltl)
      have HNX := Lib.hid (pk_next hltl)
      obtain ⟨t, ht⟩ : ∃ t, t = l[I] := ⟨_, rfl⟩
      rw [← ht] at c0 c1 c2 HST HNX
      clear hcell ht
      have hi1 : (I : Int) < (n : Int) := by omega
      go_wp2
      all_goals
        go_roundw
        case rel =>
          refine ⟨I + 1, by have := HLN.out; omega, by go_num, ?_, by first | (rw [HNX.out]; done) | (rw [HNX.out]; simp_all), HB.out.trans ((Below.refl _ _).alloc HB.out.size _)⟩
          rw [HST.out, ← HP.out, ← HQ.out]
          simp_all [one]
        case measure => simp [intOf]; omega
    · obtain rfl : I = n := by omega
      go_wp2
      go_ret
      exact ⟨by rw [HP.out]; rfl, HB.out⟩

set_option maxHeartbeats 1600000 in
theorem spec_parens (l : List Tk) (a : Option Addr) (cap : Nat) (w : World) (hn : l.length ≤ 1048576) (hc : Lies w.heap.size w a l) :
    Calls Try.prog 6 #[.slice a l.length cap] w fun e w' => e = .returned (.int .i64 (pc l l.length : Int)) ∧ Below w.heap.size w w' := by
  have HC := Lib.hid hc
  clear hc
  obtain ⟨n, hln⟩ : ∃ n, n = l.length := ⟨_, rfl⟩
  have HLN := Lib.hid hln
  rw [← hln]
  rw [← hln] at hn
  clear hln
  go_enter Try.func6, Try.ntmps6
  go_wp2
  go_loopw [3, 4] (fun m i wr => RelSp w l m i wr) (fun _ i _ => n - (intOf i).toNat)
  case atStart => exact ⟨0, by omega, rfl, rfl, Below.refl _ _⟩
  case round =>
    obtain ⟨I, hI, rfl, rfl, hbel⟩ := hrel
    have HB := Lib.hid hbel
    rw [← HLN.out] at hI
    clear hbel
    have hpl := pc_le l I
    obtain ⟨P, hP⟩ : ∃ P, P = pc l I := ⟨_, rfl⟩
    rw [← hP] at hpl ⊢
    have HP := Lib.hid hP
    clear hP
    by_cases hlt : I < n
    · have hltl : I < l.length := by have := HLN.out; omega
      obtain ⟨b, o, rfl, hb, hcell⟩ := lies_at HC.out hltl
      obtain ⟨c0, c1, c2⟩ := (hcell I hltl).keep HB.out hb
      have HST := Lib.hid (pc_step hltl)
      have HCELL := Lib.hid hcell
      obtain ⟨t, ht⟩ : ∃ t, t = l[I] := ⟨_, rfl⟩
      rw [← ht] at c0 c1 c2 HST
      clear hcell ht
      have hi1 : (I : Int) < (n : Int) := by omega
      have HREL : pc l (I + 1) = P + one t.k (pk l I) → ∀ wr', Below w.heap.size w wr' → RelSp w l (.int .i64 ((P + one t.k (pk l I) : Nat) : Int)) (.int .i64 ((I + 1 : Nat) : Int)) wr' := fun h wr' hb' => ⟨I + 1, by have := HLN.out; omega, rfl, by rw [h], hb'⟩
      have HR := Lib.hid (HREL (by rw [HST.out, ← HP.out]) _ HB.out)
      clear HREL
      by_cases h32 : t.k = 32
      · by_cases h0 : I = 0
        · subst h0
          simp only [Nat.zero_mul, Nat.add_zero] at c0
          have HR2 := Lib.hid (show RelSp w l (.int .i64 ((P : Int) + 1)) (.int .i64 1) wr by have := HR.out; rw [h32] at this; exact this)
          go_wp2
          go_roundw
          case rel => exact HR2.out
          case measure => simp [intOf]; omega
        · obtain ⟨J, rfl⟩ : ∃ J : Nat, I = J + 1 := ⟨I - 1, by omega⟩
          have hJl : J < l.length := by omega
          obtain ⟨d0, d1, d2⟩ := (HCELL.out J hJl).keep HB.out hb
          have HPK := Lib.hid (pk_next hJl)
          obtain ⟨u, hu⟩ : ∃ u, u = l[J] := ⟨_, rfl⟩
          rw [← hu] at d0 d1 d2 HPK
          clear hu
          have hj1 : (J : Int) + 1 < (n : Int) := by omega
          have hj2 : (J : Int) < (n : Int) := by omega
          have s1 : IntKind.i64.wrap ((J : Int) + 1 - 1) = (J : Int) := by rw [IntKind.wrap_i64]; omega
          have s2 : ((J : Int) + 1 == 0) = false := by rw [beq_eq_false_iff_ne]; omega
          have HR1 := Lib.hid (show RelSp w l (.int .i64 ((P + one 32 u.k : Nat) : Int)) (.int .i64 ((J + 1 + 1 : Nat) : Int)) wr by have := HR.out; rw [h32, HPK.out] at this; exact this)
          by_cases h7 : u.k = 7
          · have HR2 := Lib.hid (show RelSp w l (.int .i64 (P : Int)) (.int .i64 ((J : Int) + 1 + 1)) wr by have := HR1.out; rw [h7, one_f] at this; exact this)
            obtain ⟨e7, e7'⟩ := eq_facts h7
            go_wp2
            go_roundw
            case rel => exact HR2.out
            case measure => simp [intOf]; omega
          · obtain ⟨e7, e7'⟩ := ne_facts h7
            by_cases h8 : u.k = 8
            · have HR2 := Lib.hid (show RelSp w l (.int .i64 (P : Int)) (.int .i64 ((J : Int) + 1 + 1)) wr by have := HR1.out; rw [h8, one_b] at this; exact this)
              obtain ⟨e8, e8'⟩ := eq_facts h8
              clear h7 h8
              go_wp2
              go_roundw
              case rel => exact HR2.out
              case measure => simp [intOf]; omega
            · have HR2 := Lib.hid (show RelSp w l (.int .i64 ((P : Int) + 1)) (.int .i64 ((J : Int) + 1 + 1)) wr by have := HR1.out; rw [one_yes h7 h8] at this; exact this)
              obtain ⟨e8, e8'⟩ := ne_facts h8
              clear h7 h8
              go_wp2
              go_roundw
              case rel => exact HR2.out
              case measure => simp [intOf]; omega
      · have HR2 := Lib.hid (show RelSp w l (.int .i64 (P : Int)) (.int .i64 ((I : Int) + 1)) wr by have := HR.out; rw [one_no h32] at this; exact this)
        go_wp2
        go_roundw
        case rel => exact HR2.out
        case measure => simp [intOf]; omega
    · obtain rfl : I = n := by omega
      go_wp2
      go_ret
      exact ⟨by rw [HP.out]; rfl, HB.out⟩
end Go.Proofs.Ytdikohegclooiaa.pb
