/-
  The exact drawing functions of trees; behind the end of the code they go in step with the sizes.
-/
import Derived.Test.YtldkhdoboieibaaDrawChkP
namespace Go.Proofs.Ytldkhdoboieibaa.draw
open nd lcg
set_option linter.unusedVariables false

/-- As the verifier's functions draw: from the cursor; trees put together by l6Make. -/
def exactG (zs : List Int) : Gen St (List Nd) := ⟨fun n s => ((belowF zs n s).1.toNat, (belowF zs n s).2), makeT⟩
theorem wrap_low (z : Nat) : IntKind.i64.wrap (z : Int) % 256 = ((z % 256 : Nat) : Int) := by
  rw [IntKind.wrap_i64, Int.natCast_emod]
  generalize (z : Int) = y
  omega
theorem xor_low (a b : Int) (x y : Nat) (ha : (a % 18446744073709551616).toNat % 256 = x % 256) (hb : (b % 18446744073709551616).toNat % 256 = y % 256) : bits .xor .i64 a b % 256 = (((x ^^^ y) % 256 : Nat) : Int) := by
  have low : ∀ (p q : Nat), (p ^^^ q) % 256 = (p % 256) ^^^ (q % 256) := fun p q => Nat.xor_mod_two_pow (a := p) (b := q) (n := 8)
  have hm : ((2 ^ 64 : Nat) : Int) = 18446744073709551616 := by decide
  have key : (BitVec.ofInt 64 a ^^^ BitVec.ofInt 64 b).toNat % 256 = (x ^^^ y) % 256 := by
    rw [BitVec.toNat_xor, BitVec.toNat_ofInt, BitVec.toNat_ofInt, hm, low, ha, hb, ← low]
  show IntKind.i64.wrap ((BitVec.ofInt 64 a ^^^ BitVec.ofInt 64 b).toNat : Nat) % 256 = _
  rw [← key]
  exact wrap_low _
theorem rx_low (h : Int) (u : Nat) (hu : (u : Int) = h % 18446744073709551616) : rx h % 256 = ((xF u : Nat) : Int) := by
  unfold rx xF
  refine xor_low _ _ (u / 8589934592) (u / 35184372088832) ?_ ?_ <;> omega
/-- The cursor s stands at or behind the end of the code, and its number is u. -/
def AtU (zs : List Int) (i : Nat) (s : St) (u : Nat) : Prop := s.1 = i ∧ zs.length ≤ i ∧ (u : Int) = s.2 % 18446744073709551616
theorem step_low (h a c : Int) (u v : Nat) (hv : (v : Int) = ((u : Int) * a + c) % 18446744073709551616) (hu : (u : Int) = h % 18446744073709551616) : (v : Int) = (h * a + c) % 18446744073709551616 := by
  rw [hv, hu, Int.add_emod, Int.mul_emod, Int.emod_emod, ← Int.mul_emod, ← Int.add_emod]
theorem nh_low (h : Int) (u : Nat) (hu : (u : Int) = h % 18446744073709551616) : ((nx u : Nat) : Int) = nh h % 18446744073709551616 := by
  have e : nh h % 18446744073709551616 = (h * 6364136223846793005 + 1442695040888963407) % 18446744073709551616 := by
    unfold nh Go.RowKit.wrap64
    generalize h * 6364136223846793005 = z
    omega
  rw [e]
  refine step_low h _ _ u (nx u) ?_ hu
  unfold nx
  simp only [Int.natCast_emod, Int.natCast_add, Int.natCast_mul, Int.cast_ofNat_Int]
theorem makeT_len (n : Nd) (ps : List (List Nd)) : (makeT n ps).length = sumL ps + 1 := by
  unfold makeT
  rw [List.length_append, makeGo_len]
  simp
theorem exact_fastF (f x : Nat → Nat) (hf : ∀ (h : Int) (u : Nat), (u : Int) = h % 18446744073709551616 → ((f u : Nat) : Int) = nh h % 18446744073709551616) (hx : ∀ (h : Int) (u : Nat), (u : Int) = h % 18446744073709551616 → rx h % 256 = ((x u : Nat) : Int)) (zs : List Int) (i : Nat) : Step (exactG zs) (fastF f x) (AtU zs i) (fun q n => q.length = n) := by
  refine ⟨fun n s u h0 h1 h => ?_, fun n l k h => ?_⟩
  · obtain ⟨hi, hz, hu⟩ := h
    have e : belowF zs (n : Int) s = (rx (nh s.2) % 256 % n, (s.1, nh s.2)) := by
      unfold belowF
      rw [if_neg (by omega), if_pos (by omega), byteF_no (by omega)]
    have hn := hf s.2 u hu
    have hx := hx (nh s.2) (f u) hn
    refine ⟨?_, ?_⟩
    · show (belowF zs (n : Int) s).1.toNat = x (f u) % n
      rw [e, hx]
      exact Int.toNat_natCast _
    · show AtU zs i (belowF zs (n : Int) s).2 (f u)
      rw [e]
      exact ⟨hi, hz, hn⟩
  · show (makeT n l).length = sum1 k
    rw [makeT_len]
    induction h with
    | nil => rfl
    | cons hq _ ih => simp only [sumL, sum1]; rw [hq, ← ih]; omega
theorem exact_fast (zs : List Int) (i : Nat) : Step (exactG zs) fast (AtU zs i) (fun q n => q.length = n) := exact_fastF nx xF nh_low rx_low zs i
/-- One round of a loop that draws again, exactly. -/
def rdE (n : Nat) (E : St → List Nd × St) (s : St) : Bool × St := (Nat.ble (E s).1.length n, (E s).2)
theorem ends_behind (zs : List Int) (i n : Nat) (E : St → List Nd × St) (F : Nat → Nat × Nat) (h : Fn (AtU zs i) (fun q k => q.length = k) E F) : ∀ k s u, AtU zs i s u → EndsIn (fun u => rd n (F u)) k u → EndsIn (rdE n E) k s := by
  intro k
  induction k with
  | zero => intro s u _ h; exact h
  | succ k ih =>
    intro s u hs he
    obtain ⟨hq, hr⟩ := h s u hs
    rcases he with he | he
    · refine .inl ?_
      show Nat.ble (E s).1.length n = true
      rw [hq]
      exact he
    · exact .inr (ih _ _ hr he)
end Go.Proofs.Ytldkhdoboieibaa.draw
