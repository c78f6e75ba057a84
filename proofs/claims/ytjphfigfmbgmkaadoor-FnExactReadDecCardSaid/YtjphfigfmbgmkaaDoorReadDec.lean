/-
  'laws.FnExactReadDec' returns true at every string, and leaves it as it was: impl.ReadDec and the model spec.ReadDec give the same number and the same bool. The row lists five variables of the library's, tied to the program's text (the card). No other condition. What is listed is tied to the copy of the project that the seat holds (its packages impl, spec and laws, no test): of code elsewhere that could write these variables the card says nothing.
-/
import Derived.Test.YtjphfigfmbgmkaaDoorCards
import Derived.Test.YtjphfigfmbgmkaaDoorTie
import Derived.Test.YtjphfigfmbgmkaaDoorBase
import Derived.Test.YtjphfigfmbgmkaaDoorBytes
import Derived.Test.YtjphfigfmbgmkaaDoorShelf
import Derived.Test.YtjphfigfmbgmkaaDoorLaid
import Derived.Test.YtjphfigfmbgmkaaDoorDecSpec
import Derived.Test.YtjphfigfmbgmkaaDoorDec
import Derived.Test.YtjphfigfmbgmkaaDoorDecMath
import Derived.WalkKit
import Derived.ProofKit
import Derived.OpenShut
import Derived.ShutString
import Derived.ChangeOld
import Derived.Below
import Derived.WalkSpells
import Derived.WalkLawsBesides
import Derived.Lib.AtoiErrMem
import Derived.Deep.DeepHandedRow
import Derived.Stop.LaidErr
namespace Go.Proofs.YtjphfigfmbgmkaaDoor.readDec
open Go.ChangeShapes Go.WideShapes Go.ChangeAt Go.RowKit
open Go.ChangeMaps (open_string shut_string)
open decm (dv dn isDg Ans step)
set_option linter.unusedVariables false

/-- What the walks need of the package-level variables. -/
structure Held (w : World) : Prop where
  tab : Lib.TabIs Tryd.prog w "internal/strconv.uint64pow10" .u64 Lib.pow10Tab
  syn : ∃ a : Addr, w.var? Tryd.prog "strconv.ErrSyntax" = some #[.iface 80 (.pointer (some a))]
  rng : ∃ a : Addr, w.var? Tryd.prog "strconv.ErrRange" = some #[.iface 80 (.pointer (some a))]

theorem gES : Tryd.prog.globalNamed "strconv.ErrSyntax" = some 0 := by kernel_rfl
theorem gESType : (Tryd.prog.globals[0]?).map (·.type) = some 46 := by kernel_rfl
theorem gER : Tryd.prog.globalNamed "strconv.ErrRange" = some 1 := by kernel_rfl
theorem gERType : (Tryd.prog.globals[1]?).map (·.type) = some 46 := by kernel_rfl
theorem cellsES : Tryd.prog.cellsOf 82 = 1 := by kernel_rfl
theorem cellsStr : Tryd.prog.cellsOf 9 = 1 := by kernel_rfl
theorem star : "*" ++ "errors.errorString" = "*errors.errorString" := by decide
theorem rowES (u : TypeId) (h : Tryd.prog.typeName? 3 u = some "*errors.errorString") : u = 80 :=
  typeName_ptr_named (nm := "errors.errorString") (by rw [star]; kernel_rfl) (by kernel_rfl) (by decide) u (by rw [star]; exact h)

/-- What the rows' lists give. -/
theorem held {W : World} {a b : String × DataW Unit} (h : laidMet Tryd.prog [a, b, ("internal/strconv.uint64pow10", Rows.laid_internal_strconv_uint64pow10), ("strconv.ErrRange", Rows.laid_strconv_ErrRange), ("strconv.ErrSyntax", Rows.laid_strconv_ErrSyntax)] W) : Held W := by
  refine ⟨table h, ?_, ?_⟩
  · obtain ⟨x, s, hv, -, -, -⟩ := laid_sentinel h.tail.tail.tail.tail gES gESType Tryd.underlying46 rowES Tryd.underlying80 Tryd.underlying82 rfl rfl Tryd.underlying9 cellsES cellsStr
    exact ⟨x, hv⟩
  · obtain ⟨x, s, hv, -, -, -⟩ := laid_sentinel h.tail.tail.tail gER gERType Tryd.underlying46 rowES Tryd.underlying80 Tryd.underlying82 rfl rfl Tryd.underlying9 cellsES cellsStr
    exact ⟨x, hv⟩

theorem Held.below {w w' : World} (h : Held w) (hb : Below w.heap.size w w') : Held w' :=
  ⟨var_below h.tab hb, let ⟨x, e⟩ := h.syn; ⟨x, var_below e hb⟩, let ⟨x, e⟩ := h.rng; ⟨x, var_below e hb⟩⟩

/-- A result that Ans allows. -/
def SomeAns (s : ByteArray) (w : World) (e : Ending) (w' : World) : Prop := ∃ (n : Int) (b : Bool), Ans s.data.toList n b ∧ e = .returned (.tuple #[.int .i64 n, .bool b]) ∧ Below w.heap.size w w'

/-! ### The program -/
theorem trim_any (s : ByteArray) (w : World) :
    Calls Tryd.prog 25 #[.string s, .string ⟨#[45]⟩] w fun e w' => e = .returned (.string ⟨(Lib.trimPrefix s.data.toList [45]).toArray⟩) ∧ w = w' := by
  refine (Tryd.strings_TrimPrefix s ⟨#[45]⟩ w).mono ?_
  rintro e w' ⟨rfl, rfl⟩
  exact ⟨rfl, rfl⟩

theorem atoi_ok (s : ByteArray) (v : Int) (w : World) (hs : s.size ≤ 9223372036854775806) (h : Lib.atoiAll s.data.toList = .ok v) :
    Calls Tryd.prog 26 #[.string s] w fun e w' => e = .returned (.tuple #[.int .i64 v, .nilIface]) ∧ Below w.heap.size w w' := by
  refine (Tryd.strconv_Atoi_ok s hs v h w).mono ?_
  rintro e w' ⟨rfl, h⟩
  refine ⟨rfl, ?_⟩
  rcases h with rfl | ⟨t, rfl⟩
  · exact Below.refl _ _
  · exact Lib.bytesWorld_below _ _ _

theorem ans_long {s : List UInt8} (h : 9 < (Lib.trimPrefix s [45]).length) : Ans s 0 false := by
  refine .inr ⟨fun m hm e => ?_, rfl, rfl⟩
  subst e
  rw [decm.trim_itoa] at h
  have := (decm.itoa_short hm).1
  omega
theorem ans_err {s : List UInt8} (h : ∀ v, ¬ Lib.atoiAll s = .ok v) : Ans s 0 false := by
  refine .inr ⟨fun m hm e => ?_, rfl, rfl⟩
  subst e
  exact h m (decm.atoi_itoa m hm)
theorem ans_other {s : List UInt8} {v : Int} (h : Lib.atoiAll s = .ok v) (hn : ¬ Lib.itoa v = s) : Ans s 0 false := by
  refine .inr ⟨fun m hm e => ?_, rfl, rfl⟩
  subst e
  rw [decm.atoi_itoa m hm] at h
  injection h with h
  subst h
  exact hn rfl
theorem ans_yes {s : List UInt8} {v : Int} (hl : (Lib.trimPrefix s [45]).length ≤ 9) (hn : Lib.itoa v = s) : Ans s v true := by
  refine .inl ⟨?_, hn, rfl⟩
  subst hn
  rw [decm.trim_itoa] at hl
  exact decm.digs_bound _ hl

set_option maxHeartbeats 400000 in
theorem impl_any (s : ByteArray) (w : World) (hs : s.size ≤ 1048576) (hh : Held w) :
    Calls Tryd.prog 13 #[.string s] w (SomeAns s w) := by
  have HH := Lib.hid hh
  clear hh
  have hsz : (⟨(Lib.trimPrefix s.data.toList [45]).toArray⟩ : ByteArray).size = (Lib.trimPrefix s.data.toList [45]).length := size_of_list _
  by_cases hlong : 9 < (Lib.trimPrefix s.data.toList [45]).length
  · have HA := Lib.hid (ans_long hlong)
    go_enter Tryd.func13, Tryd.ntmps13
    go_wp2_with (go_at_call 25; refine (trim_any s _).mono ?_; rintro e w' ⟨rfl, rfl⟩)
    go_ret2
    exact ⟨_, _, HA.out, rfl, Below.refl _ _⟩
  · have hl9 : (Lib.trimPrefix s.data.toList [45]).length ≤ 9 := by omega
    clear hlong
    cases h : Lib.atoiAll s.data.toList
    case ok v =>
      have H := Lib.hid h
      clear h
      obtain ⟨hv0, hv1⟩ := Lib.atoiAll_bounds H.out
      by_cases hn : Lib.itoa v = s.data.toList
      · have ht : (Lib.itoa v == s.toList) = true := by rw [beq_iff_eq, ByteArray.toList_eq, hn]
        have HA := Lib.hid (ans_yes hl9 hn)
        clear hn
        go_enter Tryd.func13, Tryd.ntmps13
        go_wp2_with (go_at_call 25; refine (trim_any s _).mono ?_; rintro e w' ⟨rfl, rfl⟩)
        refine (atoi_ok s v _ (by omega) H.out).mono ?_
        rintro e w1 ⟨rfl, b1⟩
        go_wp2_with fail
        refine (dec.impl_any v _ hv0 hv1 (HH.out.below b1).tab).mono ?_
        rintro e w2 ⟨rfl, b2⟩
        go_wp2
        go_ret2
        exact ⟨_, _, HA.out, rfl, b1.trans (b2.mono b1.size)⟩
      · have ht : (Lib.itoa v == s.toList) = false := by
          rw [beq_eq_false_iff_ne, ByteArray.toList_eq]
          exact hn
        have HA := Lib.hid (ans_other H.out hn)
        clear hn
        go_enter Tryd.func13, Tryd.ntmps13
        go_wp2_with (go_at_call 25; refine (trim_any s _).mono ?_; rintro e w' ⟨rfl, rfl⟩)
        refine (atoi_ok s v _ (by omega) H.out).mono ?_
        rintro e w1 ⟨rfl, b1⟩
        go_wp2_with fail
        refine (dec.impl_any v _ hv0 hv1 (HH.out.below b1).tab).mono ?_
        rintro e w2 ⟨rfl, b2⟩
        go_wp2
        go_ret2
        exact ⟨_, _, HA.out, rfl, b1.trans (b2.mono b1.size)⟩
    case range =>
      have H := Lib.hid h
      have HA := Lib.hid (ans_err (s := s.data.toList) (by rw [h]; intro v hv; cases hv))
      clear h
      obtain ⟨a, ha⟩ := HH.out.rng
      have HV := Lib.hid ha
      clear ha
      go_enter Tryd.func13, Tryd.ntmps13
      go_wp2_with (go_at_call 25; refine (trim_any s _).mono ?_; rintro e w' ⟨rfl, rfl⟩)
      refine (Tryd.strconv_Atoi_range_var s (by omega) H.out _ _ _ HV.out).mono ?_
      rintro e w1 ⟨N, rfl, -, -, b1⟩
      go_wp2
      go_ret2
      exact ⟨_, _, HA.out, rfl, b1⟩
    all_goals
      have H := Lib.hid h
      have HA := Lib.hid (ans_err (s := s.data.toList) (by rw [h]; intro v hv; cases hv))
      clear h
      obtain ⟨a, ha⟩ := HH.out.syn
      have HV := Lib.hid ha
      clear ha
      go_enter Tryd.func13, Tryd.ntmps13
      go_wp2_with (go_at_call 25; refine (trim_any s _).mono ?_; rintro e w' ⟨rfl, rfl⟩)
      refine (Any.strconv_Atoi_syntax_var Tryd.laysC172 s (by omega) H.out _ _ _ HV.out).mono ?_
      rintro e w1 ⟨N, rfl, -, -, b1⟩
      go_wp2
      go_ret2
      exact ⟨_, _, HA.out, rfl, b1⟩

/-! ### The model -/
/-- The loop's relation: behind I bytes n says the digits among them, k their count. -/
def Rel (s : ByteArray) (n k i : Value) : Prop := ∃ I : Nat, I ≤ 11 ∧ I ≤ s.size ∧ i = .int .i64 I ∧ n = .int .i64 (dv (s.data.toList.take I)) ∧ k = .int .i64 (dn (s.data.toList.take I))

theorem bounds (s : ByteArray) (I : Nat) (h : I ≤ 11) : dv (s.data.toList.take I) < 100000000000 ∧ dn (s.data.toList.take I) ≤ 11 := by
  have h1 := decm.dv_lt (s.data.toList.take I)
  have h2 := decm.dn_le (s.data.toList.take I)
  have h3 : (s.data.toList.take I).length ≤ I := List.length_take_le _ _
  have h5 : (10 : Nat) ^ dn (s.data.toList.take I) ≤ 10 ^ 11 := Nat.pow_le_pow_right (by omega) (by omega)
  have h6 : (10 : Nat) ^ 11 = 100000000000 := by decide
  omega

theorem next_yes (s : ByteArray) (I : Nat) (h : I < s.size) (hd : isDg s[I]) : dv (s.data.toList.take (I + 1)) = dv (s.data.toList.take I) * 10 + (s[I].toNat - 48) ∧ dn (s.data.toList.take (I + 1)) = dn (s.data.toList.take I) + 1 := by
  rw [take_snoc s I h, decm.dv_snoc, decm.dn_snoc, if_pos hd, decm.step_yes _ hd]
  exact ⟨rfl, rfl⟩
theorem next_no (s : ByteArray) (I : Nat) (h : I < s.size) (hd : ¬ isDg s[I]) : dv (s.data.toList.take (I + 1)) = dv (s.data.toList.take I) ∧ dn (s.data.toList.take (I + 1)) = dn (s.data.toList.take I) := by
  rw [take_snoc s I h, decm.dv_snoc, decm.dn_snoc, if_neg hd, decm.step_no _ hd]
  exact ⟨rfl, rfl⟩

/-- The loop ends where the string ends, or behind eleven bytes. -/
theorem whole (s : ByteArray) (I : Nat) (h : I ≤ 11) (hs : I ≤ s.size) (hlt : ¬ (I < s.size ∧ I < 11)) (h10 : s.size ≤ 10) : I = s.size ∧ s.data.toList.take I = s.data.toList := by
  have e : I = s.size := by omega
  refine ⟨e, List.take_of_length_le ?_⟩
  rw [Array.length_toList]
  have : s.data.size = s.size := rfl
  omega

theorem head_is (s : ByteArray) (h : 0 < s.size) : s.data.toList.head? = some s[0] := by
  have h0 : 0 < s.data.size := h
  rw [List.head?_eq_getElem?, Array.getElem?_toList, Array.getElem?_eq_getElem h0]
  rfl

/-- What the model makes of s's digits. -/
def num (s : ByteArray) (I : Nat) (neg : Bool) : Int := if neg then -(dv (s.data.toList.take I) : Int) else (dv (s.data.toList.take I) : Int)

theorem num_itoa {s : ByteArray} {m : Int} (h : Lib.itoa m = s.data.toList) (neg : Bool) (hn : neg = true ↔ s.data.toList.head? = some 45) {I : Nat} (hI : s.data.toList.take I = s.data.toList) : num s I neg = m := by
  unfold num
  rw [hI]
  have := (decm.itoa_dv m).1
  rw [h] at this
  cases neg with
  | true => rw [if_pos (hn.1 rfl)] at this; simp; omega
  | false =>
    have hh : ¬ s.data.toList.head? = some 45 := fun h => by simpa using hn.2 h
    rw [if_neg hh] at this
    simp
    omega

/-- HOW THE MODEL ENDS: too many digits, too long, or another numeral: (0, false); else its number. -/
theorem ends_no (s : ByteArray) (I : Nat) (neg : Bool) (hn : neg = true ↔ s.data.toList.head? = some 45) (h : I ≤ 11) (hs : I ≤ s.size) (hlt : ¬ (I < s.size ∧ I < 11))
    (hf : 9 < dn (s.data.toList.take I) ∨ 10 < s.size ∨ ¬ Lib.itoa (num s I neg) = s.data.toList) : Ans s.data.toList 0 false := by
  refine .inr ⟨fun m hm e => ?_, rfl, rfl⟩
  obtain ⟨h1, h2⟩ := decm.itoa_short hm
  rw [e, Array.length_toList] at h2
  have hsz : s.data.size = s.size := rfl
  obtain ⟨hI, ht⟩ := whole s I h hs hlt (by omega)
  rcases hf with hf | hf | hf
  · rw [ht, ← e, (decm.itoa_dv m).2] at hf
    omega
  · omega
  · rw [num_itoa e neg hn ht] at hf
    exact hf e

theorem ends_yes (s : ByteArray) (I : Nat) (neg : Bool) (hk : dn (s.data.toList.take I) ≤ 9) (he : Lib.itoa (num s I neg) = s.data.toList) : Ans s.data.toList (num s I neg) true := by
  refine .inl ⟨?_, he, rfl⟩
  have h1 := decm.dv_lt (s.data.toList.take I)
  have h5 : (10 : Nat) ^ dn (s.data.toList.take I) ≤ 10 ^ 9 := Nat.pow_le_pow_right (by omega) hk
  have h6 : (10 : Nat) ^ 9 = 1000000000 := by decide
  unfold num
  split <;> omega

set_option maxRecDepth 100000 in
set_option maxHeartbeats 3200000 in
theorem spec_any (s : ByteArray) (w : World) (hs : s.size ≤ 1048576) :
    Calls Tryd.prog 19 #[.string s] w (SomeAns s w) := by
  go_enter Tryd.func19, Tryd.ntmps19
  go_wp2
  go_loop [4, 5, 6] (fun n k i => Rel s n k i) (fun _ _ i => (11 - intOf i).toNat)
  case atStart => exact ⟨0, by omega, by omega, rfl, rfl, rfl⟩
  case round =>
    obtain ⟨I, hI, hIs, rfl, rfl, rfl⟩ := hrel
    have hb := bounds s I hI
    by_cases hlt : I < s.size ∧ I < 11
    · obtain ⟨hls, hl11⟩ := hlt
      have hls' : (I : Int) < (s.size : Int) := by omega
      have hl11' : (I : Int) < 11 := by omega
      have hc := s[I].toNat_lt
      by_cases hd : isDg s[I]
      · have HN := Lib.hid (next_yes s I hls hd)
        have hd1 : (48 : Int) ≤ (s[I].toNat : Int) := by have := hd.1; omega
        have hd2 : (s[I].toNat : Int) ≤ 57 := by have := hd.2; omega
        clear hd
        go_wp2
        go_round
        case rel => exact ⟨I + 1, by omega, by omega, by go_num, by rw [HN.out.1]; go_num, by rw [HN.out.2]; go_num⟩
        case measure => simp [intOf]; omega
      · have HN := Lib.hid (next_no s I hls hd)
        have hd1 : (s[I].toNat : Int) < 48 ∨ (57 : Int) < (s[I].toNat : Int) := by unfold isDg at hd; omega
        clear hd
        rcases hd1 with hd1 | hd1
        · go_wp2
          go_round
          case rel => exact ⟨I + 1, by omega, by omega, by go_num, by rw [HN.out.1], by rw [HN.out.2]⟩
          case measure => simp [intOf]; omega
        · have hd0 : (48 : Int) ≤ (s[I].toNat : Int) := by omega
          go_wp2
          go_round
          case rel => exact ⟨I + 1, by omega, by omega, by go_num, by rw [HN.out.1], by rw [HN.out.2]⟩
          case measure => simp [intOf]; omega
    · by_cases hend : I < s.size
      · have hB1 : (I : Int) < (s.size : Int) := by omega
        have hB2 : ¬ (I : Int) < 11 := by omega
        have HA := Lib.hid (ends_no s I (decide (s.data.toList.head? = some 45)) (by simp) hI hIs hlt (.inr (.inl (by omega))))
        have hl' : (10 : Int) < (s.size : Int) := by omega
        have hz' : decide ((0 : Int) < (s.size : Int)) = true := by simp; omega
        clear hlt
        go_wp2
        all_goals
          go_ret2
          exact ⟨_, _, HA.out, rfl, Below.refl _ _⟩
      have hA1 : ¬ (I : Int) < (s.size : Int) := by omega
      have hA2 : decide ((I : Int) < (s.size : Int)) = false := decide_eq_false hA1
      have hA3 : decide (I < s.size) = false := decide_eq_false hend
      by_cases hz : s.size = 0
      · have hneg : (false = true ↔ s.data.toList.head? = some 45) := by
          have : s.data.toList = [] := by
            have : s.data.toList.length = 0 := by rw [Array.length_toList]; exact hz
            exact List.length_eq_zero_iff.1 this
          rw [this]
          simp
        have hz' : ¬ 0 < s.size := by omega
        have hz2 : s.size ≤ 0 := by omega
        clear hz
        by_cases hk : 9 < dn (s.data.toList.take I)
        · have HA := Lib.hid (ends_no s I false hneg hI hIs hlt (.inl hk))
          have hk' : (9 : Int) < (dn (s.data.toList.take I) : Int) := by omega
          clear hlt hneg
          go_wp2
          go_ret2
          exact ⟨_, _, HA.out, rfl, Below.refl _ _⟩
        · have hk' : ¬ (9 : Int) < (dn (s.data.toList.take I) : Int) := by omega
          by_cases hl : 10 < s.size
          · have HA := Lib.hid (ends_no s I false hneg hI hIs hlt (.inr (.inl hl)))
            have hl' : (10 : Int) < (s.size : Int) := by omega
            clear hlt hneg
            go_wp2
            go_ret2
            exact ⟨_, _, HA.out, rfl, Below.refl _ _⟩
          · have hl' : ¬ (10 : Int) < (s.size : Int) := by omega
            by_cases he : Lib.itoa ((dv (s.data.toList.take I) : Int)) = s.data.toList
            · have HA := Lib.hid (show Ans s.data.toList ((dv (s.data.toList.take I) : Int)) true from ends_yes s I false (by omega) he)
              have ht : (Lib.itoa ((dv (s.data.toList.take I) : Int)) == s.toList) = true := by rw [beq_iff_eq, ByteArray.toList_eq, he]
              clear he hlt hneg
              go_wp2_with fail
              refine (dec.spec_any _ _ (by omega) (by omega)).mono ?_
              rintro e w1 ⟨rfl, b1⟩
              go_wp2
              go_ret2
              exact ⟨_, _, HA.out, rfl, b1⟩
            · have HA := Lib.hid (ends_no s I false hneg hI hIs hlt (.inr (.inr he)))
              have ht : (Lib.itoa ((dv (s.data.toList.take I) : Int)) == s.toList) = false := by
                rw [beq_eq_false_iff_ne, ByteArray.toList_eq]
                exact he
              clear he hlt hneg
              go_wp2_with fail
              refine (dec.spec_any _ _ (by omega) (by omega)).mono ?_
              rintro e w1 ⟨rfl, b1⟩
              go_wp2
              go_ret2
              exact ⟨_, _, HA.out, rfl, b1⟩
      · have hz' : decide ((0 : Int) < (s.size : Int)) = true := by simp; omega
        have hz2 : 0 < s.size := by omega
        have hhead := head_is s hz2
        clear hz
        by_cases h45 : s[0].toNat = 45
        · have hneg : (true = true ↔ s.data.toList.head? = some 45) := by rw [hhead]; simp; exact UInt8.toNat_inj.1 (by simpa using h45)
          have h45' : ((s[0].toNat : Int) == 45) = true := by rw [beq_iff_eq]; omega
          clear h45 hhead
          by_cases hk : 9 < dn (s.data.toList.take I)
          · have HA := Lib.hid (ends_no s I true hneg hI hIs hlt (.inl hk))
            have hk' : (9 : Int) < (dn (s.data.toList.take I) : Int) := by omega
            clear hlt hneg
            go_wp2
            go_ret2
            exact ⟨_, _, HA.out, rfl, Below.refl _ _⟩
          · have hk' : ¬ (9 : Int) < (dn (s.data.toList.take I) : Int) := by omega
            by_cases hl : 10 < s.size
            · have HA := Lib.hid (ends_no s I true hneg hI hIs hlt (.inr (.inl hl)))
              have hl' : (10 : Int) < (s.size : Int) := by omega
              clear hlt hneg
              go_wp2
              go_ret2
              exact ⟨_, _, HA.out, rfl, Below.refl _ _⟩
            · have hl' : ¬ (10 : Int) < (s.size : Int) := by omega
              by_cases he : Lib.itoa (-(dv (s.data.toList.take I) : Int)) = s.data.toList
              · have HA := Lib.hid (show Ans s.data.toList (-(dv (s.data.toList.take I) : Int)) true from ends_yes s I true (by omega) he)
                have ht : (Lib.itoa (-(dv (s.data.toList.take I) : Int)) == s.toList) = true := by rw [beq_iff_eq, ByteArray.toList_eq, he]
                clear he hlt hneg
                go_wp2_with fail
                refine (dec.spec_any _ _ (by omega) (by omega)).mono ?_
                rintro e w1 ⟨rfl, b1⟩
                go_wp2
                go_ret2
                exact ⟨_, _, HA.out, rfl, b1⟩
              · have HA := Lib.hid (ends_no s I true hneg hI hIs hlt (.inr (.inr he)))
                have ht : (Lib.itoa (-(dv (s.data.toList.take I) : Int)) == s.toList) = false := by
                  rw [beq_eq_false_iff_ne, ByteArray.toList_eq]
                  exact he
                clear he hlt hneg
                go_wp2_with fail
                refine (dec.spec_any _ _ (by omega) (by omega)).mono ?_
                rintro e w1 ⟨rfl, b1⟩
                go_wp2
                go_ret2
                exact ⟨_, _, HA.out, rfl, b1⟩
        · have hneg : (false = true ↔ s.data.toList.head? = some 45) := by
            rw [hhead]
            simp
            intro h
            exact h45 (by rw [h]; rfl)
          have h45' : ((s[0].toNat : Int) == 45) = false := by rw [beq_eq_false_iff_ne]; omega
          clear h45 hhead
          by_cases hk : 9 < dn (s.data.toList.take I)
          · have HA := Lib.hid (ends_no s I false hneg hI hIs hlt (.inl hk))
            have hk' : (9 : Int) < (dn (s.data.toList.take I) : Int) := by omega
            clear hlt hneg
            go_wp2
            go_ret2
            exact ⟨_, _, HA.out, rfl, Below.refl _ _⟩
          · have hk' : ¬ (9 : Int) < (dn (s.data.toList.take I) : Int) := by omega
            by_cases hl : 10 < s.size
            · have HA := Lib.hid (ends_no s I false hneg hI hIs hlt (.inr (.inl hl)))
              have hl' : (10 : Int) < (s.size : Int) := by omega
              clear hlt hneg
              go_wp2
              go_ret2
              exact ⟨_, _, HA.out, rfl, Below.refl _ _⟩
            · have hl' : ¬ (10 : Int) < (s.size : Int) := by omega
              by_cases he : Lib.itoa ((dv (s.data.toList.take I) : Int)) = s.data.toList
              · have HA := Lib.hid (show Ans s.data.toList ((dv (s.data.toList.take I) : Int)) true from ends_yes s I false (by omega) he)
                have ht : (Lib.itoa ((dv (s.data.toList.take I) : Int)) == s.toList) = true := by rw [beq_iff_eq, ByteArray.toList_eq, he]
                clear he hlt hneg
                go_wp2_with fail
                refine (dec.spec_any _ _ (by omega) (by omega)).mono ?_
                rintro e w1 ⟨rfl, b1⟩
                go_wp2
                go_ret2
                exact ⟨_, _, HA.out, rfl, b1⟩
              · have HA := Lib.hid (ends_no s I false hneg hI hIs hlt (.inr (.inr he)))
                have ht : (Lib.itoa ((dv (s.data.toList.take I) : Int)) == s.toList) = false := by
                  rw [beq_eq_false_iff_ne, ByteArray.toList_eq]
                  exact he
                clear he hlt hneg
                go_wp2_with fail
                refine (dec.spec_any _ _ (by omega) (by omega)).mono ?_
                rintro e w1 ⟨rfl, b1⟩
                go_wp2
                go_ret2
                exact ⟨_, _, HA.out, rfl, b1⟩

/-- THE WALK: the law's own text. -/
theorem walk (s : ByteArray) (w : World) (hs : s.size ≤ maxLen) (hh : Held w) :
    Calls Tryd.prog 5 #[.string s] w fun e w' => e = .returned (.bool true) ∧ Below w.heap.size w w' := by
  have hm := hs
  unfold maxLen at hm
  have HH := Lib.hid hh
  clear hh
  by_cases hbig : 1048576 < s.size
  · go_enter Tryd.func5, Tryd.ntmps5
    go_wp2
    go_ret
    exact ⟨rfl, Below.refl _ _⟩
  · go_enter Tryd.func5, Tryd.ntmps5
    go_wp2_with fail
    refine (spec_any s _ (by omega)).mono ?_
    rintro e w1 ⟨n, b, ha, rfl, b1⟩
    have HA := Lib.hid ha
    clear ha
    go_wp2_with fail
    refine (impl_any s _ (by omega) (HH.out.below b1)).mono ?_
    rintro e w2 ⟨n', b', ha', rfl, b2⟩
    obtain ⟨rfl, rfl⟩ := decm.ans_one HA.out ha'
    clear ha' HA
    go_wp2
    go_ret
    exact ⟨rfl, b1.trans (b2.mono b1.size)⟩
end Go.Proofs.YtjphfigfmbgmkaaDoor.readDec
namespace Go.Proofs.YtjphfigfmbgmkaaDoor.readDec
open Go.ChangeShapes Go.WideShapes Go.ChangeAt Go.RowKit
open Go.ChangeMaps (open_string shut_string)
theorem own : ownKnob Tryd.prog.godebug = none := by kernel_rfl

theorem contract (H : Type) (enc : TypeId × Value → H) (W : World) (base : Nat) (args : Array Value) (ds gs : List (DataW H)) (before : List MemPlace)
    (hval : ∀ (j : Nat) t v, Tryd.f5.params[j]? = some t → args[j]? = some v → Value.okWide Tryd.prog W .any base t v)
    (hW : DataW.Whole enc Tryd.prog Tryd.f5.params.toList Rows.fnExactReadDecSpec.vars false W args.toList ds gs before) (hL0 : laidMetH Tryd.prog Rows.fnExactReadDecRow.laid W) :
    Calls Tryd.prog 5 args W fun e W' => ∃ v, e = .returned v ∧ Rows.fnExactReadDecSpec.post enc Tryd.prog Tryd.f5 false true false false W args v W' := by
  have hL : laidMet Tryd.prog Rows.fnExactReadDecRow.laid W := hL0
  have hW' := hW
  obtain ⟨p, q, hA0, hV, rfl, hfz, hnd⟩ := hW
  have hA : DataW.TrodAll enc Tryd.prog W 0 (fun _ => true) true Tryd.f5.params.toList args.toList ds p := hA0
  rw [Tryd.params5] at hA hval
  obtain ⟨v0, vs0, d0, ds0, p0, q0, hargs, rfl, rfl, h0, r0⟩ := trodAll_cons hA
  obtain ⟨rfl, rfl, rfl⟩ := trodAll_nil r0
  obtain rfl : args = #[v0] := by cases args; simp_all
  obtain ⟨rfl, rfl⟩ := trodVars_none hV
  obtain ⟨a0, rfl, rfl, rfl, w0⟩ := open_string Tryd.underlying9 (hval 0 9 v0 rfl rfl) h0
  clear hA0
  refine (walk a0 W w0 (held hL)).mono fun e W' ⟨he, bel⟩ => ?_
  subst he
  exact ⟨_, rfl, _, _, _, [], _, [], hW', trodAll_mk1 (shut_bool Tryd.underlying4 _), (trodAll_cons_mk (shut_string Tryd.underlying9 w0) trodAll_mk0), rfl, bel.frame _, fun h => by cases h⟩

theorem laid_met (os : Os) : laidMet Tryd.prog Rows.fnExactReadDecRow.laid ((laidWorld os).forCall (fun _ _ => 0) ⟨#[], #[.string ⟨#[]⟩], []⟩).memory :=
  laidMet_of_run' 8 (by kernel_rfl) (by kernel_rfl)
theorem reads (os : Os) {H : Type} (enc : TypeId × Value → H) : ∃ places, DataW.whole enc Tryd.prog ((laidWorld os).forCall (fun _ _ => 0) ⟨#[], #[.string ⟨#[]⟩], []⟩).memory Tryd.f5.params.toList Rows.fnExactReadDecSpec.vars false #[Value.string ⟨#[]⟩].toList 8 = some ([.lit (.string [])], [], places) :=
  ⟨[], by kernel_rfl⟩

set_option maxRecDepth 100000 in
theorem lifted (os : Os) (started : os.Started) (H : Type) (enc : TypeId × Value → H) (F : Stop.Interp) :
    ReturnsInHanded {} Tryd.checked os 5 .any ((OpenSpec.ofChange Rows.fnExactReadDecSpec).preRow enc Tryd.prog Tryd.f5 Rows.fnExactReadDecRow.domain false Rows.fnExactReadDecRow.laid) (((OpenSpec.ofChange Rows.fnExactReadDecSpec).at F).post enc Tryd.prog Tryd.f5 false true false false) := by
  obtain ⟨places, hx⟩ := reads os enc
  refine returnsInHanded_of_row (C := Tryd.checked) (s := OpenSpec.ofChange Rows.fnExactReadDecSpec) own started (by kernel_rfl) Tryd.func5
    (witness_row_at (enc := enc) (C := Tryd.checked) false (laidWorld os) #[.string ⟨#[]⟩] rfl (by kernel_rfl) (by kernel_rfl) (by kernel_rfl)
      (OpenSpec.preRow_of_cond 8 hx (by kernel_rfl) (fun k hk => by cases hk) (by kernel_rfl) (laid_met os))) ?_
  intro W base args ds gs before hval hW _ _ _ hL _ _
  exact contract H enc W base args ds gs before hval hW hL

theorem said : Rows.FnExactReadDecSaid :=
  OpenClaim.holds_of_cond 5 Tryd.f5 rfl rfl rfl rfl rfl rfl rfl ⟨rfl, rfl, rfl, rfl, rfl⟩ rfl rfl rfl rfl rfl (by kernel_rfl) Tryd.func5 (by kernel_rfl)
    (of_decide_eq_true (by kernel_rfl)) (by unfold Func.isWrapper; first | (rw [if_pos (by decide +kernel)]; kernel_rfl) | (rw [if_neg (by decide +kernel)]; exact ⟨rfl, rfl⟩))
    (fun os started H enc _ F => by rw [OpenClaim.pre_eq_preRow]; exact lifted os started H enc F)

/-- No parameter wants a stand-in; the program's own looks are as the card says. -/
theorem plain (f : FuncId) (fn : Func) (hf : Tryd.pinned.checked.prog.funcNamed "loop.example/g01543/laws.FnExactReadDec" = some f) (hfn : Tryd.pinned.checked.prog.funcs[f]? = some fn) :
    Rows.fnExactReadDecCard.stood.looks = Tryd.pinned.checked.prog.looks [] ∧ ∀ (j : Nat) t, fn.params[j]? = some t → Tryd.pinned.checked.prog.wantsStandIn t = false := by
  obtain rfl : f = 5 := Option.some.inj ((show Tryd.prog.funcNamed "loop.example/g01543/laws.FnExactReadDec" = some 5 by kernel_rfl).symm.trans hf) |>.symm
  obtain rfl : fn = Tryd.f5 := (Option.some.inj (Tryd.func5.symm.trans hfn)).symm
  refine ⟨by kernel_rfl, fun j t ht => ?_⟩
  rw [Tryd.params5] at ht
  have hm := Array.mem_of_getElem? ht
  simp only [List.mem_toArray, List.mem_cons, List.not_mem_nil, or_false] at hm
  rcases hm with rfl
  · exact (show Tryd.prog.wantsStandIn 9 = false by kernel_rfl)

end Go.Proofs.YtjphfigfmbgmkaaDoor.readDec
namespace Go.Proofs.YtjphfigfmbgmkaaDoor
/-- The card. -/
theorem fnExactReadDec_card : Rows.FnExactReadDecCardSaid :=
  Claim7.holds_tied_plain_at .later [] _ _ _ _ readDec.said (fun _ h => by cases h) (by kernel_rfl) (fun _ h => by cases h) fnExactReadDec_row_tie rfl ⟨rfl, rfl⟩ (by kernel_rfl) rfl readDec.plain (by kernel_rfl)
end Go.Proofs.YtjphfigfmbgmkaaDoor
