/-
  'laws.FnExactReadFixed' returns true at every string and every width, and leaves both as they were: impl.ReadFixed and the model spec.ReadFixed give the same number and the same bool. No condition.
-/
import Derived.Test.YtjphfigfmbgmkaaRows
import Derived.Test.YtjphfigfmbgmkaaBase
import Derived.WalkKit
import Derived.ProofKit
import Derived.OpenShut
import Derived.ShutString
import Derived.ChangeOld
import Derived.Below
import Derived.WalkSpells
import Derived.WalkLawsBesides
namespace Go.Proofs.Ytjphfigfmbgmkaa.readFixed
open Go.ChangeShapes Go.WideShapes Go.ChangeAt Go.RowKit
open Go.ChangeMaps (open_string shut_string)
set_option linter.unusedVariables false

/-- The number that bytes say, the first one highest. -/
def be (l : List UInt8) : Int := l.foldl (fun n b => n * 256 + b.toNat) 0

theorem be_snoc (l : List UInt8) (b : UInt8) : be (l ++ [b]) = be l * 256 + b.toNat := by simp [be]

theorem be_bd (l : List UInt8) : 0 ≤ be l ∧ be l < (256 : Int) ^ l.length := by
  refine snoc_ind (P := fun l => 0 ≤ be l ∧ be l < (256 : Int) ^ l.length) (by simp [be]) ?_ l
  intro l b ih
  rw [be_snoc]
  have := b.toNat_lt
  simp only [List.length_append, List.length_singleton, Int.pow_succ]
  omega

theorem be_take (s : ByteArray) (k : Nat) (h : k < s.size) : be (s.data.toList.take (k + 1)) = be (s.data.toList.take k) * 256 + (s[k].toNat : Int) := by
  rw [take_snoc s k h, be_snoc]

theorem be_small (l : List UInt8) (k : Nat) (h : k ≤ 6) : 0 ≤ be (l.take k) ∧ be (l.take k) < 281474976710656 := by
  have := be_bd (l.take k)
  have h2 : (256 : Nat) ^ (l.take k).length ≤ 256 ^ 6 := Nat.pow_le_pow_right (by omega) (by simp; omega)
  have h3 : (256 : Nat) ^ 6 = 281474976710656 := by decide
  have h4 : (256 : Int) ^ (l.take k).length = ((256 ^ (l.take k).length : Nat) : Int) := by simp
  omega

theorem ret_pair {a b : Int} (h : a = b) : Ending.returned (.tuple #[.int .i64 a, .bool true]) = .returned (.tuple #[.int .i64 b, .bool true]) := by rw [h]

set_option maxHeartbeats 400000 in
theorem spec_yes (s : ByteArray) (k : Int) (w : World) (hs : s.size ≤ maxLen) (h1 : 1 ≤ k) (h7 : k ≤ 7) (hl : k ≤ s.size) :
    Calls Try.prog 11 #[.string s, .int .i64 k] w fun e w' => e = .returned (.tuple #[.int .i64 (be (s.data.toList.take k.toNat)), .bool true]) ∧ w = w' := by
  unfold maxLen at hs
  have hn : ¬ ((s.size : Int) < k) := by omega
  go_enter Try.func11, Try.ntmps11
  go_wp2
  go_loop [6, 7] (fun n i => ∃ j : Nat, (j : Int) ≤ k ∧ i = .int .i64 j ∧ n = .int .i64 (be (s.data.toList.take j))) (fun _ i => (k - intOf i).toNat)
  case atStart => exact ⟨0, by omega, rfl, rfl⟩
  case round =>
    obtain ⟨j, hj, rfl, rfl⟩ := hrel
    by_cases hlt : (j : Int) < k
    · have hb := be_small s.data.toList j (by omega)
      have hjs : j < s.size := by omega
      have hc := s[j].toNat_lt
      have HS := Lib.hid (be_take s j hjs)
      go_wp2
      go_round
      case rel => exact ⟨j + 1, by omega, by go_num, by rw [HS.out]⟩
      case measure => simp [intOf]; omega
    · go_wp2
      go_ret2
      exact ⟨ret_pair (by rw [show k.toNat = j from by omega]), rfl⟩

set_option maxHeartbeats 400000 in
theorem impl_yes (s : ByteArray) (k : Int) (w : World) (hs : s.size ≤ maxLen) (h1 : 1 ≤ k) (h7 : k ≤ 7) (hl : k ≤ s.size) :
    Calls Try.prog 12 #[.string s, .int .i64 k] w fun e w' => e = .returned (.tuple #[.int .i64 (be (s.data.toList.take k.toNat)), .bool true]) ∧ w = w' := by
  unfold maxLen at hs
  have hn : ¬ ((s.size : Int) < k) := by omega
  go_enter Try.func12, Try.ntmps12
  go_wp2
  go_loop [6, 7, 18] (fun n _ i => ∃ j : Nat, (j : Int) ≤ k ∧ i = .int .i64 j ∧ n = .int .i64 (be (s.data.toList.take j))) (fun _ _ i => (k - intOf i).toNat)
  case atStart => exact ⟨0, by omega, rfl, rfl⟩
  case round =>
    obtain ⟨j, hj, rfl, rfl⟩ := hrel
    by_cases hlt : (j : Int) < k
    · have hb := be_small s.data.toList j (by omega)
      have hjs : j < s.size := by omega
      have hc := s[j].toNat_lt
      have HS := Lib.hid (be_take s j hjs)
      have HJ := Lib.hid (i64_join 8 (be (s.data.toList.take j) * 256) s[j].toNat (by omega) (by omega) (by omega) (by omega) (by omega) (by omega))
      go_wp2
      go_round
      case rel => exact ⟨j + 1, by omega, by go_num, by rw [HS.out, HJ.out]⟩
      case measure => simp [intOf]; omega
    · go_wp2
      go_ret2
      exact ⟨ret_pair (by rw [show k.toNat = j from by omega]), rfl⟩

theorem spec_no (s : ByteArray) (k : Int) (w : World) (hs : s.size ≤ maxLen) (h : k < 1 ∨ 7 < k ∨ s.size < k) :
    Calls Try.prog 11 #[.string s, .int .i64 k] w fun e w' => e = .returned (.tuple #[.int .i64 0, .bool false]) ∧ w = w' := by
  unfold maxLen at hs
  by_cases h1 : k < 1
  · go_enter Try.func11, Try.ntmps11
    go_wp2
    go_ret2
    exact ⟨rfl, rfl⟩
  · by_cases h7 : 7 < k
    · go_enter Try.func11, Try.ntmps11
      go_wp2
      go_ret2
      exact ⟨rfl, rfl⟩
    · have hl : (s.size : Int) < k := by omega
      clear h
      go_enter Try.func11, Try.ntmps11
      go_wp2
      go_ret2
      exact ⟨rfl, rfl⟩
theorem impl_no (s : ByteArray) (k : Int) (w : World) (hs : s.size ≤ maxLen) (h : k < 1 ∨ 7 < k ∨ s.size < k) :
    Calls Try.prog 12 #[.string s, .int .i64 k] w fun e w' => e = .returned (.tuple #[.int .i64 0, .bool false]) ∧ w = w' := by
  unfold maxLen at hs
  by_cases h1 : k < 1
  · go_enter Try.func12, Try.ntmps12
    go_wp2
    go_ret2
    exact ⟨rfl, rfl⟩
  · by_cases h7 : 7 < k
    · go_enter Try.func12, Try.ntmps12
      go_wp2
      go_ret2
      exact ⟨rfl, rfl⟩
    · have hl : (s.size : Int) < k := by omega
      clear h
      go_enter Try.func12, Try.ntmps12
      go_wp2
      go_ret2
      exact ⟨rfl, rfl⟩

/-- THE WALK: the law's own text. -/
theorem walk (s : ByteArray) (k : Int) (w : World) (hs : s.size ≤ maxLen) (wk : (Lit.int .i64 k).wf = true) :
    Calls Try.prog 4 #[.string s, .int .i64 k] w fun e w' => e = .returned (.bool true) ∧ Below w.heap.size w w' := by
  have hm := hs
  unfold maxLen at hm
  by_cases hbig : 1048576 < s.size
  · go_enter Try.func4, Try.ntmps4
    go_wp2
    go_ret
    exact ⟨rfl, Below.refl _ _⟩
  · by_cases h : 1 ≤ k ∧ k ≤ 7 ∧ k ≤ s.size
    · obtain ⟨h1, h7, hl⟩ := h
      go_enter Try.func4, Try.ntmps4
      go_wp2_with (first | (go_at_call 11; refine (spec_yes s k _ hs h1 h7 hl).mono ?_; rintro e w' ⟨rfl, rfl⟩) | (go_at_call 12; refine (impl_yes s k _ hs h1 h7 hl).mono ?_; rintro e w' ⟨rfl, rfl⟩))
      go_ret
      exact ⟨rfl, Below.refl _ _⟩
    · have h' : k < 1 ∨ 7 < k ∨ s.size < k := by omega
      clear h
      have H := Lib.hid h'
      clear h'
      go_enter Try.func4, Try.ntmps4
      go_wp2_with (first | (go_at_call 11; refine (spec_no s k _ hs H.out).mono ?_; rintro e w' ⟨rfl, rfl⟩) | (go_at_call 12; refine (impl_no s k _ hs H.out).mono ?_; rintro e w' ⟨rfl, rfl⟩))
      go_ret
      exact ⟨rfl, Below.refl _ _⟩
end Go.Proofs.Ytjphfigfmbgmkaa.readFixed
namespace Go.Proofs.Ytjphfigfmbgmkaa.readFixed
open Go.ChangeShapes Go.WideShapes Go.ChangeAt Go.RowKit
open Go.ChangeMaps (open_string shut_string)
theorem own : ownKnob Try.prog.godebug = none := by kernel_rfl

set_option maxRecDepth 100000 in
theorem lifted (os : Os) (started : os.Started) (H : Type) (enc : TypeId × Value → H) :
    ReturnsInHanded {} Try.checked os 4 .any (Rows.fnExactReadFixedSpec.pre6 enc Try.prog Try.f4 Rows.fnExactReadFixedRow.domain false) (Rows.fnExactReadFixedSpec.post enc Try.prog Try.f4 false true false false) := by
  refine returnsInHanded_of_change (C := Try.checked) own started (by kernel_rfl) Try.func4
    (ChangeSpec.witness6 (enc := enc) (C := Try.checked) false ⟨#[], #[.string ⟨#[]⟩, .int .i64 0], []⟩ 8 (by kernel_rfl) (by kernel_rfl) (by kernel_rfl) (by kernel_rfl)) ?_
  intro W base args ds gs before hval0 hW hcnd _
  have hval : ∀ (j : Nat) t v, Try.f4.params[j]? = some t → args[j]? = some v → Value.okWide Try.prog W .any base t v := hval0
  have hW' := hW
  obtain ⟨p, q, hA0, hV, rfl, hfz, hnd⟩ := hW
  have hA : DataW.TrodAll enc Try.prog W 0 (fun _ => true) true Try.f4.params.toList args.toList ds p := hA0
  rw [Try.params4] at hA hval
  obtain ⟨v0, vs0, d0, ds0, p0, q0, hargs, rfl, rfl, h0, r0⟩ := trodAll_cons hA
  obtain ⟨v1, vs1, d1, ds1, p1, q1, rfl, rfl, rfl, h1, r1⟩ := trodAll_cons r0
  obtain ⟨rfl, rfl, rfl⟩ := trodAll_nil r1
  obtain rfl : args = #[v0, v1] := by cases args; simp_all
  obtain ⟨rfl, rfl⟩ := trodVars_none hV
  obtain ⟨a0, rfl, rfl, rfl, w0⟩ := open_string Try.underlying9 (hval 0 9 v0 rfl rfl) h0
  obtain ⟨a1, rfl, rfl, rfl, w1⟩ := open_int Try.underlying3 (hval 1 3 v1 rfl rfl) h1
  clear hA0 hval0
  refine (walk a0 a1 W w0 w1).mono fun e W' ⟨he, bel⟩ => ?_
  subst he
  exact ⟨_, rfl, _, _, _, [], _, [], hW', trodAll_mk1 (shut_bool Try.underlying4 _), (trodAll_cons_mk (shut_string Try.underlying9 w0) (trodAll_cons_mk (shut_int Try.underlying3 w1) trodAll_mk0)), rfl, bel.frame _, fun h => by cases h⟩

theorem over : Rows.fnExactReadFixedRow.holds Try.pinned (OpenSpec.ofChange Rows.fnExactReadFixedSpec) :=
  OpenClaim.holds_of_wide 4 Try.f4 rfl rfl rfl rfl rfl rfl rfl ⟨rfl, rfl, rfl, rfl, rfl⟩ rfl rfl rfl rfl rfl (by kernel_rfl) Try.func4 (by kernel_rfl)
    (of_decide_eq_true (by kernel_rfl)) (by unfold Func.isWrapper; first | (rw [if_pos (by decide +kernel)]; kernel_rfl) | (rw [if_neg (by decide +kernel)]; exact ⟨rfl, rfl⟩))
    (fun os started H enc _ => lifted os started H enc)
end Go.Proofs.Ytjphfigfmbgmkaa.readFixed
namespace Go.Proofs.Ytjphfigfmbgmkaa
/-- The statement. -/
theorem fnExactReadFixed_holds : Rows.FnExactReadFixedSaid := readFixed.over
end Go.Proofs.Ytjphfigfmbgmkaa
