/-
  'laws.FnExactFaultWord' returns true at every kind: impl.FaultWord and the model spec.FaultWord give the same word. No condition.
-/
import Derived.Test.YtlbloemmabjmoaaRows
import Derived.Test.YtlbloemmabjmoaaBase
import Derived.WalkKit
import Derived.ProofKit
import Derived.OpenShut
import Derived.ShutString
import Derived.ChangeOld
import Derived.Below
import Derived.WalkSpells
import Derived.WalkLawsBesides
namespace Go.Proofs.Ytlbloemmabjmoaa.lawFaultWord
open Go.ChangeShapes Go.WideShapes Go.ChangeAt Go.RowKit
set_option linter.unusedVariables false

def inR (n a b : Int) : Bool := decide (a ≤ n) && decide (n ≤ b)
theorem spec_in (n a b : Int) (w : World) : Calls Try.prog 15 #[.int .i64 n, .int .i64 a, .int .i64 b] w fun e w' => e = .returned (.bool (inR n a b)) ∧ w = w' := by
  by_cases h1 : a ≤ n
  · by_cases h2 : n ≤ b
    · have HE := Lib.hid (show inR n a b = true by simp [inR, h1, h2])
      go_enter Try.func15, Try.ntmps15
      go_wp2
      go_ret
      exact ⟨by rw [HE.out]; rfl, rfl⟩
    · have HE := Lib.hid (show inR n a b = false by simp [inR, h1, h2])
      go_enter Try.func15, Try.ntmps15
      go_wp2
      go_ret
      exact ⟨by rw [HE.out]; rfl, rfl⟩
  · have HE := Lib.hid (show inR n a b = false by simp [inR, h1])
    go_enter Try.func15, Try.ntmps15
    go_wp2
    go_ret
    exact ⟨by rw [HE.out]; rfl, rfl⟩

def word (n : Int) : ByteArray :=
  if n = 0 then ⟨#[110, 111, 110, 101]⟩ else if n = 1 then ⟨#[108, 97, 114, 103, 101]⟩ else if n = 2 then ⟨#[108, 101, 120]⟩ else if n = 3 then ⟨#[115, 121, 110, 116, 97, 120]⟩ else if n = 4 then ⟨#[100, 101, 101, 112]⟩ else ⟨#[]⟩
theorem ne_facts {x c : Int} (h : ¬ x = c) : (x == c) = false ∧ (x != c) = true := by simp [h]

theorem impl_any (n : Int) (w : World) : Calls Try.prog 11 #[.int .i64 n] w fun e w' => e = .returned (.string (word n)) ∧ w = w' := by
  by_cases h0 : n = 0
  · subst h0
    go_enter Try.func11, Try.ntmps11
    go_wp2
    go_ret
    exact ⟨rfl, rfl⟩
  by_cases h1 : n = 1
  · subst h1
    go_enter Try.func11, Try.ntmps11
    go_wp2
    go_ret
    exact ⟨rfl, rfl⟩
  by_cases h2 : n = 2
  · subst h2
    go_enter Try.func11, Try.ntmps11
    go_wp2
    go_ret
    exact ⟨rfl, rfl⟩
  by_cases h3 : n = 3
  · subst h3
    go_enter Try.func11, Try.ntmps11
    go_wp2
    go_ret
    exact ⟨rfl, rfl⟩
  by_cases h4 : n = 4
  · subst h4
    go_enter Try.func11, Try.ntmps11
    go_wp2
    go_ret
    exact ⟨rfl, rfl⟩
  have HE := Lib.hid (show word n = ⟨#[]⟩ by simp [word, h0, h1, h2, h3, h4])
  obtain ⟨d0, -⟩ := ne_facts h0
  obtain ⟨d1, -⟩ := ne_facts h1
  obtain ⟨d2, -⟩ := ne_facts h2
  obtain ⟨d3, -⟩ := ne_facts h3
  obtain ⟨d4, -⟩ := ne_facts h4
  clear h0 h1 h2 h3 h4
  go_enter Try.func11, Try.ntmps11
  go_wp2
  go_ret
  exact ⟨by rw [HE.out]; rfl, rfl⟩

theorem spec_any (n : Int) (w : World) : Calls Try.prog 10 #[.int .i64 n] w fun e w' => e = .returned (.string (word n)) ∧ Below w.heap.size w w' := by
  have bel : ∀ o, Below w.heap.size w (w.alloc o) := fun o => (Below.refl _ _).alloc (Nat.le_refl _) o
  have BEL := Lib.hid bel
  clear bel
  by_cases h : 0 ≤ n ∧ n ≤ 4
  · obtain rfl | rfl | rfl | rfl | rfl : n = 0 ∨ n = 1 ∨ n = 2 ∨ n = 3 ∨ n = 4 := by omega
    all_goals
      clear h
      go_enter Try.func10, Try.ntmps10
      go_wp2_with (go_at_call 15; refine (spec_in _ _ _ _).mono ?_; rintro e w' ⟨rfl, rfl⟩; simp only [inR])
      go_ret
      exact ⟨rfl, BEL.out _⟩
  · have HE := Lib.hid (show word n = ⟨#[]⟩ by unfold word; rw [if_neg (by omega), if_neg (by omega), if_neg (by omega), if_neg (by omega), if_neg (by omega)])
    have hr : inR n 0 4 = false := by simp [inR]; omega
    clear h
    go_enter Try.func10, Try.ntmps10
    go_wp2_with (go_at_call 15; refine (spec_in _ _ _ _).mono ?_; rintro e w' ⟨rfl, rfl⟩)
    go_ret
    exact ⟨by rw [HE.out]; rfl, Below.refl _ _⟩

/-- THE WALK: the law's own text. -/
theorem walk (n : Int) (w : World) (_h : (Lit.int IntKind.i64 n).wf = true) : Calls Try.prog 4 #[.int .i64 n] w fun e w' => e = .returned (.bool true) ∧ Below w.heap.size w w' := by
  clear _h
  have hd : ((word n).toList != (word n).toList) = false := by simp
  obtain ⟨x, hx⟩ : ∃ x, x = word n := ⟨_, rfl⟩
  have HX := Lib.hid hx
  rw [← hx] at hd
  clear hx
  go_enter Try.func4, Try.ntmps4
  go_wp2_with fail
  refine (spec_any n _).mono ?_
  rintro e w1 ⟨he, b1⟩
  rw [← HX.out] at he
  subst he
  go_wp2_with fail
  refine (impl_any n _).mono ?_
  rintro e w2 ⟨he, rfl⟩
  rw [← HX.out] at he
  subst he
  go_wp2
  go_ret
  exact ⟨rfl, b1⟩
end Go.Proofs.Ytlbloemmabjmoaa.lawFaultWord
namespace Go.Proofs.Ytlbloemmabjmoaa.lawFaultWord
open Go.ChangeShapes Go.WideShapes Go.ChangeAt Go.RowKit
open Go.ChangeMaps (open_string shut_string)
theorem own : ownKnob Try.prog.godebug = none := by kernel_rfl

set_option maxRecDepth 100000 in
theorem lifted (os : Os) (started : os.Started) (H : Type) (enc : TypeId × Value → H) :
    ReturnsInHanded {} Try.checked os 4 .any (Rows.fnExactFaultWordSpec.pre6 enc Try.prog Try.f4 Rows.fnExactFaultWordRow.domain false) (Rows.fnExactFaultWordSpec.post enc Try.prog Try.f4 false true false false) := by
  refine returnsInHanded_of_change (C := Try.checked) own started (by kernel_rfl) Try.func4
    (ChangeSpec.witness6 (enc := enc) (C := Try.checked) false ⟨#[], #[.int .i64 0], []⟩ 8 (by kernel_rfl) (by kernel_rfl) (by kernel_rfl) (by kernel_rfl)) ?_
  intro W base args ds gs before hval0 hW hcnd _
  have hval : ∀ (j : Nat) t v, Try.f4.params[j]? = some t → args[j]? = some v → Value.okWide Try.prog W .any base t v := hval0
  have hW' := hW
  obtain ⟨p, q, hA0, hV, rfl, hfz, hnd⟩ := hW
  have hA : DataW.TrodAll enc Try.prog W 0 (fun _ => true) true Try.f4.params.toList args.toList ds p := hA0
  rw [Try.params4] at hA hval
  obtain ⟨v0, vs0, d0, ds0, p0, q0, hargs, rfl, rfl, h0, r0⟩ := trodAll_cons hA
  obtain ⟨rfl, rfl, rfl⟩ := trodAll_nil r0
  obtain rfl : args = #[v0] := by cases args; simp_all
  obtain ⟨rfl, rfl⟩ := trodVars_none hV
  obtain ⟨a0, rfl, rfl, rfl, w0⟩ := open_int Try.underlying3 (hval 0 3 v0 rfl rfl) h0
  clear hA0 hval0
  refine (walk a0 W w0).mono fun e W' ⟨he, bel⟩ => ?_
  subst he
  exact ⟨_, rfl, _, _, _, [], _, [], hW', trodAll_mk1 (shut_bool Try.underlying4 _), (trodAll_cons_mk (shut_int Try.underlying3 w0) trodAll_mk0), rfl, bel.frame _, fun h => by cases h⟩

theorem over : Rows.fnExactFaultWordRow.holds Try.pinned (OpenSpec.ofChange Rows.fnExactFaultWordSpec) :=
  OpenClaim.holds_of_wide 4 Try.f4 rfl rfl rfl rfl rfl rfl rfl ⟨rfl, rfl, rfl, rfl, rfl⟩ rfl rfl rfl rfl rfl (by kernel_rfl) Try.func4 (by kernel_rfl)
    (of_decide_eq_true (by kernel_rfl)) (by unfold Func.isWrapper; first | (rw [if_pos (by decide +kernel)]; kernel_rfl) | (rw [if_neg (by decide +kernel)]; exact ⟨rfl, rfl⟩))
    (fun os started H enc _ => lifted os started H enc)
end Go.Proofs.Ytlbloemmabjmoaa.lawFaultWord
namespace Go.Proofs.Ytlbloemmabjmoaa
/-- The statement. -/
theorem fnExactFaultWord_holds : Rows.FnExactFaultWordSaid := lawFaultWord.over
end Go.Proofs.Ytlbloemmabjmoaa
