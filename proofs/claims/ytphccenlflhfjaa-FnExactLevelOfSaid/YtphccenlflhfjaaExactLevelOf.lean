/-
  'laws.FnExactLevelOf' returns true at every node, and leaves it as it was: impl.LevelOf and the model spec.LevelOf give the same number. No condition.
-/
import Derived.Test.YtphccenlflhfjaaRows
import Derived.Test.YtphccenlflhfjaaOpenNd
import Derived.Test.YtphccenlflhfjaaNdEq
import Derived.Test.YtphccenlflhfjaaLevelOf
import Derived.Deep.RegionHeld3
import Derived.Deep.DeepHandedRow
import Derived.Lib.SmallJoins
namespace Go.Proofs.Ytphccenlflhfjaa.lawLevelOf
open Go.ChangeShapes Go.WideShapes Go.ChangeAt Go.RowKit
open Go.ChangeMaps (open_string shut_string)
open nd
set_option linter.unusedVariables false

/-- Both boxes of the last comparison, with the rows of their kids. -/
structure Fin (w v W : World) (t : Nd) (a : Option Addr) (cap b : Nat) : Prop where
  x : lv.Bx w W t.k t.op t.s t.t (.slice a t.kids.length cap)
  y : lv.Bx v W t.k t.op t.s t.t (.slice (some ⟨b, 0, none⟩) t.kids.length t.kids.length)
  xi : Ints W.heap.size W a t.kids
  yi : Ints W.heap.size W (some ⟨b, 0, none⟩) t.kids
theorem Fin.drew {w v W : World} {t : Nd} {a : Option Addr} {cap b : Nat} (h : Fin w v W t a cap b) : Fin w v W.drew t a cap b :=
  ⟨⟨h.x.c0, h.x.c1, h.x.c2, h.x.c3, h.x.c4, h.x.b.drew, h.x.lt⟩, ⟨h.y.c0, h.y.c1, h.y.c2, h.y.c3, h.y.c4, h.y.b.drew, h.y.lt⟩, h.xi, h.yi⟩
theorem Fin.keep {w v W w1 : World} {t : Nd} {a : Option Addr} {cap b : Nat} (h : Fin w v W t a cap b) (hk : Below W.heap.size W w1) : Fin w v w1 t a cap b :=
  ⟨h.x.keep hk, h.y.keep hk, (h.xi.keep hk (Nat.le_refl _)).up hk.size, (h.yi.keep hk (Nat.le_refl _)).up hk.size⟩
theorem fin_start {w v W : World} {t : Nd} {a : Option Addr} {cap b : Nat} (h : Fin w v W t a cap b) :
    (W.cell? ⟨w.heap.size, 0, none⟩ = some (.int .i64 t.k) ∧ W.cell? ⟨w.heap.size, 1, none⟩ = some (.int .i64 t.op) ∧ W.cell? ⟨w.heap.size, 2, none⟩ = some (.string t.s) ∧ W.cell? ⟨w.heap.size, 3, none⟩ = some (.string t.t) ∧ W.cell? ⟨w.heap.size, 4, none⟩ = some (.slice a t.kids.length cap) ∧ W.cell? ⟨v.heap.size, 0, none⟩ = some (.int .i64 t.k) ∧ W.cell? ⟨v.heap.size, 1, none⟩ = some (.int .i64 t.op) ∧ W.cell? ⟨v.heap.size, 2, none⟩ = some (.string t.s) ∧ W.cell? ⟨v.heap.size, 3, none⟩ = some (.string t.t) ∧ W.cell? ⟨v.heap.size, 4, none⟩ = some (.slice (some ⟨b, 0, none⟩) t.kids.length t.kids.length)) ∧ Fin w v W t a cap b :=
  ⟨⟨h.x.c0, h.x.c1, h.x.c2, h.x.c3, h.x.c4, h.y.c0, h.y.c1, h.y.c2, h.y.c3, h.y.c4⟩, h⟩
theorem on {w W : World} {k op : Int} {s t : ByteArray} {v : Value} {a : Option Addr} {l : List Int} (h : Ints w.heap.size w a l) (x : lv.Bx w W k op s t v) : Ints W.heap.size W a l :=
  (h.keep x.b (Nat.le_refl _)).up x.b.size

set_option maxHeartbeats 3200000 in
/-- THE WALK: the law's own text. -/
theorem walk (t : Nd) (a : Option Addr) (cap : Nat) (w : World) (hf : t.fit) (hi : Ints w.heap.size w a t.kids) :
    Calls Try.prog 4 #[.agg #[.int .i64 t.k, .int .i64 t.op, .string t.s, .string t.t, .slice a t.kids.length cap]] w fun e w' => e = .returned (.bool true) ∧ Below w.heap.size w w' := by
  have HI := Lib.hid hi
  have HF := Lib.hid hf
  have HX := Lib.hid (lv.Bx.start w t.k t.op t.s t.t (.slice a t.kids.length cap) 26)
  clear hi hf
  by_cases h1 : ((t.s.size + t.t.size + t.kids.length : Nat) : Int) ≤ 1048576
  · obtain ⟨L, hL⟩ : ∃ L : Int, L = 1048576 - ((t.s.size + t.t.size + t.kids.length : Nat) : Int) := ⟨_, rfl⟩
    have H1 := Lib.hid (show leftI (t.s.size + t.t.size + t.kids.length) 1048576 = L by rw [hL]; exact left_yes h1)
    have hs : t.s.size ≤ 1048576 := by omega
    have ht : t.t.size ≤ 1048576 := by omega
    have hk : t.kids.length ≤ 1048576 := by omega
    have z1 : ¬ L < 0 := by omega
    obtain ⟨G, hG⟩ : ∃ G, G = lv.levelOf t.k t.op := ⟨_, rfl⟩
    have HG := Lib.hid hG
    have hgg : (G != G) = false := by simp
    clear h1 hL hG
    go_enter Try.func4, Try.ntmps4
    go_wp2_with fail
    refine (size_node t.k t.op t.s t.t a t.kids.length cap 1048576 _ (by omega) (by omega) HF.out.1 HF.out.2.1 HF.out.2.2).mono ?_
    rintro e w1 ⟨he, b1⟩
    rw [H1.out] at he
    subst he
    have X1 := Lib.hid (HX.out.keep b1)
    obtain ⟨c10, c11, c12, c13, c14, -, -⟩ := X1.out
    clear b1
    go_wp2_with fail
    refine (to_node t a cap _ hk (on HI.out X1.out)).mono ?_
    rintro e w2 ⟨p2, q2, rfl, b2, k2⟩
    have X2 := Lib.hid (X1.out.keep b2)
    clear b2 k2
    obtain ⟨c20, c21, c22, c23, c24, -, -⟩ := X2.out
    go_wp2_with fail
    refine (lv.spec_level t.k t.op t.s t.t _ _ _ _).mono ?_
    rw [← HG.out]
    rintro e w3 ⟨rfl, b3⟩
    have X3 := Lib.hid (X2.out.keep b3)
    clear b3
    obtain ⟨c30, c31, c32, c33, c34, -, -⟩ := X3.out
    go_wp2_with fail
    refine (to_node t a cap _ hk (on HI.out X3.out)).mono ?_
    rintro e w4 ⟨p4, q4, rfl, b4, k4⟩
    have X4 := Lib.hid (X3.out.keep b4)
    have K4 := Lib.hid k4.ints
    clear b4 k4
    go_wp2_with fail
    have Y4 := Lib.hid (lv.Bx.start w4 t.k t.op t.s t.t (.slice (some ⟨p4, 0, none⟩) t.kids.length t.kids.length) 29)
    have X5 := Lib.hid (X4.out.keep (lv.box_below w4 (.cells #[.int .i64 t.k, .int .i64 t.op, .string t.s, .string t.t, .slice (some ⟨p4, 0, none⟩) t.kids.length t.kids.length] 29)))
    refine (lv.impl_level t.k t.op t.s t.t _ _ _ _).mono ?_
    rw [← HG.out]
    rintro e w8 ⟨rfl, b8⟩
    have F8 := Lib.hid (Fin.mk (X5.out.keep b8) (Y4.out.keep b8) (on HI.out (X5.out.keep b8)) (on K4.out (Y4.out.keep b8)))
    clear b8
    go_wp2
    go_region_held3 (fun w' => (w'.cell? ⟨w.heap.size, 0, none⟩ = some (.int .i64 t.k) ∧ w'.cell? ⟨w.heap.size, 1, none⟩ = some (.int .i64 t.op) ∧ w'.cell? ⟨w.heap.size, 2, none⟩ = some (.string t.s) ∧ w'.cell? ⟨w.heap.size, 3, none⟩ = some (.string t.t) ∧ w'.cell? ⟨w.heap.size, 4, none⟩ = some (.slice a t.kids.length cap) ∧ w'.cell? ⟨w4.heap.size, 0, none⟩ = some (.int .i64 t.k) ∧ w'.cell? ⟨w4.heap.size, 1, none⟩ = some (.int .i64 t.op) ∧ w'.cell? ⟨w4.heap.size, 2, none⟩ = some (.string t.s) ∧ w'.cell? ⟨w4.heap.size, 3, none⟩ = some (.string t.t) ∧ w'.cell? ⟨w4.heap.size, 4, none⟩ = some (.slice (some ⟨p4, 0, none⟩) t.kids.length t.kids.length)) ∧ Fin w w4 w' t a cap p4)
      (first | exact fin_start F8.out.drew | exact fin_start F8.out | exact fin_start ((by assumption : _ ∧ Fin _ _ _ _ _ _ _).2.keep (by assumption)) | exact fin_start (by assumption : _ ∧ Fin _ _ _ _ _ _ _).2.drew)
      (first | (go_at_call 9; refine (to_node t a cap _ hk (by assumption : _ ∧ Fin _ _ _ _ _ _ _).2.xi).mono ?_; rintro e w9 ⟨p9, q9, rfl, b9, k9⟩; have K9 := Lib.hid k9.ints; clear k9) | (go_at_call 11; refine (eq_node t t _ _ _ _ _ hk hk (by assumption : _ ∧ Fin _ _ _ _ _ _ _).2.yi K9.out).mono ?_; rintro e wa ⟨he, ba⟩; rw [decide_eq_true rfl] at he; subst he))
    have HBZ := Lib.hid (by assumption : _ ∧ Fin _ _ _ _ _ _ _).2.x.b
    go_wp2
    go_ret
    exact ⟨rfl, HBZ.out⟩
  · have H1 := Lib.hid (show leftI (t.s.size + t.t.size + t.kids.length) 1048576 = -1 from left_no h1)
    clear h1
    go_enter Try.func4, Try.ntmps4
    go_wp2_with fail
    refine (size_node t.k t.op t.s t.t a t.kids.length cap 1048576 _ (by omega) (by omega) HF.out.1 HF.out.2.1 HF.out.2.2).mono ?_
    rintro e w1 ⟨he, b1⟩
    rw [H1.out] at he
    subst he
    have X1 := Lib.hid (HX.out.keep b1)
    clear b1
    go_wp2
    go_ret
    exact ⟨rfl, X1.out.b⟩
end Go.Proofs.Ytphccenlflhfjaa.lawLevelOf
namespace Go.Proofs.Ytphccenlflhfjaa.lawLevelOf
open Go.ChangeShapes Go.WideShapes Go.ChangeAt Go.RowKit
open Go.ChangeMaps (open_string shut_string)
theorem laidOut : laidOutB Try.prog = true := by kernel_rfl
theorem own : ownKnob Try.prog.godebug = none := by kernel_rfl

set_option maxRecDepth 100000 in
theorem lifted (os : Os) (started : os.Started) (H : Type) (enc : TypeId × Value → H) :
    ReturnsInHanded {} Try.checked os 4 .any (Rows.fnExactLevelOfSpec.pre6 enc Try.prog Try.f4 Rows.fnExactLevelOfRow.domain false) (Rows.fnExactLevelOfSpec.post enc Try.prog Try.f4 false true false false) := by
  refine returnsInHanded_of_change (C := Try.checked) own started (by kernel_rfl) Try.func4
    (ChangeSpec.witness6 (enc := enc) (C := Try.checked) false ⟨#[], #[.agg #[.int .i64 0, .int .i64 0, .string ⟨#[]⟩, .string ⟨#[]⟩, .slice none 0 0]], []⟩ 8 (by kernel_rfl) (by kernel_rfl) (by kernel_rfl) (by kernel_rfl)) ?_
  intro W base args ds gs before hval0 hW hcnd _
  have hval : ∀ (j : Nat) t v, Try.f4.params[j]? = some t → args[j]? = some v → Value.okWide Try.prog W .any base t v := hval0
  have hW' := hW
  obtain ⟨p, q, hA0, hV, rfl, hfz, hnd⟩ := hW
  have hA : DataW.TrodAll enc Try.prog W 0 (fun _ => true) true Try.f4.params.toList args.toList ds p := hA0
  rw [Try.params4] at hA hval
  obtain ⟨v0, vs0, d0, ds0, p0, q0, hargs, rfl, rfl, h0, r0⟩ := trodAll_cons hA
  obtain ⟨rfl, rfl, rfl⟩ := trodAll_nil r0
  obtain rfl : args = #[v0] := by cases args; simp_all
  obtain ⟨rfl, rfl⟩ := trodVars_none hV
  have k0 := h0
  have lt0 := nd.places_lt k0
  obtain ⟨a0, c0, cap0, rfl, n0, w0⟩ := nd.open_node (hval 0 26 v0 rfl rfl) h0
  clear hA0 hval0
  refine (walk a0 c0 cap0 W n0 w0).mono fun e W' ⟨he, bel⟩ => ?_
  subst he
  exact ⟨_, rfl, _, _, _, [], _, [], hW', trodAll_mk1 (shut_bool Try.underlying4 _), (trodAll_cons_mk (Below.trod laidOut (by kernel_rfl) (of_decide_eq_true (by kernel_rfl)) k0 bel lt0) trodAll_mk0), rfl, bel.frame _, fun h => by cases h⟩

theorem over : Rows.fnExactLevelOfRow.holds Try.pinned (OpenSpec.ofChange Rows.fnExactLevelOfSpec) :=
  OpenClaim.holds_of_wide 4 Try.f4 rfl rfl rfl rfl rfl rfl rfl ⟨rfl, rfl, rfl, rfl, rfl⟩ rfl rfl rfl rfl rfl (by kernel_rfl) Try.func4 (by kernel_rfl)
    (of_decide_eq_true (by kernel_rfl)) (by unfold Func.isWrapper; first | (rw [if_pos (by decide +kernel)]; kernel_rfl) | (rw [if_neg (by decide +kernel)]; exact ⟨rfl, rfl⟩))
    (fun os started H enc _ => lifted os started H enc)
end Go.Proofs.Ytphccenlflhfjaa.lawLevelOf
namespace Go.Proofs.Ytphccenlflhfjaa
/-- The statement. -/
theorem fnExactLevelOf_holds : Rows.FnExactLevelOfSaid := lawLevelOf.over
end Go.Proofs.Ytphccenlflhfjaa
