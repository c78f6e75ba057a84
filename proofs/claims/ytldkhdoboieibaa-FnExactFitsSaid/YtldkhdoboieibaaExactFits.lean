/-
  'laws.FnExactFits' returns true at every node and every position, and leaves the node as it was: impl.Fits and the model spec.Fits say the same. No condition.
-/
import Derived.Test.YtldkhdoboieibaaRows
import Derived.Test.YtldkhdoboieibaaLb
import Derived.Test.YtldkhdoboieibaaFits
import Derived.Deep.DeepHandedRow
namespace Go.Proofs.Ytldkhdoboieibaa.lawFits
open Go.ChangeShapes Go.WideShapes Go.ChangeAt Go.RowKit
open Go.ChangeMaps (open_string shut_string)
open nd
set_option linter.unusedVariables false
set_option maxRecDepth 20000

set_option maxHeartbeats 3200000 in
/-- THE WALK: the law's own text. -/
theorem walk (t : Nd) (a : Option Addr) (cap : Nat) (L : Int) (d i g s : Bool) (w : World) (hf : t.fit) (hi : Ints w.heap.size w a t.kids) :
    Calls Try.prog 6 #[.agg #[.int .i64 t.k, .int .i64 t.op, .string t.s, .string t.t, .slice a t.kids.length cap], .agg #[.int .i64 L, .bool d, .bool i, .bool g, .bool s]] w fun e w' => e = .returned (.bool true) ∧ Below w.heap.size w w' := by
  have HF := Lib.hid hf
  have HX := Lib.hid (lb.Lb.start w t a cap L d i g s hi)
  clear hi hf
  by_cases h1 : ((t.s.size + t.t.size + t.kids.length : Nat) : Int) ≤ 1048576
  · obtain ⟨Z, hZ⟩ : ∃ Z : Int, Z = 1048576 - ((t.s.size + t.t.size + t.kids.length : Nat) : Int) := ⟨_, rfl⟩
    have H1 := Lib.hid (show leftI (t.s.size + t.t.size + t.kids.length) 1048576 = Z by rw [hZ]; exact left_yes h1)
    have hs : t.s.size ≤ 1048576 := by omega
    have ht : t.t.size ≤ 1048576 := by omega
    have hk : t.kids.length ≤ 1048576 := by omega
    have z1 : ¬ Z < 0 := by omega
    obtain ⟨G, hG⟩ : ∃ G, ps.fits t.k t.op L d i g s = G := ⟨_, rfl⟩
    have HG := Lib.hid hG
    have hgg : (G != G) = false := by simp
    clear h1 hZ hG
    go_enter Try.func6, Try.ntmps6
    go_wp2_with fail
    refine (size_node t.k t.op t.s t.t a t.kids.length cap 1048576 _ (by omega) (by omega) HF.out.1 HF.out.2.1 HF.out.2.2).mono ?_
    rintro e w1 ⟨he, b1⟩
    rw [H1.out] at he
    subst he
    have X1 := Lib.hid (HX.out.keep b1)
    obtain ⟨⟨c10, c11, c12, c13, c14, p10, p11, p12, p13, p14⟩, -⟩ := X1.out.cells
    clear b1
    go_wp2_with fail
    go_region_held3 (fun w' => (w'.cell? ⟨w.heap.size, 0, none⟩ = some (.int .i64 t.k) ∧ w'.cell? ⟨w.heap.size, 1, none⟩ = some (.int .i64 t.op) ∧ w'.cell? ⟨w.heap.size, 2, none⟩ = some (.string t.s) ∧ w'.cell? ⟨w.heap.size, 3, none⟩ = some (.string t.t) ∧ w'.cell? ⟨w.heap.size, 4, none⟩ = some (.slice a t.kids.length cap) ∧ w'.cell? ⟨w.heap.size + 1, 0, none⟩ = some (.int .i64 L) ∧ w'.cell? ⟨w.heap.size + 1, 1, none⟩ = some (.bool d) ∧ w'.cell? ⟨w.heap.size + 1, 2, none⟩ = some (.bool i) ∧ w'.cell? ⟨w.heap.size + 1, 3, none⟩ = some (.bool g) ∧ w'.cell? ⟨w.heap.size + 1, 4, none⟩ = some (.bool s)) ∧ lb.Lb w w' t a cap L d i g s)
      (first | with_reducible exact X1.out.cells | with_reducible exact X1.out.drew.cells | with_reducible exact ((by assumption : _ ∧ lb.Lb _ _ _ _ _ _ _ _ _ _).2.keep (by assumption)).cells | with_reducible exact (by assumption : _ ∧ lb.Lb _ _ _ _ _ _ _ _ _ _).2.drew.cells)
      (first | (go_at_call 21; refine (to_node t a cap _ hk (by assumption : _ ∧ lb.Lb _ _ _ _ _ _ _ _ _ _).2.xi).mono ?_; rintro e w2 ⟨p2, q2, rfl, b2, k2⟩; clear k2) | (go_at_call 18; refine (ps.to_pos L d i g s _).mono ?_; rintro e w3 ⟨rfl, b3⟩) | (go_at_call 20; refine (ps.spec_fits t.k t.op L t.s t.t _ _ _ d i g s _).mono ?_; rw [HG.out]; rintro e w4 ⟨rfl, b4⟩))
    have X2 := Lib.hid (by assumption : _ ∧ lb.Lb _ _ _ _ _ _ _ _ _ _).2
    obtain ⟨⟨c20, c21, c22, c23, c24, p20, p21, p22, p23, p24⟩, -⟩ := X2.out.cells
    go_wp2_with fail
    refine (to_node t a cap _ hk X2.out.xi).mono ?_
    rintro e w5 ⟨p5, q5, rfl, b5, k5⟩
    have X5 := Lib.hid (X2.out.keep b5)
    have K5 := Lib.hid k5.ints
    clear b5 k5
    obtain ⟨⟨c50, c51, c52, c53, c54, p50, p51, p52, p53, p54⟩, -⟩ := X5.out.cells
    have Y5 := Lib.hid (lv.Bx.start w5 t.k t.op t.s t.t (.slice (some ⟨p5, 0, none⟩) t.kids.length t.kids.length) 26)
    have F5 := Lib.hid (lb.Fb.mk (X5.out.keep Y5.out.b) Y5.out (lb.on K5.out Y5.out))
    go_wp2_with fail
    go_region_held3 (fun w' => (w'.cell? ⟨w.heap.size, 0, none⟩ = some (.int .i64 t.k) ∧ w'.cell? ⟨w.heap.size, 1, none⟩ = some (.int .i64 t.op) ∧ w'.cell? ⟨w.heap.size, 2, none⟩ = some (.string t.s) ∧ w'.cell? ⟨w.heap.size, 3, none⟩ = some (.string t.t) ∧ w'.cell? ⟨w.heap.size, 4, none⟩ = some (.slice a t.kids.length cap) ∧ w'.cell? ⟨w.heap.size + 1, 0, none⟩ = some (.int .i64 L) ∧ w'.cell? ⟨w.heap.size + 1, 1, none⟩ = some (.bool d) ∧ w'.cell? ⟨w.heap.size + 1, 2, none⟩ = some (.bool i) ∧ w'.cell? ⟨w.heap.size + 1, 3, none⟩ = some (.bool g) ∧ w'.cell? ⟨w.heap.size + 1, 4, none⟩ = some (.bool s) ∧ w'.cell? ⟨w5.heap.size, 0, none⟩ = some (.int .i64 t.k) ∧ w'.cell? ⟨w5.heap.size, 1, none⟩ = some (.int .i64 t.op) ∧ w'.cell? ⟨w5.heap.size, 2, none⟩ = some (.string t.s) ∧ w'.cell? ⟨w5.heap.size, 3, none⟩ = some (.string t.t) ∧ w'.cell? ⟨w5.heap.size, 4, none⟩ = some (.slice (some ⟨p5, 0, none⟩) t.kids.length t.kids.length)) ∧ lb.Fb w w5 w' t a cap p5 L d i g s)
      (first | with_reducible exact F5.out.cells | with_reducible exact F5.out.drew.cells | with_reducible exact ((by assumption : _ ∧ lb.Fb _ _ _ _ _ _ _ _ _ _ _ _).2.keep (by assumption)).cells | with_reducible exact (by assumption : _ ∧ lb.Fb _ _ _ _ _ _ _ _ _ _ _ _).2.drew.cells)
      (first | (go_at_call 18; refine (ps.to_pos L d i g s _).mono ?_; rintro e w3 ⟨rfl, b3⟩) | (go_at_call 22; refine (ps.impl_fits t.k t.op L t.s t.t _ _ _ d i g s _).mono ?_; rw [HG.out]; rintro e w6 ⟨rfl, b6⟩))
    have F6 := Lib.hid (by assumption : _ ∧ lb.Fb _ _ _ _ _ _ _ _ _ _ _ _).2
    obtain ⟨⟨c60, c61, c62, c63, c64, p60, p61, p62, p63, p64, y60, y61, y62, y63, y64⟩, -⟩ := F6.out.cells
    go_wp2_with fail
    go_region_held3 (fun w' => (w'.cell? ⟨w.heap.size, 0, none⟩ = some (.int .i64 t.k) ∧ w'.cell? ⟨w.heap.size, 1, none⟩ = some (.int .i64 t.op) ∧ w'.cell? ⟨w.heap.size, 2, none⟩ = some (.string t.s) ∧ w'.cell? ⟨w.heap.size, 3, none⟩ = some (.string t.t) ∧ w'.cell? ⟨w.heap.size, 4, none⟩ = some (.slice a t.kids.length cap) ∧ w'.cell? ⟨w.heap.size + 1, 0, none⟩ = some (.int .i64 L) ∧ w'.cell? ⟨w.heap.size + 1, 1, none⟩ = some (.bool d) ∧ w'.cell? ⟨w.heap.size + 1, 2, none⟩ = some (.bool i) ∧ w'.cell? ⟨w.heap.size + 1, 3, none⟩ = some (.bool g) ∧ w'.cell? ⟨w.heap.size + 1, 4, none⟩ = some (.bool s) ∧ w'.cell? ⟨w5.heap.size, 0, none⟩ = some (.int .i64 t.k) ∧ w'.cell? ⟨w5.heap.size, 1, none⟩ = some (.int .i64 t.op) ∧ w'.cell? ⟨w5.heap.size, 2, none⟩ = some (.string t.s) ∧ w'.cell? ⟨w5.heap.size, 3, none⟩ = some (.string t.t) ∧ w'.cell? ⟨w5.heap.size, 4, none⟩ = some (.slice (some ⟨p5, 0, none⟩) t.kids.length t.kids.length)) ∧ lb.Fb w w5 w' t a cap p5 L d i g s)
      (first | with_reducible exact F6.out.cells | with_reducible exact F6.out.drew.cells | with_reducible exact ((by assumption : _ ∧ lb.Fb _ _ _ _ _ _ _ _ _ _ _ _).2.keep (by assumption)).cells | with_reducible exact (by assumption : _ ∧ lb.Fb _ _ _ _ _ _ _ _ _ _ _ _).2.drew.cells)
      (first | (go_at_call 21; refine (to_node t a cap _ hk (by assumption : _ ∧ lb.Fb _ _ _ _ _ _ _ _ _ _ _ _).2.l.xi).mono ?_; rintro e w9 ⟨p9, q9, rfl, b9, k9⟩; have K9 := Lib.hid k9.ints; clear k9) | (go_at_call 23; refine (eq_node t t _ _ _ _ _ hk hk (by assumption : _ ∧ lb.Fb _ _ _ _ _ _ _ _ _ _ _ _).2.yi K9.out).mono ?_; rintro e wa ⟨he, ba⟩; rw [decide_eq_true rfl] at he; subst he))
    have HBZ := Lib.hid (by assumption : _ ∧ lb.Fb _ _ _ _ _ _ _ _ _ _ _ _).2.l.x.b
    go_wp2
    go_ret
    exact ⟨rfl, HBZ.out⟩
  · have H1 := Lib.hid (show leftI (t.s.size + t.t.size + t.kids.length) 1048576 = -1 from left_no h1)
    clear h1
    go_enter Try.func6, Try.ntmps6
    go_wp2_with fail
    refine (size_node t.k t.op t.s t.t a t.kids.length cap 1048576 _ (by omega) (by omega) HF.out.1 HF.out.2.1 HF.out.2.2).mono ?_
    rintro e w1 ⟨he, b1⟩
    rw [H1.out] at he
    subst he
    have X1 := Lib.hid (HX.out.keep b1)
    clear b1
    go_wp2
    go_ret
    exact ⟨rfl, X1.out.x.b⟩
end Go.Proofs.Ytldkhdoboieibaa.lawFits
namespace Go.Proofs.Ytldkhdoboieibaa.lawFits
open Go.ChangeShapes Go.WideShapes Go.ChangeAt Go.RowKit
open Go.ChangeMaps (open_string shut_string)
theorem laidOut : laidOutB Try.prog = true := by kernel_rfl
theorem own : ownKnob Try.prog.godebug = none := by kernel_rfl

set_option maxRecDepth 100000 in
theorem lifted (os : Os) (started : os.Started) (H : Type) (enc : TypeId × Value → H) :
    ReturnsInHanded {} Try.checked os 6 .any (Rows.fnExactFitsSpec.pre6 enc Try.prog Try.f6 Rows.fnExactFitsRow.domain false) (Rows.fnExactFitsSpec.post enc Try.prog Try.f6 false true false false) := by
  refine returnsInHanded_of_change (C := Try.checked) own started (by kernel_rfl) Try.func6
    (ChangeSpec.witness6 (enc := enc) (C := Try.checked) false ⟨#[], #[.agg #[.int .i64 0, .int .i64 0, .string ⟨#[]⟩, .string ⟨#[]⟩, .slice none 0 0], .agg #[.int .i64 0, .bool false, .bool false, .bool false, .bool false]], []⟩ 8 (by kernel_rfl) (by kernel_rfl) (by kernel_rfl) (by kernel_rfl)) ?_
  intro W base args ds gs before hval0 hW hcnd _
  have hval : ∀ (j : Nat) t v, Try.f6.params[j]? = some t → args[j]? = some v → Value.okWide Try.prog W .any base t v := hval0
  have hW' := hW
  obtain ⟨p, q, hA0, hV, rfl, hfz, hnd⟩ := hW
  have hA : DataW.TrodAll enc Try.prog W 0 (fun _ => true) true Try.f6.params.toList args.toList ds p := hA0
  rw [Try.params6] at hA hval
  obtain ⟨v0, vs0, d0, ds0, p0, q0, hargs, rfl, rfl, h0, r0⟩ := trodAll_cons hA
  obtain ⟨v1, vs1, d1, ds1, p1, q1, rfl, rfl, rfl, h1, r1⟩ := trodAll_cons r0
  obtain ⟨rfl, rfl, rfl⟩ := trodAll_nil r1
  obtain rfl : args = #[v0, v1] := by cases args; simp_all
  obtain ⟨rfl, rfl⟩ := trodVars_none hV
  have k0 := h0
  have lt0 := nd.places_lt k0
  obtain ⟨a0, c0, cap0, rfl, n0, w0⟩ := nd.open_node (hval 0 40 v0 rfl rfl) h0
  have k1 := h1
  have lt1 := nd.places_lt k1
  obtain ⟨a1l, a1d, a1i, a1g, a1s, rfl⟩ := ps.open_pos (hval 1 37 v1 rfl rfl) h1
  clear hA0 hval0
  refine (walk a0 c0 cap0 a1l a1d a1i a1g a1s W n0 w0).mono fun e W' ⟨he, bel⟩ => ?_
  subst he
  exact ⟨_, rfl, _, _, _, [], _, [], hW', trodAll_mk1 (shut_bool Try.underlying4 _), (trodAll_cons_mk (Below.trod laidOut (by kernel_rfl) (of_decide_eq_true (by kernel_rfl)) k0 bel lt0) (trodAll_cons_mk (Below.trod laidOut (by kernel_rfl) (of_decide_eq_true (by kernel_rfl)) k1 bel lt1) trodAll_mk0)), rfl, bel.frame _, fun h => by cases h⟩

theorem over : Rows.fnExactFitsRow.holds Try.pinned (OpenSpec.ofChange Rows.fnExactFitsSpec) :=
  OpenClaim.holds_of_wide 6 Try.f6 rfl rfl rfl rfl rfl rfl rfl ⟨rfl, rfl, rfl, rfl, rfl⟩ rfl rfl rfl rfl rfl (by kernel_rfl) Try.func6 (by kernel_rfl)
    (of_decide_eq_true (by kernel_rfl)) (by unfold Func.isWrapper; first | (rw [if_pos (by decide +kernel)]; kernel_rfl) | (rw [if_neg (by decide +kernel)]; exact ⟨rfl, rfl⟩))
    (fun os started H enc _ => lifted os started H enc)
end Go.Proofs.Ytldkhdoboieibaa.lawFits
namespace Go.Proofs.Ytldkhdoboieibaa
/-- The statement. -/
theorem fnExactFits_holds : Rows.FnExactFitsSaid := lawFits.over
end Go.Proofs.Ytldkhdoboieibaa
