/-
  A position that came in ('open_pos'); laws.toPos, laws.eqPos: contracts.
-/
import Derived.Test.YtldkhdoboieibaaOpenNd
import Derived.Test.YtldkhdoboieibaaKidParts
namespace Go.Proofs.Ytldkhdoboieibaa.ps
open Go.ChangeShapes Go.WideShapes Go.ChangeAt Go.RowKit Go.Deep
open lv (box_below)
set_option linter.unusedVariables false
set_option maxRecDepth 20000
theorem cellsPos : Try.prog.cellsOf 37 = 5 := by kernel_rfl
theorem cellsInt : Try.prog.cellsOf 3 = 1 := by kernel_rfl
theorem cellsBool : Try.prog.cellsOf 4 = 1 := by kernel_rfl
theorem open_pos {H : Type} {enc : TypeId × Value → H} {W : World} {base : Nat} {v : Value} {d : DataW H} {p : List MemPlace} (hv : Value.okWide Try.prog W .any base 37 v)
    (h : DataW.Trod enc Try.prog W 0 (fun _ => true) true 37 v d p) :
    ∃ (L : Int) (d i g s : Bool), v = .agg #[.int .i64 L, .bool d, .bool i, .bool g, .bool s] := by
  obtain ⟨cs, rfl, hsz⟩ := okWide_struct Try.underlying37 hv
  obtain ⟨v0, v1, v2, v3, v4, rfl⟩ := nd.array5 (hsz.trans cellsPos)
  obtain ⟨fuel, hf⟩ := h
  obtain ⟨y0, y1, y2, y3, y4, q, _, g0, g1, g2, g3, g4⟩ := nd.trod_struct5 Try.underlying37 hf
  simp [cellsInt, cellsBool, Value.cells] at g0 g1 g2 g3 g4
  obtain ⟨z0, e0, _, _⟩ := DataW.trod_int Try.underlying3 g0
  obtain ⟨z1, e1, _⟩ := DataW.trod_bool Try.underlying4 g1
  obtain ⟨z2, e2, _⟩ := DataW.trod_bool Try.underlying4 g2
  obtain ⟨z3, e3, _⟩ := DataW.trod_bool Try.underlying4 g3
  obtain ⟨z4, e4, _⟩ := DataW.trod_bool Try.underlying4 g4
  simp at e0 e1 e2 e3 e4
  subst e0 e1 e2 e3 e4
  exact ⟨z0, z1, z2, z3, z4, rfl⟩

set_option maxHeartbeats 800000 in
theorem eq_same (L : Int) (d i g s : Bool) (w : World) : Calls Try.prog 17 #[.agg #[.int .i64 L, .bool d, .bool i, .bool g, .bool s], .agg #[.int .i64 L, .bool d, .bool i, .bool g, .bool s]] w fun e w' => e = .returned (.bool true) ∧ Below w.heap.size w w' := by
  have h0 : (L != L) = false := by simp
  have h1 : (d != d) = false := by simp
  have h2 : (i != i) = false := by simp
  have h3 : (g != g) = false := by simp
  have h4 : (s != s) = false := by simp
  go_enter Try.func17, Try.ntmps17
  go_wp2
  go_ret
  exact ⟨rfl, (box_below w _).trans ((box_below _ _).mono (by simp))⟩

set_option maxHeartbeats 800000 in
theorem to_pos (L : Int) (d i g s : Bool) (w : World) : Calls Try.prog 18 #[.agg #[.int .i64 L, .bool d, .bool i, .bool g, .bool s]] w fun e w' => e = .returned (.agg #[.int .i64 L, .bool d, .bool i, .bool g, .bool s]) ∧ Below w.heap.size w w' := by
  go_enter Try.func18, Try.ntmps18
  go_wp2
  have h1 : Below w.heap.size w (w.alloc (.cells #[.int .i64 L, .bool d, .bool i, .bool g, .bool s] 37)) := box_below _ _
  have hs : (w.alloc (.cells #[.int .i64 L, .bool d, .bool i, .bool g, .bool s] 37)).heap.size = w.heap.size + 1 := by simp
  generalize w.alloc (.cells #[.int .i64 L, .bool d, .bool i, .bool g, .bool s] 37) = W1 at h1 hs ⊢
  have hp := (Px.start W1 L d i g s 28).keep (box_below _ (.cells #[.int .i64 L, .bool d, .bool i, .bool g, .bool s] 28))
  have hb := h1.trans (((box_below W1 (.cells #[.int .i64 L, .bool d, .bool i, .bool g, .bool s] 28)).trans ((box_below _ (.cells #[.int .i64 L, .bool d, .bool i, .bool g, .bool s] 28)).mono (by simp))).mono (by omega))
  rw [hs] at hp
  clear hs
  obtain ⟨r0, r1, r2, r3, r4, -⟩ := hp
  exact bodyPost_ret (v := .agg #[.int .i64 L, .bool d, .bool i, .bool g, .bool s]) (by simp [results, Try.results18, go_sem, r0, r1, r2, r3, r4]) rfl ⟨rfl, hb⟩
end Go.Proofs.Ytldkhdoboieibaa.ps
