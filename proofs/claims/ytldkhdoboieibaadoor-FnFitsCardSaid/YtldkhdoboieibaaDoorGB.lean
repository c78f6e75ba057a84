/-
  Positions of expressions: Top, PosOk, Fits of both sides: contracts.
  The positions of kids: what impl.KidPos and spec.KidPos call: contracts.
  spec.Fits: its contract.
-/
import Derived.Test.YtldkhdoboieibaaDoorChars
import Derived.Test.YtldkhdoboieibaaDoorLevelOf
import Derived.Laws.StructEq
import Derived.Deep.RegionLaw
import Derived.Deep.CutRange
import Derived.Deep.CutBlock
import Derived.Deep.DeepCutAuto
namespace Go.Proofs.YtldkhdoboieibaaDoor.ps
open Go.ChangeShapes Go.WideShapes Go.ChangeAt Go.RowKit
open chars (inR)
open lv (levelOf opLevel box_below Bx)
set_option linter.unusedVariables false
set_option maxRecDepth 20000

/-- A position. -/
structure Ps where
  l : Int
  d : Bool
  i : Bool
  g : Bool
  s : Bool
def posOk (L : Int) (d : Bool) : Bool := inR L 1 15 && (!d || L == 14)
def forb (k op : Int) (i g s : Bool) : Bool := (i && k == 13) || (g && (k == 12 && op == 62)) || (s && (k == 11 || k == 9 || k == 4))
def fits (k op L : Int) (d i g s : Bool) : Bool := posOk L d && !(levelOf k op == 0) && !forb k op i g s && ((d && k == 9) || decide (L ≤ levelOf k op))

/-- The box of a position, at block b. -/
structure Px (b : Nat) (W : World) (L : Int) (d i g s : Bool) : Prop where
  c0 : W.cell? ⟨b, 0, none⟩ = some (.int .i64 L)
  c1 : W.cell? ⟨b, 1, none⟩ = some (.bool d)
  c2 : W.cell? ⟨b, 2, none⟩ = some (.bool i)
  c3 : W.cell? ⟨b, 3, none⟩ = some (.bool g)
  c4 : W.cell? ⟨b, 4, none⟩ = some (.bool s)
  lt : b < W.heap.size
theorem Px.start (w : World) (L : Int) (d i g s : Bool) (ty : TypeId) : Px w.heap.size (w.alloc (.cells #[.int .i64 L, .bool d, .bool i, .bool g, .bool s] ty)) L d i g s := by
  have hh := heap_alloc_new w (.cells #[.int .i64 L, .bool d, .bool i, .bool g, .bool s] ty)
  refine ⟨?_, ?_, ?_, ?_, ?_, by simp⟩
  · rw [cell_of_row _ _ 0 _ _ _ hh]; rfl
  · rw [cell_of_row _ _ 1 _ _ _ hh]; rfl
  · rw [cell_of_row _ _ 2 _ _ _ hh]; rfl
  · rw [cell_of_row _ _ 3 _ _ _ hh]; rfl
  · rw [cell_of_row _ _ 4 _ _ _ hh]; rfl
theorem Px.keep {b : Nat} {W w1 : World} {L : Int} {d i g s : Bool} (h : Px b W L d i g s) (hb : Below W.heap.size W w1) : Px b w1 L d i g s :=
  ⟨(hb.cell (p := ⟨b, 0, none⟩) h.lt).trans h.c0, (hb.cell (p := ⟨b, 1, none⟩) h.lt).trans h.c1, (hb.cell (p := ⟨b, 2, none⟩) h.lt).trans h.c2, (hb.cell (p := ⟨b, 3, none⟩) h.lt).trans h.c3, (hb.cell (p := ⟨b, 4, none⟩) h.lt).trans h.c4, Nat.lt_of_lt_of_le h.lt hb.size⟩
theorem Px.drew {b : Nat} {W : World} {L : Int} {d i g s : Bool} (h : Px b W L d i g s) : Px b W.drew L d i g s := ⟨h.c0, h.c1, h.c2, h.c3, h.c4, h.lt⟩
theorem bx_drew {w W : World} {k op : Int} {x y : ByteArray} {v : Value} (h : Bx w W k op x y v) : Bx w W.drew k op x y v := ⟨h.c0, h.c1, h.c2, h.c3, h.c4, h.b.drew, h.lt⟩

theorem impl_top (w : World) : Calls Tryd.prog 8 #[] w fun e w' => e = .returned (.agg #[.int .i64 1, .bool false, .bool false, .bool false, .bool false]) ∧ Below w.heap.size w w' := by
  go_enter Tryd.func8, Tryd.ntmps8
  go_wp2
  have hb := And.intro (Px.start w 1 false false false false 28) (box_below w (.cells #[.int .i64 1, .bool false, .bool false, .bool false, .bool false] 28))
  generalize hW : w.alloc (.cells #[.int .i64 1, .bool false, .bool false, .bool false, .bool false] 28) = W at hb ⊢
  clear hW
  obtain ⟨⟨r0, r1, r2, r3, r4, -⟩, hbel⟩ := hb
  exact bodyPost_ret (v := .agg #[.int .i64 1, .bool false, .bool false, .bool false, .bool false]) (by simp [results, Tryd.results8, go_sem, r0, r1, r2, r3, r4]) rfl ⟨rfl, hbel⟩

set_option maxHeartbeats 800000 in
theorem impl_ok (L : Int) (d i g s : Bool) (w : World) : Calls Tryd.prog 11 #[.agg #[.int .i64 L, .bool d, .bool i, .bool g, .bool s]] w fun e w' => e = .returned (.bool (posOk L d)) ∧ Below w.heap.size w w' := by
  cases d
  · by_cases h1 : 1 ≤ L
    · have HE := Lib.hid (show posOk L false = decide (L ≤ 15) by simp [posOk, inR, h1])
      go_enter Tryd.func11, Tryd.ntmps11
      go_wp2
      go_ret
      exact ⟨by rw [HE.out]; rfl, box_below _ _⟩
    · have HE := Lib.hid (show posOk L false = false by simp [posOk, inR, h1])
      go_enter Tryd.func11, Tryd.ntmps11
      go_wp2
      go_ret
      exact ⟨by rw [HE.out]; rfl, box_below _ _⟩
  · have HE := Lib.hid (show posOk L true = (L == 14) by
      unfold posOk inR
      by_cases h : L = 14
      · subst h; rfl
      · simp [h])
    go_enter Tryd.func11, Tryd.ntmps11
    go_wp2
    go_ret
    exact ⟨by rw [HE.out]; rfl, box_below _ _⟩

set_option maxHeartbeats 800000 in
theorem spec_ok (L : Int) (d i g s : Bool) (w : World) : Calls Tryd.prog 16 #[.agg #[.int .i64 L, .bool d, .bool i, .bool g, .bool s]] w fun e w' => e = .returned (.bool (posOk L d)) ∧ Below w.heap.size w w' := by
  obtain ⟨I, hI⟩ : ∃ I, inR L 1 15 = I := ⟨_, rfl⟩
  have HI := Lib.hid hI
  clear hI
  cases I
  · have HE := Lib.hid (show posOk L d = false by unfold posOk; rw [HI.out]; rfl)
    go_enter Tryd.func16, Tryd.ntmps16
    go_wp2_with (go_at_call 24; refine (chars.spec_in _ _ _ _).mono ?_; rw [HI.out]; rintro e w' ⟨rfl, rfl⟩)
    go_ret
    exact ⟨by rw [HE.out]; rfl, box_below _ _⟩
  · cases d
    · have HE := Lib.hid (show posOk L false = true by unfold posOk; rw [HI.out]; rfl)
      go_enter Tryd.func16, Tryd.ntmps16
      go_wp2_with (go_at_call 24; refine (chars.spec_in _ _ _ _).mono ?_; rw [HI.out]; rintro e w' ⟨rfl, rfl⟩)
      go_ret
      exact ⟨by rw [HE.out]; rfl, box_below _ _⟩
    · have HE := Lib.hid (show posOk L true = (L == 14) by unfold posOk; rw [HI.out]; rfl)
      go_enter Tryd.func16, Tryd.ntmps16
      go_wp2_with (go_at_call 24; refine (chars.spec_in _ _ _ _).mono ?_; rw [HI.out]; rintro e w' ⟨rfl, rfl⟩)
      go_ret
      exact ⟨by rw [HE.out]; rfl, box_below _ _⟩

set_option maxHeartbeats 1600000 in
theorem impl_forb (k op L : Int) (x y : ByteArray) (a : Option Addr) (n cap : Nat) (d i g s : Bool) (w : World) : Calls Tryd.prog 15 #[.agg #[.int .i64 L, .bool d, .bool i, .bool g, .bool s], .agg #[.int .i64 k, .int .i64 op, .string x, .string y, .slice a n cap]] w fun e w' => e = .returned (.bool (forb k op i g s)) ∧ Below w.heap.size w w' := by
  cases i <;> cases g <;> cases s
  all_goals
    go_enter Tryd.func15, Tryd.ntmps15
    go_wp2
    all_goals
      go_ret
      exact ⟨congrArg (fun b => Ending.returned (Value.bool b)) (by simp_all [forb]), (box_below w _).trans ((box_below _ _).mono (by simp))⟩

/-- Both boxes, of a node and of a position. -/
structure Nb (w W : World) (k op : Int) (x y : ByteArray) (v : Value) (L : Int) (d i g s : Bool) : Prop where
  n : Bx w W k op x y v
  p : Px (w.heap.size + 1) W L d i g s
theorem Nb.start (w : World) (k op : Int) (x y : ByteArray) (v : Value) (L : Int) (d i g s : Bool) : Nb w ((w.alloc (.cells #[.int .i64 k, .int .i64 op, .string x, .string y, v] 26)).alloc (.cells #[.int .i64 L, .bool d, .bool i, .bool g, .bool s] 28)) k op x y v L d i g s := by
  refine ⟨(Bx.start w k op x y v 26).keep (box_below _ _), ?_⟩
  have h := Px.start (w.alloc (.cells #[.int .i64 k, .int .i64 op, .string x, .string y, v] 26)) L d i g s 28
  have e : (w.alloc (.cells #[.int .i64 k, .int .i64 op, .string x, .string y, v] 26)).heap.size = w.heap.size + 1 := by simp
  rw [e] at h
  exact h
theorem Nb.keep {w W w1 : World} {k op : Int} {x y : ByteArray} {v : Value} {L : Int} {d i g s : Bool} (h : Nb w W k op x y v L d i g s) (hb : Below W.heap.size W w1) : Nb w w1 k op x y v L d i g s :=
  ⟨h.n.keep hb, h.p.keep hb⟩
theorem Nb.drew {w W : World} {k op : Int} {x y : ByteArray} {v : Value} {L : Int} {d i g s : Bool} (h : Nb w W k op x y v L d i g s) : Nb w W.drew k op x y v L d i g s := ⟨bx_drew h.n, h.p.drew⟩
theorem nb_cells {w W : World} {k op : Int} {x y : ByteArray} {v : Value} {L : Int} {d i g s : Bool} (h : Nb w W k op x y v L d i g s) : (W.cell? ⟨w.heap.size, 0, none⟩ = some (.int .i64 k) ∧ W.cell? ⟨w.heap.size, 1, none⟩ = some (.int .i64 op) ∧ W.cell? ⟨w.heap.size, 2, none⟩ = some (.string x) ∧ W.cell? ⟨w.heap.size, 3, none⟩ = some (.string y) ∧ W.cell? ⟨w.heap.size, 4, none⟩ = some (v) ∧ W.cell? ⟨w.heap.size + 1, 0, none⟩ = some (.int .i64 L) ∧ W.cell? ⟨w.heap.size + 1, 1, none⟩ = some (.bool d) ∧ W.cell? ⟨w.heap.size + 1, 2, none⟩ = some (.bool i) ∧ W.cell? ⟨w.heap.size + 1, 3, none⟩ = some (.bool g) ∧ W.cell? ⟨w.heap.size + 1, 4, none⟩ = some (.bool s)) ∧ Nb w W k op x y v L d i g s :=
  ⟨⟨h.n.c0, h.n.c1, h.n.c2, h.n.c3, h.n.c4, h.p.c0, h.p.c1, h.p.c2, h.p.c3, h.p.c4⟩, h⟩

theorem fits_no {k op L : Int} {d i g s : Bool} (h : posOk L d = false) : fits k op L d i g s = false := by unfold fits; rw [h]; rfl
theorem fits_forb {k op L : Int} {d i g s : Bool} (h : forb k op i g s = true) : fits k op L d i g s = false := by unfold fits; rw [h]; simp
theorem ok_pos {L : Int} {d : Bool} (h : posOk L d = true) : 1 ≤ L ∧ L ≤ 15 := by
  unfold posOk inR at h
  simp only [Bool.and_eq_true, decide_eq_true_eq] at h
  exact h.1
theorem fits_le {k op L : Int} {d i g s : Bool} (h : posOk L d = true) (hf : forb k op i g s = false) : fits k op L d i g s = (decide (L ≤ levelOf k op) || (d && k == 9)) := by
  unfold fits
  rw [h, hf]
  have := ok_pos h
  by_cases h0 : levelOf k op = 0
  · rw [h0]
    by_cases h9 : k = 9
    · subst h9; exact absurd h0 (by simp [levelOf])
    · have : decide (L ≤ 0) = false := by simp; omega
      simp [h9, this]
  · have : (levelOf k op == 0) = false := by simp [h0]
    rw [this]
    simp [Bool.or_comm]

set_option maxHeartbeats 3200000 in
theorem impl_fits (k op L : Int) (x y : ByteArray) (a : Option Addr) (n cap : Nat) (d i g s : Bool) (w : World) : Calls Tryd.prog 6 #[.agg #[.int .i64 k, .int .i64 op, .string x, .string y, .slice a n cap], .agg #[.int .i64 L, .bool d, .bool i, .bool g, .bool s]] w fun e w' => e = .returned (.bool (fits k op L d i g s)) ∧ Below w.heap.size w w' := by
  have HB := Lib.hid (Nb.start w k op x y (.slice a n cap) L d i g s)
  obtain ⟨P, hP⟩ : ∃ P, posOk L d = P := ⟨_, rfl⟩
  have HP := Lib.hid hP
  clear hP
  obtain ⟨G, hG⟩ : ∃ G, forb k op i g s = G := ⟨_, rfl⟩
  have HF := Lib.hid hG
  clear hG
  obtain ⟨V, hV⟩ : ∃ V, levelOf k op = V := ⟨_, rfl⟩
  have HV := Lib.hid hV
  clear hV
  cases P
  · have HE := Lib.hid (fits_no (k := k) (op := op) (i := i) (g := g) (s := s) HP.out)
    go_enter Tryd.func6, Tryd.ntmps6
    go_wp2_with (first | (go_at_call 11; refine (impl_ok L _ i g s _).mono ?_; rw [HP.out]; rintro e w5 ⟨rfl, b5⟩; have X5 := Lib.hid (HB.out.keep b5); obtain ⟨c50, c51, c52, c53, c54, -, -⟩ := X5.out.n; obtain ⟨p50, p51, p52, p53, p54, -⟩ := X5.out.p; clear b5) | (go_at_call 15; refine (impl_forb k op L x y a n cap _ i g s _).mono ?_; rw [HF.out]; rintro e w6 ⟨rfl, b6⟩; have X6 := Lib.hid (X5.out.keep b6); obtain ⟨c60, c61, c62, c63, c64, -, -⟩ := X6.out.n; obtain ⟨p60, p61, p62, p63, p64, -⟩ := X6.out.p; clear b6))
    go_ret
    exact ⟨by rw [HE.out]; rfl, X5.out.n.b⟩
  · cases G
    · have HE := Lib.hid (fits_le HP.out HF.out)
      rw [HV.out] at HE
      by_cases h1 : L ≤ V
      · have HD := Lib.hid (show fits k op L d i g s = true by rw [HE.out]; simp [h1])
        have hd : decide (L ≤ V) = true := by simp [h1]
        go_enter Tryd.func6, Tryd.ntmps6
        go_wp2_with (first | (go_at_call 11; refine (impl_ok L _ i g s _).mono ?_; rw [HP.out]; rintro e w5 ⟨rfl, b5⟩; have X5 := Lib.hid (HB.out.keep b5); obtain ⟨c50, c51, c52, c53, c54, -, -⟩ := X5.out.n; obtain ⟨p50, p51, p52, p53, p54, -⟩ := X5.out.p; clear b5) | (go_at_call 15; refine (impl_forb k op L x y a n cap _ i g s _).mono ?_; rw [HF.out]; rintro e w6 ⟨rfl, b6⟩; have X6 := Lib.hid (X5.out.keep b6); obtain ⟨c60, c61, c62, c63, c64, -, -⟩ := X6.out.n; obtain ⟨p60, p61, p62, p63, p64, -⟩ := X6.out.p; clear b6))
        have hun : (undef : Value) = .tuple #[] := rfl
        first
          | (go_region_law (first | (go_simp; go_at_call 10; refine (lv.impl_level k op x y a n cap _).mono ?_; rw [HV.out]; rintro e w7 ⟨rfl, b7⟩; have X7 := Lib.hid (X6.out.drew.keep b7); obtain ⟨c70, c71, c72, c73, c74, -, -⟩ := X7.out.n; obtain ⟨p70, p71, p72, p73, p74, -⟩ := X7.out.p; clear b7)))
          | fail "REG"
        all_goals
          go_wp2
          go_ret
          exact ⟨by rw [HD.out]; rfl, X7.out.n.b⟩
      · cases d
        · have HD := Lib.hid (show fits k op L false i g s = false by rw [HE.out]; simp [h1])
          have hd : decide (L ≤ V) = false := by simp [h1]
          go_enter Tryd.func6, Tryd.ntmps6
          go_wp2_with (first | (go_at_call 11; refine (impl_ok L _ i g s _).mono ?_; rw [HP.out]; rintro e w5 ⟨rfl, b5⟩; have X5 := Lib.hid (HB.out.keep b5); obtain ⟨c50, c51, c52, c53, c54, -, -⟩ := X5.out.n; obtain ⟨p50, p51, p52, p53, p54, -⟩ := X5.out.p; clear b5) | (go_at_call 15; refine (impl_forb k op L x y a n cap _ i g s _).mono ?_; rw [HF.out]; rintro e w6 ⟨rfl, b6⟩; have X6 := Lib.hid (X5.out.keep b6); obtain ⟨c60, c61, c62, c63, c64, -, -⟩ := X6.out.n; obtain ⟨p60, p61, p62, p63, p64, -⟩ := X6.out.p; clear b6))
          first
            | (go_region_law (first | (go_simp; go_at_call 10; refine (lv.impl_level k op x y a n cap _).mono ?_; rw [HV.out]; rintro e w7 ⟨rfl, b7⟩; have X7 := Lib.hid (X6.out.drew.keep b7); obtain ⟨c70, c71, c72, c73, c74, -, -⟩ := X7.out.n; obtain ⟨p70, p71, p72, p73, p74, -⟩ := X7.out.p; clear b7)))
            | fail "REG"
          all_goals
            go_wp2
            go_ret
            exact ⟨by rw [HD.out]; rfl, X7.out.n.b⟩
        · have HD := Lib.hid (show fits k op L true i g s = (k == 9) by rw [HE.out]; simp [h1])
          have hd : decide (L ≤ V) = false := by simp [h1]
          go_enter Tryd.func6, Tryd.ntmps6
          go_wp2_with (first | (go_at_call 11; refine (impl_ok L _ i g s _).mono ?_; rw [HP.out]; rintro e w5 ⟨rfl, b5⟩; have X5 := Lib.hid (HB.out.keep b5); obtain ⟨c50, c51, c52, c53, c54, -, -⟩ := X5.out.n; obtain ⟨p50, p51, p52, p53, p54, -⟩ := X5.out.p; clear b5) | (go_at_call 15; refine (impl_forb k op L x y a n cap _ i g s _).mono ?_; rw [HF.out]; rintro e w6 ⟨rfl, b6⟩; have X6 := Lib.hid (X5.out.keep b6); obtain ⟨c60, c61, c62, c63, c64, -, -⟩ := X6.out.n; obtain ⟨p60, p61, p62, p63, p64, -⟩ := X6.out.p; clear b6))
          first
            | (go_region_law (first | (go_simp; go_at_call 10; refine (lv.impl_level k op x y a n cap _).mono ?_; rw [HV.out]; rintro e w7 ⟨rfl, b7⟩; have X7 := Lib.hid (X6.out.drew.keep b7); obtain ⟨c70, c71, c72, c73, c74, -, -⟩ := X7.out.n; obtain ⟨p70, p71, p72, p73, p74, -⟩ := X7.out.p; clear b7)))
            | fail "REG"
          all_goals
            go_wp2
            go_ret
            exact ⟨by rw [HD.out]; rfl, X7.out.n.b⟩
    · have HE := Lib.hid (fits_forb (L := L) (d := d) HF.out)
      go_enter Tryd.func6, Tryd.ntmps6
      go_wp2_with (first | (go_at_call 11; refine (impl_ok L _ i g s _).mono ?_; rw [HP.out]; rintro e w5 ⟨rfl, b5⟩; have X5 := Lib.hid (HB.out.keep b5); obtain ⟨c50, c51, c52, c53, c54, -, -⟩ := X5.out.n; obtain ⟨p50, p51, p52, p53, p54, -⟩ := X5.out.p; clear b5) | (go_at_call 15; refine (impl_forb k op L x y a n cap _ i g s _).mono ?_; rw [HF.out]; rintro e w6 ⟨rfl, b6⟩; have X6 := Lib.hid (X5.out.keep b6); obtain ⟨c60, c61, c62, c63, c64, -, -⟩ := X6.out.n; obtain ⟨p60, p61, p62, p63, p64, -⟩ := X6.out.p; clear b6))
      go_ret
      exact ⟨by rw [HE.out]; rfl, X6.out.n.b⟩
end Go.Proofs.YtldkhdoboieibaaDoor.ps

namespace Go.Proofs.YtldkhdoboieibaaDoor.ps
open Go.ChangeShapes Go.WideShapes Go.ChangeAt Go.RowKit
open chars (inR)
open lv (levelOf opLevel box_below Bx)
set_option linter.unusedVariables false
set_option maxRecDepth 20000


/-! ### A position's box as a block -/
def B5 (q : Nat) (L : Int) (d i g s : Bool) (w : World) : Prop := w.heap[q]? = some (.cells #[.int .i64 L, .bool d, .bool i, .bool g, .bool s] 28 (0, 0))
section
variable {q : Nat} {L : Int} {d i g s : Bool} {w w' : World}
theorem B5.lt (h : B5 q L d i g s w) : q < w.heap.size := by
  rcases Nat.lt_or_ge q w.heap.size with h' | h'
  · exact h'
  · unfold B5 at h; rw [Array.getElem?_eq_none h'] at h; cases h
theorem B5.keep {B : Nat} (h : B5 q L d i g s w) (hb : Below B w w') (hq : q < B) : B5 q L d i g s w' := (hb.block q hq).trans h
theorem B5.drew (h : B5 q L d i g s w) : B5 q L d i g s w.drew := h
theorem B5.c (h : B5 q L d i g s w) : w.cell? ⟨q, 0, none⟩ = some (.int .i64 L) ∧ w.cell? ⟨q, 1, none⟩ = some (.bool d) ∧ w.cell? ⟨q, 2, none⟩ = some (.bool i) ∧ w.cell? ⟨q, 3, none⟩ = some (.bool g) ∧ w.cell? ⟨q, 4, none⟩ = some (.bool s) :=
  ⟨by rw [cell_of_row w q 0 _ _ _ h]; rfl, by rw [cell_of_row w q 1 _ _ _ h]; rfl, by rw [cell_of_row w q 2 _ _ _ h]; rfl, by rw [cell_of_row w q 3 _ _ _ h]; rfl, by rw [cell_of_row w q 4 _ _ _ h]; rfl⟩
theorem B5.f (h : B5 q L d i g s w) (j : Nat) : w.frozen? ⟨q, j, none⟩ = false := frozen_of_row w q j _ _ h
theorem B5.new (w : World) (L : Int) (d i g s : Bool) : B5 w.heap.size L d i g s (w.alloc (.cells #[.int .i64 L, .bool d, .bool i, .bool g, .bool s] 28)) := heap_alloc_new w _
/-- Five stores. -/
def set5 (w : World) (q : Nat) (L : Int) (d i g s : Bool) : World := ((((w.setCell ⟨q, 0, none⟩ (.int .i64 L)).setCell ⟨q, 1, none⟩ (.bool d)).setCell ⟨q, 2, none⟩ (.bool i)).setCell ⟨q, 3, none⟩ (.bool g)).setCell ⟨q, 4, none⟩ (.bool s)
theorem B5.put (h : B5 q L d i g s w) (L' : Int) (d' i' g' s' : Bool) : B5 q L' d' i' g' s' (set5 w q L' d' i' g' s') :=
  heap_setCell_same _ q 4 _ _ _ (heap_setCell_same _ q 3 _ _ _ (heap_setCell_same _ q 2 _ _ _ (heap_setCell_same _ q 1 _ _ _ (heap_setCell_same _ q 0 _ _ _ h))))
theorem B5.cput (h : B5 q L d i g s w) (L' : Int) (d' i' g' s' : Bool) : (((((w.setCell ⟨q, 0, none⟩ (.int .i64 L')).setCell ⟨q, 1, none⟩ (.bool d')).setCell ⟨q, 2, none⟩ (.bool i')).setCell ⟨q, 3, none⟩ (.bool g')).setCell ⟨q, 4, none⟩ (.bool s')).cell? ⟨q, 0, none⟩ = some (.int .i64 L') ∧ (((((w.setCell ⟨q, 0, none⟩ (.int .i64 L')).setCell ⟨q, 1, none⟩ (.bool d')).setCell ⟨q, 2, none⟩ (.bool i')).setCell ⟨q, 3, none⟩ (.bool g')).setCell ⟨q, 4, none⟩ (.bool s')).cell? ⟨q, 1, none⟩ = some (.bool d') ∧ (((((w.setCell ⟨q, 0, none⟩ (.int .i64 L')).setCell ⟨q, 1, none⟩ (.bool d')).setCell ⟨q, 2, none⟩ (.bool i')).setCell ⟨q, 3, none⟩ (.bool g')).setCell ⟨q, 4, none⟩ (.bool s')).cell? ⟨q, 2, none⟩ = some (.bool i') ∧ (((((w.setCell ⟨q, 0, none⟩ (.int .i64 L')).setCell ⟨q, 1, none⟩ (.bool d')).setCell ⟨q, 2, none⟩ (.bool i')).setCell ⟨q, 3, none⟩ (.bool g')).setCell ⟨q, 4, none⟩ (.bool s')).cell? ⟨q, 3, none⟩ = some (.bool g') ∧ (((((w.setCell ⟨q, 0, none⟩ (.int .i64 L')).setCell ⟨q, 1, none⟩ (.bool d')).setCell ⟨q, 2, none⟩ (.bool i')).setCell ⟨q, 3, none⟩ (.bool g')).setCell ⟨q, 4, none⟩ (.bool s')).cell? ⟨q, 4, none⟩ = some (.bool s') :=
  (h.put L' d' i' g' s').c
theorem below_set5 {B : Nat} {W : World} (h : Below B W w) (hq : B ≤ q) (L' : Int) (d' i' g' s' : Bool) : Below B W (set5 w q L' d' i' g' s') :=
  ((((h.setCell (p := ⟨q, 0, none⟩) hq _).setCell (p := ⟨q, 1, none⟩) hq _).setCell (p := ⟨q, 2, none⟩) hq _).setCell (p := ⟨q, 3, none⟩) hq _).setCell (p := ⟨q, 4, none⟩) hq _
end
/-- The levels of the two sides, by an operator's level. -/
def sdI (v : Int) : Int × Int :=
  if v = 3 then (3, 4) else if v = 4 then (4, 5) else if v = 6 then (7, 7) else if v = 7 then (8, 8) else if v = 8 then (8, 9) else if v = 9 then (9, 10) else if v = 10 then (10, 11) else if v = 12 then (13, 11) else (0, 0)
def sdS (v : Int) : Int × Int :=
  if v = 3 then (3, 4) else if v = 4 then (4, 5) else if v = 6 then (7, 7) else if v = 7 then (8, 8) else if v = 8 then (8, 9) else if v = 9 then (9, 10) else if v = 10 then (10, 11) else (13, 11)
def lvls (k op : Int) : Int × Int :=
  if k = 15 then (14, 1) else if k = 14 then (3, 2) else if k = 13 then (5, 5) else if k = 11 then (11, 11) else if k = 9 ∨ k = 10 ∨ k = 6 then (14, 14) else sdI (opLevel op)
def brk (k op : Int) (n : Nat) : Bool := levelOf k op == 15 || (k == 13 && decide (1 < n))
def nsI (k op K : Int) (s : Bool) : Bool :=
  if k = 11 ∨ k = 9 ∨ k = 10 ∨ k = 6 then false else if k = 12 ∧ K = 1 ∧ op = 99 then true else (K == 0 && s)

end Go.Proofs.YtldkhdoboieibaaDoor.ps

namespace Go.Proofs.YtldkhdoboieibaaDoor.ps
open Go.ChangeShapes Go.WideShapes Go.ChangeAt Go.RowKit
open chars (inR)
open lv (levelOf opLevel box_below Bx)
set_option linter.unusedVariables false
set_option maxRecDepth 20000

theorem fits_eq {k op L V : Int} {d i g s C1 C2 C3 C4 : Bool} (h : posOk L d = true) (hV : levelOf k op = V) (h0 : ¬ V = 0) (h1 : (i && k == 13) = C1) (h2 : (g && (k == 12 && op == 62)) = C2) (h3 : (s && (k == 11 || k == 9 || k == 4)) = C3) (h4 : (d && k == 9) = C4) : fits k op L d i g s = (!(C1 || C2 || C3) && (C4 || decide (L ≤ V))) := by
  unfold fits forb
  rw [h, hV, h1, h2, h3, h4]
  have : (V == 0) = false := by simp [h0]
  rw [this]
  simp
set_option maxHeartbeats 3200000 in
theorem spec_fits (k op L : Int) (x y : ByteArray) (a : Option Addr) (n cap : Nat) (d i g s : Bool) (w : World) : Calls Tryd.prog 7 #[.agg #[.int .i64 k, .int .i64 op, .string x, .string y, .slice a n cap], .agg #[.int .i64 L, .bool d, .bool i, .bool g, .bool s]] w fun e w' => e = .returned (.bool (fits k op L d i g s)) ∧ Below w.heap.size w w' := by
  have HB := Lib.hid (Nb.start w k op x y (.slice a n cap) L d i g s)
  obtain ⟨P, hP⟩ : ∃ P, posOk L d = P := ⟨_, rfl⟩
  have HP := Lib.hid hP
  clear hP
  obtain ⟨V, hV⟩ : ∃ V, levelOf k op = V := ⟨_, rfl⟩
  have HV := Lib.hid hV
  clear hV
  cases P
  · have HE := Lib.hid (fits_no (k := k) (op := op) (i := i) (g := g) (s := s) HP.out)
    go_enter Tryd.func7, Tryd.ntmps7
    go_wp2_with (first | (go_at_call 16; refine (spec_ok L _ _ _ _ _).mono ?_; rw [HP.out]; rintro e w5 ⟨rfl, b5⟩; have X5 := Lib.hid (HB.out.keep b5); obtain ⟨c50, c51, c52, c53, c54, -, -⟩ := X5.out.n; obtain ⟨p50, p51, p52, p53, p54, -⟩ := X5.out.p; clear b5) | (go_at_call 17; refine (lv.spec_level k op x y a n cap _).mono ?_; rw [HV.out]; rintro e w6 ⟨rfl, b6⟩; have X6 := Lib.hid (X5.out.keep b6); obtain ⟨c60, c61, c62, c63, c64, -, -⟩ := X6.out.n; obtain ⟨p60, p61, p62, p63, p64, -⟩ := X6.out.p; clear b6))
    go_ret
    exact ⟨by rw [HE.out]; rfl, X5.out.n.b⟩
  by_cases h0 : V = 0
  · subst h0
    have HE := Lib.hid (show fits k op L d i g s = false by unfold fits; rw [HP.out, HV.out]; rfl)
    go_enter Tryd.func7, Tryd.ntmps7
    go_wp2_with (first | (go_at_call 16; refine (spec_ok L _ _ _ _ _).mono ?_; rw [HP.out]; rintro e w5 ⟨rfl, b5⟩; have X5 := Lib.hid (HB.out.keep b5); obtain ⟨c50, c51, c52, c53, c54, -, -⟩ := X5.out.n; obtain ⟨p50, p51, p52, p53, p54, -⟩ := X5.out.p; clear b5) | (go_at_call 17; refine (lv.spec_level k op x y a n cap _).mono ?_; rw [HV.out]; rintro e w6 ⟨rfl, b6⟩; have X6 := Lib.hid (X5.out.keep b6); obtain ⟨c60, c61, c62, c63, c64, -, -⟩ := X6.out.n; obtain ⟨p60, p61, p62, p63, p64, -⟩ := X6.out.p; clear b6))
    go_ret
    exact ⟨by rw [HE.out]; rfl, X6.out.n.b⟩
  obtain ⟨C1, hC1⟩ : ∃ C, (i && k == 13) = C := ⟨_, rfl⟩
  obtain ⟨C2, hC2⟩ : ∃ C, (g && (k == 12 && op == 62)) = C := ⟨_, rfl⟩
  obtain ⟨C3, hC3⟩ : ∃ C, (s && (k == 11 || k == 9 || k == 4)) = C := ⟨_, rfl⟩
  obtain ⟨C4, hC4⟩ : ∃ C, (d && k == 9) = C := ⟨_, rfl⟩
  have HE := Lib.hid (fits_eq HP.out HV.out h0 hC1 hC2 hC3 hC4)
  have H1 := Lib.hid hC1
  have H2 := Lib.hid hC2
  have H3 := Lib.hid hC3
  have H4 := Lib.hid hC4
  clear hC1 hC2 hC3 hC4
  go_enter Tryd.func7, Tryd.ntmps7
  have hv0 : (V == 0) = false := by simp [h0]
  go_upto_region 3 with (first | (go_at_call 16; refine (spec_ok L _ _ _ _ _).mono ?_; rw [HP.out]; rintro e w5 ⟨rfl, b5⟩; have X5 := Lib.hid (HB.out.keep b5); obtain ⟨c50, c51, c52, c53, c54, -, -⟩ := X5.out.n; obtain ⟨p50, p51, p52, p53, p54, -⟩ := X5.out.p; clear b5) | (go_at_call 17; refine (lv.spec_level k op x y a n cap _).mono ?_; rw [HV.out]; rintro e w6 ⟨rfl, b6⟩; have X6 := Lib.hid (X5.out.keep b6); obtain ⟨c60, c61, c62, c63, c64, -, -⟩ := X6.out.n; obtain ⟨p60, p61, p62, p63, p64, -⟩ := X6.out.p; clear b6))
  (try rw [hv0])
  clear h0 hv0
  go_cut [14] (fun v wx => v = .bool C1 ∧ wx = w6)
  case first =>
    cases i
    all_goals
      go_wp2_with fail
      all_goals
        go_meet
        first | done | exact ⟨congrArg Value.bool (by rw [← H1.out]; simp_all), rfl⟩
  case rest =>
  obtain ⟨rfl, hw⟩ := hcut
  subst wc
  cases C1
  rotate_left
  · go_wp2_with fail
    go_ret
    exact ⟨by rw [HE.out]; rfl, X6.out.n.b⟩
  go_upto_region 5 with (fail)
  go_cut [22] (fun v wx => v = .bool C2 ∧ wx = w6)
  case first =>
    by_cases hk12 : k = 12
    · subst hk12
      cases g
      all_goals
        go_wp2_with fail
        all_goals
          go_meet
          first | done | exact ⟨congrArg Value.bool (by rw [← H2.out]; simp_all), rfl⟩
    cases g
    all_goals
      go_wp2_with fail
      all_goals
        go_meet
        first | done | exact ⟨congrArg Value.bool (by rw [← H2.out]; simp_all), rfl⟩
  case rest =>
  obtain ⟨rfl, hw⟩ := hcut
  subst wc
  cases C2
  rotate_left
  · go_wp2_with fail
    go_ret
    exact ⟨by rw [HE.out]; rfl, X6.out.n.b⟩
  go_upto_region 7 with (fail)
  go_cut [35] (fun v wx => v = .bool C3 ∧ wx = w6)
  case first =>
    by_cases hk11 : k = 11
    · subst hk11
      cases s
      all_goals
        go_wp2_with fail
        all_goals
          go_meet
          first | done | exact ⟨congrArg Value.bool (by rw [← H3.out]; simp_all), rfl⟩
    by_cases hk9 : k = 9
    · subst hk9
      cases s
      all_goals
        go_wp2_with fail
        all_goals
          go_meet
          first | done | exact ⟨congrArg Value.bool (by rw [← H3.out]; simp_all), rfl⟩
    by_cases hk4 : k = 4
    · subst hk4
      cases s
      all_goals
        go_wp2_with fail
        all_goals
          go_meet
          first | done | exact ⟨congrArg Value.bool (by rw [← H3.out]; simp_all), rfl⟩
    cases s
    all_goals
      go_wp2_with fail
      all_goals
        go_meet
        first | done | exact ⟨congrArg Value.bool (by rw [← H3.out]; simp_all), rfl⟩
  case rest =>
  obtain ⟨rfl, hw⟩ := hcut
  subst wc
  cases C3
  rotate_left
  · go_wp2_with fail
    go_ret
    exact ⟨by rw [HE.out]; rfl, X6.out.n.b⟩
  go_upto_region 9 with (fail)
  go_cut [53] (fun v wx => v = .bool C4 ∧ wx = w6)
  case first =>
    by_cases hk9 : k = 9
    · subst hk9
      cases d
      all_goals
        go_wp2_with fail
        all_goals
          go_meet
          first | done | exact ⟨congrArg Value.bool (by rw [← H4.out]; simp_all), rfl⟩
    cases d
    all_goals
      go_wp2_with fail
      all_goals
        go_meet
        first | done | exact ⟨congrArg Value.bool (by rw [← H4.out]; simp_all), rfl⟩
  case rest =>
  obtain ⟨rfl, hw⟩ := hcut
  subst wc
  cases C4
  rotate_left
  · go_wp2_with fail
    go_ret
    exact ⟨by rw [HE.out]; rfl, X6.out.n.b⟩
  go_wp2_with fail
  go_region_held3 (fun w' => (w'.cell? ⟨w.heap.size, 0, none⟩ = some (.int .i64 k) ∧ w'.cell? ⟨w.heap.size, 1, none⟩ = some (.int .i64 op) ∧ w'.cell? ⟨w.heap.size, 2, none⟩ = some (.string x) ∧ w'.cell? ⟨w.heap.size, 3, none⟩ = some (.string y) ∧ w'.cell? ⟨w.heap.size, 4, none⟩ = some (.slice a n cap) ∧ w'.cell? ⟨w.heap.size + 1, 0, none⟩ = some (.int .i64 L) ∧ w'.cell? ⟨w.heap.size + 1, 1, none⟩ = some (.bool d) ∧ w'.cell? ⟨w.heap.size + 1, 2, none⟩ = some (.bool i) ∧ w'.cell? ⟨w.heap.size + 1, 3, none⟩ = some (.bool g) ∧ w'.cell? ⟨w.heap.size + 1, 4, none⟩ = some (.bool s)) ∧ Nb w w' k op x y (.slice a n cap) L d i g s)
    (first | exact nb_cells X6.out.drew | exact nb_cells X6.out | exact nb_cells ((by assumption : _ ∧ Nb _ _ _ _ _ _ _ _ _ _ _ _).2.keep (by assumption)) | exact nb_cells (by assumption : _ ∧ Nb _ _ _ _ _ _ _ _ _ _ _ _).2.drew)
    (first | (go_at_call 17; refine (lv.spec_level k op x y a n cap _).mono ?_; rw [HV.out]; rintro e w7 ⟨rfl, b7⟩))
  have HBZ := Lib.hid (by assumption : _ ∧ Nb _ _ _ _ _ _ _ _ _ _ _ _).2.n.b
  go_wp2
  go_ret
  exact ⟨by rw [HE.out]; rfl, HBZ.out⟩
end Go.Proofs.YtldkhdoboieibaaDoor.ps
