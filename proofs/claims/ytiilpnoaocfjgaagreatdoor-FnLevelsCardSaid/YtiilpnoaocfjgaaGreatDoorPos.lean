/-
  Positions of expressions: Top, PosOk, Fits of both sides: contracts.
-/
import Derived.Test.YtiilpnoaocfjgaaGreatDoorChars
import Derived.Test.YtiilpnoaocfjgaaGreatDoorLevelOf
import Derived.Laws.StructEq
import Derived.Deep.RegionLaw
namespace Go.Proofs.YtiilpnoaocfjgaaGreatDoor.ps
open Go.ChangeShapes Go.WideShapes Go.ChangeAt Go.RowKit
open chars (inR)
open lv (levelOf opLevel box_below Bx)
set_option linter.unusedVariables false
set_option maxRecDepth 20000

/-- A position. -/
structure Ps where
  l : Int
  d : Bool
  i : Bool
  g : Bool
  s : Bool
def posOk (L : Int) (d : Bool) : Bool := inR L 1 15 && (!d || L == 14)
def forb (k op : Int) (i g s : Bool) : Bool := (i && k == 13) || (g && (k == 12 && op == 62)) || (s && (k == 11 || k == 9 || k == 4))
def fits (k op L : Int) (d i g s : Bool) : Bool := posOk L d && !(levelOf k op == 0) && !forb k op i g s && ((d && k == 9) || decide (L ≤ levelOf k op))

/-- The box of a position, at block b. -/
structure Px (b : Nat) (W : World) (L : Int) (d i g s : Bool) : Prop where
  c0 : W.cell? ⟨b, 0, none⟩ = some (.int .i64 L)
  c1 : W.cell? ⟨b, 1, none⟩ = some (.bool d)
  c2 : W.cell? ⟨b, 2, none⟩ = some (.bool i)
  c3 : W.cell? ⟨b, 3, none⟩ = some (.bool g)
  c4 : W.cell? ⟨b, 4, none⟩ = some (.bool s)
  lt : b < W.heap.size
theorem Px.start (w : World) (L : Int) (d i g s : Bool) (ty : TypeId) : Px w.heap.size (w.alloc (.cells #[.int .i64 L, .bool d, .bool i, .bool g, .bool s] ty)) L d i g s := by
  have hh := heap_alloc_new w (.cells #[.int .i64 L, .bool d, .bool i, .bool g, .bool s] ty)
  refine ⟨?_, ?_, ?_, ?_, ?_, by simp⟩
  · rw [cell_of_row _ _ 0 _ _ _ hh]; rfl
  · rw [cell_of_row _ _ 1 _ _ _ hh]; rfl
  · rw [cell_of_row _ _ 2 _ _ _ hh]; rfl
  · rw [cell_of_row _ _ 3 _ _ _ hh]; rfl
  · rw [cell_of_row _ _ 4 _ _ _ hh]; rfl
theorem Px.keep {b : Nat} {W w1 : World} {L : Int} {d i g s : Bool} (h : Px b W L d i g s) (hb : Below W.heap.size W w1) : Px b w1 L d i g s :=
  ⟨(hb.cell (p := ⟨b, 0, none⟩) h.lt).trans h.c0, (hb.cell (p := ⟨b, 1, none⟩) h.lt).trans h.c1, (hb.cell (p := ⟨b, 2, none⟩) h.lt).trans h.c2, (hb.cell (p := ⟨b, 3, none⟩) h.lt).trans h.c3, (hb.cell (p := ⟨b, 4, none⟩) h.lt).trans h.c4, Nat.lt_of_lt_of_le h.lt hb.size⟩
theorem Px.drew {b : Nat} {W : World} {L : Int} {d i g s : Bool} (h : Px b W L d i g s) : Px b W.drew L d i g s := ⟨h.c0, h.c1, h.c2, h.c3, h.c4, h.lt⟩
theorem bx_drew {w W : World} {k op : Int} {x y : ByteArray} {v : Value} (h : Bx w W k op x y v) : Bx w W.drew k op x y v := ⟨h.c0, h.c1, h.c2, h.c3, h.c4, h.b.drew, h.lt⟩

theorem impl_top (w : World) : Calls Tryz.prog 29 #[] w fun e w' => e = .returned (.agg #[.int .i64 1, .bool false, .bool false, .bool false, .bool false]) ∧ Below w.heap.size w w' := by
  go_enter Tryz.func29, Tryz.ntmps29
  go_wp2
  have hb := And.intro (Px.start w 1 false false false false 26) (box_below w (.cells #[.int .i64 1, .bool false, .bool false, .bool false, .bool false] 26))
  generalize hW : w.alloc (.cells #[.int .i64 1, .bool false, .bool false, .bool false, .bool false] 26) = W at hb ⊢
  clear hW
  obtain ⟨⟨r0, r1, r2, r3, r4, -⟩, hbel⟩ := hb
  exact bodyPost_ret (v := .agg #[.int .i64 1, .bool false, .bool false, .bool false, .bool false]) (by simp [results, Tryz.results29, go_sem, r0, r1, r2, r3, r4]) rfl ⟨rfl, hbel⟩

theorem spec_top (w : World) : Calls Tryz.prog 58 #[] w fun e w' => e = .returned (.agg #[.int .i64 1, .bool false, .bool false, .bool false, .bool false]) ∧ Below w.heap.size w w' := by
  go_enter Tryz.func58, Tryz.ntmps58
  go_wp2
  have hb := And.intro (Px.start w 1 false false false false 26) (box_below w (.cells #[.int .i64 1, .bool false, .bool false, .bool false, .bool false] 26))
  generalize hW : w.alloc (.cells #[.int .i64 1, .bool false, .bool false, .bool false, .bool false] 26) = W at hb ⊢
  clear hW
  obtain ⟨⟨r0, r1, r2, r3, r4, -⟩, hbel⟩ := hb
  exact bodyPost_ret (v := .agg #[.int .i64 1, .bool false, .bool false, .bool false, .bool false]) (by simp [results, Tryz.results58, go_sem, r0, r1, r2, r3, r4]) rfl ⟨rfl, hbel⟩

set_option maxHeartbeats 800000 in
theorem impl_ok (L : Int) (d i g s : Bool) (w : World) : Calls Tryz.prog 60 #[.agg #[.int .i64 L, .bool d, .bool i, .bool g, .bool s]] w fun e w' => e = .returned (.bool (posOk L d)) ∧ Below w.heap.size w w' := by
  cases d
  · by_cases h1 : 1 ≤ L
    · have HE := Lib.hid (show posOk L false = decide (L ≤ 15) by simp [posOk, inR, h1])
      go_enter Tryz.func60, Tryz.ntmps60
      go_wp2
      go_ret
      exact ⟨by rw [HE.out]; rfl, box_below _ _⟩
    · have HE := Lib.hid (show posOk L false = false by simp [posOk, inR, h1])
      go_enter Tryz.func60, Tryz.ntmps60
      go_wp2
      go_ret
      exact ⟨by rw [HE.out]; rfl, box_below _ _⟩
  · have HE := Lib.hid (show posOk L true = (L == 14) by
      unfold posOk inR
      by_cases h : L = 14
      · subst h; rfl
      · simp [h])
    go_enter Tryz.func60, Tryz.ntmps60
    go_wp2
    go_ret
    exact ⟨by rw [HE.out]; rfl, box_below _ _⟩

set_option maxHeartbeats 800000 in
theorem spec_ok (L : Int) (d i g s : Bool) (w : World) : Calls Tryz.prog 26 #[.agg #[.int .i64 L, .bool d, .bool i, .bool g, .bool s]] w fun e w' => e = .returned (.bool (posOk L d)) ∧ Below w.heap.size w w' := by
  obtain ⟨I, hI⟩ : ∃ I, inR L 1 15 = I := ⟨_, rfl⟩
  have HI := Lib.hid hI
  clear hI
  cases I
  · have HE := Lib.hid (show posOk L d = false by unfold posOk; rw [HI.out]; rfl)
    go_enter Tryz.func26, Tryz.ntmps26
    go_wp2_with (go_at_call 86; refine (chars.spec_in _ _ _ _).mono ?_; rw [HI.out]; rintro e w' ⟨rfl, rfl⟩)
    go_ret
    exact ⟨by rw [HE.out]; rfl, box_below _ _⟩
  · cases d
    · have HE := Lib.hid (show posOk L false = true by unfold posOk; rw [HI.out]; rfl)
      go_enter Tryz.func26, Tryz.ntmps26
      go_wp2_with (go_at_call 86; refine (chars.spec_in _ _ _ _).mono ?_; rw [HI.out]; rintro e w' ⟨rfl, rfl⟩)
      go_ret
      exact ⟨by rw [HE.out]; rfl, box_below _ _⟩
    · have HE := Lib.hid (show posOk L true = (L == 14) by unfold posOk; rw [HI.out]; rfl)
      go_enter Tryz.func26, Tryz.ntmps26
      go_wp2_with (go_at_call 86; refine (chars.spec_in _ _ _ _).mono ?_; rw [HI.out]; rintro e w' ⟨rfl, rfl⟩)
      go_ret
      exact ⟨by rw [HE.out]; rfl, box_below _ _⟩

set_option maxHeartbeats 1600000 in
theorem impl_forb (k op L : Int) (x y : ByteArray) (a : Option Addr) (n cap : Nat) (d i g s : Bool) (w : World) : Calls Tryz.prog 189 #[.agg #[.int .i64 L, .bool d, .bool i, .bool g, .bool s], .agg #[.int .i64 k, .int .i64 op, .string x, .string y, .slice a n cap]] w fun e w' => e = .returned (.bool (forb k op i g s)) ∧ Below w.heap.size w w' := by
  cases i <;> cases g <;> cases s
  all_goals
    go_enter Tryz.func189, Tryz.ntmps189
    go_wp2
    all_goals
      go_ret
      exact ⟨congrArg (fun b => Ending.returned (Value.bool b)) (by simp_all [forb]), (box_below w _).trans ((box_below _ _).mono (by simp))⟩

/-- Both boxes, of a node and of a position. -/
structure Nb (w W : World) (k op : Int) (x y : ByteArray) (v : Value) (L : Int) (d i g s : Bool) : Prop where
  n : Bx w W k op x y v
  p : Px (w.heap.size + 1) W L d i g s
theorem Nb.start (w : World) (k op : Int) (x y : ByteArray) (v : Value) (L : Int) (d i g s : Bool) : Nb w ((w.alloc (.cells #[.int .i64 k, .int .i64 op, .string x, .string y, v] 60)).alloc (.cells #[.int .i64 L, .bool d, .bool i, .bool g, .bool s] 26)) k op x y v L d i g s := by
  refine ⟨(Bx.start w k op x y v 60).keep (box_below _ _), ?_⟩
  have h := Px.start (w.alloc (.cells #[.int .i64 k, .int .i64 op, .string x, .string y, v] 60)) L d i g s 26
  have e : (w.alloc (.cells #[.int .i64 k, .int .i64 op, .string x, .string y, v] 60)).heap.size = w.heap.size + 1 := by simp
  rw [e] at h
  exact h
theorem Nb.keep {w W w1 : World} {k op : Int} {x y : ByteArray} {v : Value} {L : Int} {d i g s : Bool} (h : Nb w W k op x y v L d i g s) (hb : Below W.heap.size W w1) : Nb w w1 k op x y v L d i g s :=
  ⟨h.n.keep hb, h.p.keep hb⟩
theorem Nb.drew {w W : World} {k op : Int} {x y : ByteArray} {v : Value} {L : Int} {d i g s : Bool} (h : Nb w W k op x y v L d i g s) : Nb w W.drew k op x y v L d i g s := ⟨bx_drew h.n, h.p.drew⟩
theorem nb_cells {w W : World} {k op : Int} {x y : ByteArray} {v : Value} {L : Int} {d i g s : Bool} (h : Nb w W k op x y v L d i g s) : (W.cell? ⟨w.heap.size, 0, none⟩ = some (.int .i64 k) ∧ W.cell? ⟨w.heap.size, 1, none⟩ = some (.int .i64 op) ∧ W.cell? ⟨w.heap.size, 2, none⟩ = some (.string x) ∧ W.cell? ⟨w.heap.size, 3, none⟩ = some (.string y) ∧ W.cell? ⟨w.heap.size, 4, none⟩ = some (v) ∧ W.cell? ⟨w.heap.size + 1, 0, none⟩ = some (.int .i64 L) ∧ W.cell? ⟨w.heap.size + 1, 1, none⟩ = some (.bool d) ∧ W.cell? ⟨w.heap.size + 1, 2, none⟩ = some (.bool i) ∧ W.cell? ⟨w.heap.size + 1, 3, none⟩ = some (.bool g) ∧ W.cell? ⟨w.heap.size + 1, 4, none⟩ = some (.bool s)) ∧ Nb w W k op x y v L d i g s :=
  ⟨⟨h.n.c0, h.n.c1, h.n.c2, h.n.c3, h.n.c4, h.p.c0, h.p.c1, h.p.c2, h.p.c3, h.p.c4⟩, h⟩

theorem fits_no {k op L : Int} {d i g s : Bool} (h : posOk L d = false) : fits k op L d i g s = false := by unfold fits; rw [h]; rfl
theorem fits_forb {k op L : Int} {d i g s : Bool} (h : forb k op i g s = true) : fits k op L d i g s = false := by unfold fits; rw [h]; simp
theorem ok_pos {L : Int} {d : Bool} (h : posOk L d = true) : 1 ≤ L ∧ L ≤ 15 := by
  unfold posOk inR at h
  simp only [Bool.and_eq_true, decide_eq_true_eq] at h
  exact h.1
theorem fits_le {k op L : Int} {d i g s : Bool} (h : posOk L d = true) (hf : forb k op i g s = false) : fits k op L d i g s = (decide (L ≤ levelOf k op) || (d && k == 9)) := by
  unfold fits
  rw [h, hf]
  have := ok_pos h
  by_cases h0 : levelOf k op = 0
  · rw [h0]
    by_cases h9 : k = 9
    · subst h9; exact absurd h0 (by simp [levelOf])
    · have : decide (L ≤ 0) = false := by simp; omega
      simp [h9, this]
  · have : (levelOf k op == 0) = false := by simp [h0]
    rw [this]
    simp [Bool.or_comm]

set_option maxHeartbeats 3200000 in
theorem impl_fits (k op L : Int) (x y : ByteArray) (a : Option Addr) (n cap : Nat) (d i g s : Bool) (w : World) : Calls Tryz.prog 115 #[.agg #[.int .i64 k, .int .i64 op, .string x, .string y, .slice a n cap], .agg #[.int .i64 L, .bool d, .bool i, .bool g, .bool s]] w fun e w' => e = .returned (.bool (fits k op L d i g s)) ∧ Below w.heap.size w w' := by
  have HB := Lib.hid (Nb.start w k op x y (.slice a n cap) L d i g s)
  obtain ⟨P, hP⟩ : ∃ P, posOk L d = P := ⟨_, rfl⟩
  have HP := Lib.hid hP
  clear hP
  obtain ⟨G, hG⟩ : ∃ G, forb k op i g s = G := ⟨_, rfl⟩
  have HF := Lib.hid hG
  clear hG
  obtain ⟨V, hV⟩ : ∃ V, levelOf k op = V := ⟨_, rfl⟩
  have HV := Lib.hid hV
  clear hV
  cases P
  · have HE := Lib.hid (fits_no (k := k) (op := op) (i := i) (g := g) (s := s) HP.out)
    go_enter Tryz.func115, Tryz.ntmps115
    go_wp2_with (first | (go_at_call 60; refine (impl_ok L _ i g s _).mono ?_; rw [HP.out]; rintro e w5 ⟨rfl, b5⟩; have X5 := Lib.hid (HB.out.keep b5); obtain ⟨c50, c51, c52, c53, c54, -, -⟩ := X5.out.n; obtain ⟨p50, p51, p52, p53, p54, -⟩ := X5.out.p; clear b5) | (go_at_call 189; refine (impl_forb k op L x y a n cap _ i g s _).mono ?_; rw [HF.out]; rintro e w6 ⟨rfl, b6⟩; have X6 := Lib.hid (X5.out.keep b6); obtain ⟨c60, c61, c62, c63, c64, -, -⟩ := X6.out.n; obtain ⟨p60, p61, p62, p63, p64, -⟩ := X6.out.p; clear b6))
    go_ret
    exact ⟨by rw [HE.out]; rfl, X5.out.n.b⟩
  · cases G
    · have HE := Lib.hid (fits_le HP.out HF.out)
      rw [HV.out] at HE
      by_cases h1 : L ≤ V
      · have HD := Lib.hid (show fits k op L d i g s = true by rw [HE.out]; simp [h1])
        have hd : decide (L ≤ V) = true := by simp [h1]
        go_enter Tryz.func115, Tryz.ntmps115
        go_wp2_with (first | (go_at_call 60; refine (impl_ok L _ i g s _).mono ?_; rw [HP.out]; rintro e w5 ⟨rfl, b5⟩; have X5 := Lib.hid (HB.out.keep b5); obtain ⟨c50, c51, c52, c53, c54, -, -⟩ := X5.out.n; obtain ⟨p50, p51, p52, p53, p54, -⟩ := X5.out.p; clear b5) | (go_at_call 189; refine (impl_forb k op L x y a n cap _ i g s _).mono ?_; rw [HF.out]; rintro e w6 ⟨rfl, b6⟩; have X6 := Lib.hid (X5.out.keep b6); obtain ⟨c60, c61, c62, c63, c64, -, -⟩ := X6.out.n; obtain ⟨p60, p61, p62, p63, p64, -⟩ := X6.out.p; clear b6))
        have hun : (undef : Value) = .tuple #[] := rfl
        first
          | (go_region_law (first | (go_simp; go_at_call 156; refine (lv.impl_level k op x y a n cap _).mono ?_; rw [HV.out]; rintro e w7 ⟨rfl, b7⟩; have X7 := Lib.hid (X6.out.drew.keep b7); obtain ⟨c70, c71, c72, c73, c74, -, -⟩ := X7.out.n; obtain ⟨p70, p71, p72, p73, p74, -⟩ := X7.out.p; clear b7)))
          | fail "REG"
        all_goals
          go_wp2
          go_ret
          exact ⟨by rw [HD.out]; rfl, X7.out.n.b⟩
      · cases d
        · have HD := Lib.hid (show fits k op L false i g s = false by rw [HE.out]; simp [h1])
          have hd : decide (L ≤ V) = false := by simp [h1]
          go_enter Tryz.func115, Tryz.ntmps115
          go_wp2_with (first | (go_at_call 60; refine (impl_ok L _ i g s _).mono ?_; rw [HP.out]; rintro e w5 ⟨rfl, b5⟩; have X5 := Lib.hid (HB.out.keep b5); obtain ⟨c50, c51, c52, c53, c54, -, -⟩ := X5.out.n; obtain ⟨p50, p51, p52, p53, p54, -⟩ := X5.out.p; clear b5) | (go_at_call 189; refine (impl_forb k op L x y a n cap _ i g s _).mono ?_; rw [HF.out]; rintro e w6 ⟨rfl, b6⟩; have X6 := Lib.hid (X5.out.keep b6); obtain ⟨c60, c61, c62, c63, c64, -, -⟩ := X6.out.n; obtain ⟨p60, p61, p62, p63, p64, -⟩ := X6.out.p; clear b6))
          first
            | (go_region_law (first | (go_simp; go_at_call 156; refine (lv.impl_level k op x y a n cap _).mono ?_; rw [HV.out]; rintro e w7 ⟨rfl, b7⟩; have X7 := Lib.hid (X6.out.drew.keep b7); obtain ⟨c70, c71, c72, c73, c74, -, -⟩ := X7.out.n; obtain ⟨p70, p71, p72, p73, p74, -⟩ := X7.out.p; clear b7)))
            | fail "REG"
          all_goals
            go_wp2
            go_ret
            exact ⟨by rw [HD.out]; rfl, X7.out.n.b⟩
        · have HD := Lib.hid (show fits k op L true i g s = (k == 9) by rw [HE.out]; simp [h1])
          have hd : decide (L ≤ V) = false := by simp [h1]
          go_enter Tryz.func115, Tryz.ntmps115
          go_wp2_with (first | (go_at_call 60; refine (impl_ok L _ i g s _).mono ?_; rw [HP.out]; rintro e w5 ⟨rfl, b5⟩; have X5 := Lib.hid (HB.out.keep b5); obtain ⟨c50, c51, c52, c53, c54, -, -⟩ := X5.out.n; obtain ⟨p50, p51, p52, p53, p54, -⟩ := X5.out.p; clear b5) | (go_at_call 189; refine (impl_forb k op L x y a n cap _ i g s _).mono ?_; rw [HF.out]; rintro e w6 ⟨rfl, b6⟩; have X6 := Lib.hid (X5.out.keep b6); obtain ⟨c60, c61, c62, c63, c64, -, -⟩ := X6.out.n; obtain ⟨p60, p61, p62, p63, p64, -⟩ := X6.out.p; clear b6))
          first
            | (go_region_law (first | (go_simp; go_at_call 156; refine (lv.impl_level k op x y a n cap _).mono ?_; rw [HV.out]; rintro e w7 ⟨rfl, b7⟩; have X7 := Lib.hid (X6.out.drew.keep b7); obtain ⟨c70, c71, c72, c73, c74, -, -⟩ := X7.out.n; obtain ⟨p70, p71, p72, p73, p74, -⟩ := X7.out.p; clear b7)))
            | fail "REG"
          all_goals
            go_wp2
            go_ret
            exact ⟨by rw [HD.out]; rfl, X7.out.n.b⟩
    · have HE := Lib.hid (fits_forb (L := L) (d := d) HF.out)
      go_enter Tryz.func115, Tryz.ntmps115
      go_wp2_with (first | (go_at_call 60; refine (impl_ok L _ i g s _).mono ?_; rw [HP.out]; rintro e w5 ⟨rfl, b5⟩; have X5 := Lib.hid (HB.out.keep b5); obtain ⟨c50, c51, c52, c53, c54, -, -⟩ := X5.out.n; obtain ⟨p50, p51, p52, p53, p54, -⟩ := X5.out.p; clear b5) | (go_at_call 189; refine (impl_forb k op L x y a n cap _ i g s _).mono ?_; rw [HF.out]; rintro e w6 ⟨rfl, b6⟩; have X6 := Lib.hid (X5.out.keep b6); obtain ⟨c60, c61, c62, c63, c64, -, -⟩ := X6.out.n; obtain ⟨p60, p61, p62, p63, p64, -⟩ := X6.out.p; clear b6))
      go_ret
      exact ⟨by rw [HE.out]; rfl, X6.out.n.b⟩
end Go.Proofs.YtiilpnoaocfjgaaGreatDoor.ps
