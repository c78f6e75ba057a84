/-
  Rows of integers, nodes and lists of nodes compared: laws.eqIntS, spec.l6Ints, slices.Equal at []int, laws.eqNode, laws.eqNodeS: contracts ('decide (l = m)').
-/
import Derived.Test.YtckeepjfbpphaaaGreatDoorNdTo
import Derived.Lib.QuietBelow
namespace Go.Proofs.YtckeepjfbpphaaaGreatDoor.nd
open Go.ChangeShapes Go.WideShapes Go.ChangeAt Go.RowKit
set_option linter.unusedVariables false

theorem eq_facts {x c : Int} (h : x = c) : (x == c) = true ∧ (x != c) = false := by subst h; simp
theorem ne_facts {x c : Int} (h : ¬ x = c) : (x == c) = false ∧ (x != c) = true := by simp [h]
theorem str_eq {x y : ByteArray} (h : x = y) : (x.toList == y.toList) = true ∧ (x.toList != y.toList) = false := by subst h; simp
theorem str_ne {x y : ByteArray} (h : ¬ x = y) : (x.toList == y.toList) = false ∧ (x.toList != y.toList) = true := by
  have : (x.toList == y.toList) = false := by
    rw [beq_eq_false_iff_ne, ByteArray.toList_eq, ByteArray.toList_eq]
    intro e
    exact h (ByteArray.ext (Array.toList_inj.1 e))
  exact ⟨this, by rw [bne, this]; rfl⟩
theorem take_step {α : Type} {l m : List α} {I : Nat} (h : I < l.length) (hlen : l.length = m.length) (ht : l.take I = m.take I) (he : l[I] = m[I]'(hlen ▸ h)) : l.take (I + 1) = m.take (I + 1) := by
  rw [List.take_succ_eq_append_getElem h, List.take_succ_eq_append_getElem (hlen ▸ h), ht, he]
theorem at_ne {α : Type} {l m : List α} {I : Nat} (h : I < l.length) (hlen : l.length = m.length) (he : ¬ l[I] = m[I]'(hlen ▸ h)) : ¬ l = m := by
  intro e; subst e; exact he rfl
theorem take_all {α : Type} {l m : List α} {I : Nat} (h : I = l.length) (hlen : l.length = m.length) (ht : l.take I = m.take I) : l = m := by
  rw [List.take_of_length_le (by omega), List.take_of_length_le (by omega)] at ht
  exact ht
theorem below_two (w : World) (a b : Obj) : Below w.heap.size w ((w.alloc a).alloc b) := ((Below.refl _ _).alloc (Nat.le_refl _) _).alloc (by simp) _

def RelEqI (B : Nat) (W : World) (l m : List Int) (i : Value) (wr : World) : Prop :=
  ∃ I q : Nat, I ≤ l.length ∧ i = .int .i64 (I : Int) ∧ wr = W.drewN q ∧ l.take I = m.take I
theorem drewN_zero (w : World) : w = w.drewN 0 := by cases w; rfl

set_option maxHeartbeats 1600000 in
theorem eq_ints_q (l m : List Int) (a a' : Option Addr) (cap cap' : Nat) (w : World) (hn : l.length ≤ 1048576) (hn' : m.length ≤ 1048576) (hc : Ints w.heap.size w a l) (hc' : Ints w.heap.size w a' m) :
    Calls Tryz.prog 32 #[.slice a l.length cap, .slice a' m.length cap'] w fun e w' => e = .returned (.bool (decide (l = m))) ∧ ∃ q, w' = w.drewN q := by
  have HC := Lib.hid hc
  have HC' := Lib.hid hc'
  clear hc hc'
  by_cases hlen : l.length = m.length
  · have HLEN := Lib.hid hlen
    obtain ⟨n, hln⟩ : ∃ n, n = l.length := ⟨_, rfl⟩
    have HLN := Lib.hid hln
    rw [← hlen, ← hln]
    rw [← hln] at hn
    have hd : (((n : Int)) != (n : Int)) = false := by simp
    clear hlen hn' hln
    go_enter Tryz.func32, Tryz.ntmps32
    go_wp2
    go_loopw [5] (fun i wr => RelEqI w.heap.size w l m i wr) (fun i _ => n - (intOf i).toNat)
    case atStart => exact ⟨0, 0, by omega, rfl, drewN_zero _, by simp⟩
    case round =>
      obtain ⟨I, q, hI, rfl, rfl, htk⟩ := hrel
      have HT := Lib.hid htk
      rw [← HLN.out] at hI
      clear htk
      by_cases hlt : I < n
      · have hl1 : I < l.length := by have := HLN.out; omega
        have hl2 : I < m.length := by have := HLEN.out; omega
        obtain ⟨b, o, rfl, hb, hcell⟩ := ints_at HC.out hl1
        obtain ⟨b', o', rfl, hb', hcell'⟩ := ints_at HC'.out hl2
        have c0 := hcell I hl1
        have d0 := hcell' I hl2
        obtain ⟨x, hx⟩ : ∃ x, x = l[I] := ⟨_, rfl⟩
        obtain ⟨y, hy⟩ : ∃ y, y = m[I] := ⟨_, rfl⟩
        rw [← hx] at c0
        rw [← hy] at d0
        have HXE := Lib.hid hx
        have HYE := Lib.hid hy
        have hi1 : (I : Int) < (n : Int) := by omega
        have hi0 : (0 : Int) ≤ (I : Int) := by omega
        clear hx hy hcell hcell'
        by_cases hk : x = y
        · obtain ⟨k1, k2⟩ := eq_facts hk
          have HS := Lib.hid (take_step hl1 HLEN.out HT.out (by rw [← HXE.out, ← HYE.out]; exact hk))
          clear hk
          go_wp2
          go_quiet (fail)
          go_wp2
          go_roundw
          case rel => exact ⟨I + 1, _, by have := HLN.out; omega, by go_num, rfl, HS.out⟩
          case measure => simp [intOf]; omega
        · obtain ⟨k1, k2⟩ := ne_facts hk
          have HS := Lib.hid (show decide (l = m) = false from decide_eq_false (at_ne hl1 HLEN.out (fun e => by rw [← HXE.out, ← HYE.out] at e; exact hk e)))
          clear hk
          go_wp2
          go_quiet (fail)
          go_wp2
          go_ret
          exact ⟨by rw [HS.out]; rfl, _, World.drewN_drewN _ _ _⟩
      · have HS := Lib.hid (show decide (l = m) = true from decide_eq_true (take_all (I := I) (by have := HLN.out; omega) HLEN.out HT.out))
        go_wp2
        go_ret
        exact ⟨by rw [HS.out]; rfl, _, rfl⟩
  · have HS := Lib.hid (show decide (l = m) = false from decide_eq_false (fun e => hlen (by rw [e])))
    have hd : (((l.length : Int)) != (m.length : Int)) = true := by simp; omega
    clear hlen
    go_enter Tryz.func32, Tryz.ntmps32
    go_wp2
    go_ret
    exact ⟨by rw [HS.out]; rfl, 0, drewN_zero _⟩
theorem eq_ints (l m : List Int) (a a' : Option Addr) (cap cap' : Nat) (w : World) (hn : l.length ≤ 1048576) (hn' : m.length ≤ 1048576) (hc : Ints w.heap.size w a l) (hc' : Ints w.heap.size w a' m) :
    Calls Tryz.prog 32 #[.slice a l.length cap, .slice a' m.length cap'] w fun e w' => e = .returned (.bool (decide (l = m))) ∧ Below w.heap.size w w' :=
  (eq_ints_q l m a a' cap cap' w hn hn' hc hc').mono fun e w' ⟨he, q, hq⟩ => ⟨he, by rw [hq]; exact below_drewN (Below.refl _ _) q⟩

theorem nd_ne {x y : Nd} (h : ¬ (x.k = y.k ∧ x.op = y.op ∧ x.s = y.s ∧ x.t = y.t ∧ x.kids = y.kids)) : decide (x = y) = false := decide_eq_false (fun e => h (by subst e; exact ⟨rfl, rfl, rfl, rfl, rfl⟩))
theorem nd_eq {x y : Nd} (h : x.k = y.k ∧ x.op = y.op ∧ x.s = y.s ∧ x.t = y.t) : decide (x = y) = decide (x.kids = y.kids) := by
  obtain ⟨k, op, s, t, l⟩ := x
  obtain ⟨k', op', s', t', l'⟩ := y
  obtain ⟨h1, h2, h3, h4⟩ := h
  simp only at h1 h2 h3 h4
  subst h1 h2 h3 h4
  simp
set_option maxHeartbeats 1600000 in
theorem eq_node (x y : Nd) (a a' : Option Addr) (cap cap' : Nat) (w : World) (hx : x.kids.length ≤ 1048576) (hy : y.kids.length ≤ 1048576) (hc : Ints w.heap.size w a x.kids) (hc' : Ints w.heap.size w a' y.kids) :
    Calls Tryz.prog 17 #[.agg #[.int .i64 x.k, .int .i64 x.op, .string x.s, .string x.t, .slice a x.kids.length cap], .agg #[.int .i64 y.k, .int .i64 y.op, .string y.s, .string y.t, .slice a' y.kids.length cap']] w fun e w' => e = .returned (.bool (decide (x = y))) ∧ Below w.heap.size w w' := by
  have HC := Lib.hid hc
  have HC' := Lib.hid hc'
  clear hc hc'
  by_cases h1 : x.k = y.k
  · obtain ⟨d1, d1'⟩ := eq_facts h1
    by_cases h2 : x.op = y.op
    · obtain ⟨d2, d2'⟩ := eq_facts h2
      by_cases h3 : x.s = y.s
      · obtain ⟨d3, d3'⟩ := str_eq h3
        by_cases h4 : x.t = y.t
        · obtain ⟨d4, d4'⟩ := str_eq h4
          have HE := Lib.hid (nd_eq ⟨h1, h2, h3, h4⟩)
          clear h1 h2 h3 h4
          go_enter Tryz.func17, Tryz.ntmps17
          go_wp2_with fail
          have hb0 := below_two w (.cells #[.int .i64 x.k, .int .i64 x.op, .string x.s, .string x.t, .slice a x.kids.length cap] 36) (.cells #[.int .i64 y.k, .int .i64 y.op, .string y.s, .string y.t, .slice a' y.kids.length cap'] 36)
          refine (eq_ints x.kids y.kids a a' cap cap' _ hx hy ((HC.out.keep hb0 (Nat.le_refl _)).up hb0.size) ((HC'.out.keep hb0 (Nat.le_refl _)).up hb0.size)).mono ?_
          rintro e w2 ⟨rfl, b2⟩
          have HB := Lib.hid (hb0.trans (b2.mono hb0.size))
          clear hb0 b2
          cases hd : decide (x.kids = y.kids)
          · rw [hd] at HE
            go_wp2
            go_ret
            exact ⟨by rw [HE.out]; rfl, HB.out⟩
          · rw [hd] at HE
            go_wp2
            go_ret
            exact ⟨by rw [HE.out]; rfl, HB.out⟩
        · obtain ⟨d4, d4'⟩ := str_ne h4
          have HE := Lib.hid (nd_ne (x := x) (y := y) (fun h => h4 h.2.2.2.1))
          clear h1 h2 h3 h4
          go_enter Tryz.func17, Tryz.ntmps17
          go_wp2
          go_ret
          exact ⟨by rw [HE.out]; rfl, below_two _ _ _⟩
      · obtain ⟨d3, d3'⟩ := str_ne h3
        have HE := Lib.hid (nd_ne (x := x) (y := y) (fun h => h3 h.2.2.1))
        clear h1 h2 h3
        go_enter Tryz.func17, Tryz.ntmps17
        go_wp2
        go_ret
        exact ⟨by rw [HE.out]; rfl, below_two _ _ _⟩
    · obtain ⟨d2, d2'⟩ := ne_facts h2
      have HE := Lib.hid (nd_ne (x := x) (y := y) (fun h => h2 h.2.1))
      clear h1 h2
      go_enter Tryz.func17, Tryz.ntmps17
      go_wp2
      go_ret
      exact ⟨by rw [HE.out]; rfl, below_two _ _ _⟩
  · obtain ⟨d1, d1'⟩ := ne_facts h1
    have HE := Lib.hid (nd_ne (x := x) (y := y) (fun h => h1 h.1))
    clear h1
    go_enter Tryz.func17, Tryz.ntmps17
    go_wp2
    go_ret
    exact ⟨by rw [HE.out]; rfl, below_two _ _ _⟩

/-! ### Two lists of nodes -/
/-- Two nodes' cells and rows, and nothing below B has turned. -/
structure Two (B : Nat) (w : World) (b o : Nat) (x : Nd) (a : Option Addr) (cap : Nat) (b' o' : Nat) (y : Nd) (a' : Option Addr) (cap' : Nat) (W : World) : Prop where
  x5 : Five W b o x a cap
  y5 : Five W b' o' y a' cap'
  xi : Ints B W a x.kids
  yi : Ints B W a' y.kids
  bel : Below B w W
  le : B ≤ W.heap.size
theorem Two.drew {B : Nat} {w W : World} {b o b' o' : Nat} {x y : Nd} {a a' : Option Addr} {cap cap' : Nat} (h : Two B w b o x a cap b' o' y a' cap' W) : Two B w b o x a cap b' o' y a' cap' W.drew :=
  ⟨h.x5, h.y5, h.xi, h.yi, h.bel.drew, h.le⟩
theorem Two.keep {B : Nat} {w W w1 : World} {b o b' o' : Nat} {x y : Nd} {a a' : Option Addr} {cap cap' : Nat} (hb : b < B) (hb' : b' < B) (h : Two B w b o x a cap b' o' y a' cap' W) (hk : Below W.heap.size W w1) : Two B w b o x a cap b' o' y a' cap' w1 :=
  ⟨h.x5.keep hk (Nat.lt_of_lt_of_le hb h.le), h.y5.keep hk (Nat.lt_of_lt_of_le hb' h.le), h.xi.keep hk h.le, h.yi.keep hk h.le, h.bel.trans (hk.mono h.le), Nat.le_trans h.le hk.size⟩
theorem two_start {B : Nat} {w W : World} {b o b' o' : Nat} {x y : Nd} {a a' : Option Addr} {cap cap' : Nat} (h : Two B w b o x a cap b' o' y a' cap' W) :
    (W.cell? ⟨b, o, none⟩ = some (.int .i64 x.k) ∧ W.cell? ⟨b, o + 1, none⟩ = some (.int .i64 x.op) ∧ W.cell? ⟨b, o + 2, none⟩ = some (.string x.s) ∧ W.cell? ⟨b, o + 3, none⟩ = some (.string x.t) ∧ W.cell? ⟨b, o + 4, none⟩ = some (.slice a x.kids.length cap) ∧ W.cell? ⟨b', o', none⟩ = some (.int .i64 y.k) ∧ W.cell? ⟨b', o' + 1, none⟩ = some (.int .i64 y.op) ∧ W.cell? ⟨b', o' + 2, none⟩ = some (.string y.s) ∧ W.cell? ⟨b', o' + 3, none⟩ = some (.string y.t) ∧ W.cell? ⟨b', o' + 4, none⟩ = some (.slice a' y.kids.length cap')) ∧ Two B w b o x a cap b' o' y a' cap' W :=
  ⟨⟨h.x5.1, h.x5.2.1, h.x5.2.2.1, h.x5.2.2.2.1, h.x5.2.2.2.2, h.y5.1, h.y5.2.1, h.y5.2.2.1, h.y5.2.2.2.1, h.y5.2.2.2.2⟩, h⟩
def RelEqN (B : Nat) (W : World) (l m : List Nd) (i : Value) (wr : World) : Prop :=
  ∃ I : Nat, I ≤ l.length ∧ i = .int .i64 (I : Int) ∧ Below B W wr ∧ l.take I = m.take I

set_option maxHeartbeats 1600000 in
theorem eq_nodes (l m : List Nd) (a a' : Option Addr) (cap cap' : Nat) (w : World) (hn : l.length ≤ 1048576) (hn' : m.length ≤ 1048576) (hk : ∀ t ∈ l, t.kids.length ≤ 1048576) (hk' : ∀ t ∈ m, t.kids.length ≤ 1048576) (hc : Lies w.heap.size w a l) (hc' : Lies w.heap.size w a' m) :
    Calls Tryz.prog 8 #[.slice a l.length cap, .slice a' m.length cap'] w fun e w' => e = .returned (.bool (decide (l = m))) ∧ Below w.heap.size w w' := by
  have HC := Lib.hid hc
  have HC' := Lib.hid hc'
  have HK := Lib.hid hk
  have HK' := Lib.hid hk'
  clear hc hc' hk hk'
  by_cases hlen : l.length = m.length
  · have HLEN := Lib.hid hlen
    obtain ⟨n, hln⟩ : ∃ n, n = l.length := ⟨_, rfl⟩
    have HLN := Lib.hid hln
    rw [← hlen, ← hln]
    rw [← hln] at hn
    have hd : (((n : Int)) != (n : Int)) = false := by simp
    clear hlen hn' hln
    go_enter Tryz.func8, Tryz.ntmps8
    go_wp2
    go_loopw [5] (fun i wr => RelEqN w.heap.size w l m i wr) (fun i _ => n - (intOf i).toNat)
    case atStart => exact ⟨0, by omega, rfl, Below.refl _ _, by simp⟩
    case round =>
      obtain ⟨I, hI, rfl, hbel, htk⟩ := hrel
      have HB := Lib.hid hbel
      have HT := Lib.hid htk
      rw [← HLN.out] at hI
      clear hbel htk
      by_cases hlt : I < n
      · have hl1 : I < l.length := by have := HLN.out; omega
        have hl2 : I < m.length := by have := HLEN.out; omega
        obtain ⟨b, o, rfl, hb, hcell⟩ := lies_at HC.out hl1
        obtain ⟨b', o', rfl, hb', hcell'⟩ := lies_at HC'.out hl2
        obtain ⟨ax, cx, x5, xi⟩ := (hcell I hl1).keep HB.out (Nat.le_refl _) hb
        obtain ⟨ay, cy, y5, yi⟩ := (hcell' I hl2).keep HB.out (Nat.le_refl _) hb'
        have HKX := Lib.hid (HK.out l[I] (List.getElem_mem hl1))
        have HKY := Lib.hid (HK'.out m[I] (List.getElem_mem hl2))
        obtain ⟨x, hx⟩ : ∃ x, x = l[I] := ⟨_, rfl⟩
        obtain ⟨y, hy⟩ : ∃ y, y = m[I] := ⟨_, rfl⟩
        rw [← hx] at x5 xi HKX
        rw [← hy] at y5 yi HKY
        have HXE := Lib.hid hx
        have HYE := Lib.hid hy
        have hi1 : (I : Int) < (n : Int) := by omega
        have hi0 : (0 : Int) ≤ (I : Int) := by omega
        have HS0 := Lib.hid (Two.mk x5 y5 xi yi HB.out HB.out.size)
        clear hx hy hcell hcell' x5 y5 xi yi
        have HD : ∃ d, decide (x = y) = d := ⟨_, rfl⟩
        obtain ⟨d, hd2⟩ := HD
        have HD := Lib.hid hd2
        clear hd2
        cases d
        · have HS := Lib.hid (show decide (l = m) = false from decide_eq_false (at_ne hl1 HLEN.out (by rw [← HXE.out, ← HYE.out]; exact of_decide_eq_false HD.out)))
          go_wp2
          go_region_held3 (fun w' => (w'.cell? ⟨b, o + I * 5, none⟩ = some (.int .i64 x.k) ∧ w'.cell? ⟨b, o + I * 5 + 1, none⟩ = some (.int .i64 x.op) ∧ w'.cell? ⟨b, o + I * 5 + 2, none⟩ = some (.string x.s) ∧ w'.cell? ⟨b, o + I * 5 + 3, none⟩ = some (.string x.t) ∧ w'.cell? ⟨b, o + I * 5 + 4, none⟩ = some (.slice ax x.kids.length cx) ∧ w'.cell? ⟨b', o' + I * 5, none⟩ = some (.int .i64 y.k) ∧ w'.cell? ⟨b', o' + I * 5 + 1, none⟩ = some (.int .i64 y.op) ∧ w'.cell? ⟨b', o' + I * 5 + 2, none⟩ = some (.string y.s) ∧ w'.cell? ⟨b', o' + I * 5 + 3, none⟩ = some (.string y.t) ∧ w'.cell? ⟨b', o' + I * 5 + 4, none⟩ = some (.slice ay y.kids.length cy)) ∧ Two w.heap.size w b (o + I * 5) x ax cx b' (o' + I * 5) y ay cy w')
            (first | exact two_start HS0.out.drew | exact two_start HS0.out | exact two_start ((by assumption : _ ∧ Two _ _ _ _ _ _ _ _ _ _ _ _ _).2.keep hb hb' (by assumption)) | exact two_start (by assumption : _ ∧ Two _ _ _ _ _ _ _ _ _ _ _ _ _).2.drew)
            (first | (go_at_call 17; refine (eq_node x y ax ay cx cy _ HKX.out HKY.out ((by assumption : _ ∧ Two _ _ _ _ _ _ _ _ _ _ _ _ _).2.xi.up (by assumption : _ ∧ Two _ _ _ _ _ _ _ _ _ _ _ _ _).2.le) ((by assumption : _ ∧ Two _ _ _ _ _ _ _ _ _ _ _ _ _).2.yi.up (by assumption : _ ∧ Two _ _ _ _ _ _ _ _ _ _ _ _ _).2.le)).mono ?_; rintro e w1 ⟨he, b1⟩; rw [HD.out] at he; subst he))
          have HBZ := Lib.hid (by assumption : _ ∧ Two _ _ _ _ _ _ _ _ _ _ _ _ _).2.bel
          go_wp2
          go_ret
          exact ⟨by rw [HS.out]; rfl, HBZ.out⟩
        · have HS := Lib.hid (take_step hl1 HLEN.out HT.out (by rw [← HXE.out, ← HYE.out]; exact of_decide_eq_true HD.out))
          go_wp2
          go_region_held3 (fun w' => (w'.cell? ⟨b, o + I * 5, none⟩ = some (.int .i64 x.k) ∧ w'.cell? ⟨b, o + I * 5 + 1, none⟩ = some (.int .i64 x.op) ∧ w'.cell? ⟨b, o + I * 5 + 2, none⟩ = some (.string x.s) ∧ w'.cell? ⟨b, o + I * 5 + 3, none⟩ = some (.string x.t) ∧ w'.cell? ⟨b, o + I * 5 + 4, none⟩ = some (.slice ax x.kids.length cx) ∧ w'.cell? ⟨b', o' + I * 5, none⟩ = some (.int .i64 y.k) ∧ w'.cell? ⟨b', o' + I * 5 + 1, none⟩ = some (.int .i64 y.op) ∧ w'.cell? ⟨b', o' + I * 5 + 2, none⟩ = some (.string y.s) ∧ w'.cell? ⟨b', o' + I * 5 + 3, none⟩ = some (.string y.t) ∧ w'.cell? ⟨b', o' + I * 5 + 4, none⟩ = some (.slice ay y.kids.length cy)) ∧ Two w.heap.size w b (o + I * 5) x ax cx b' (o' + I * 5) y ay cy w')
            (first | exact two_start HS0.out.drew | exact two_start HS0.out | exact two_start ((by assumption : _ ∧ Two _ _ _ _ _ _ _ _ _ _ _ _ _).2.keep hb hb' (by assumption)) | exact two_start (by assumption : _ ∧ Two _ _ _ _ _ _ _ _ _ _ _ _ _).2.drew)
            (first | (go_at_call 17; refine (eq_node x y ax ay cx cy _ HKX.out HKY.out ((by assumption : _ ∧ Two _ _ _ _ _ _ _ _ _ _ _ _ _).2.xi.up (by assumption : _ ∧ Two _ _ _ _ _ _ _ _ _ _ _ _ _).2.le) ((by assumption : _ ∧ Two _ _ _ _ _ _ _ _ _ _ _ _ _).2.yi.up (by assumption : _ ∧ Two _ _ _ _ _ _ _ _ _ _ _ _ _).2.le)).mono ?_; rintro e w1 ⟨he, b1⟩; rw [HD.out] at he; subst he))
          have HBZ := Lib.hid (by assumption : _ ∧ Two _ _ _ _ _ _ _ _ _ _ _ _ _).2.bel
          go_wp2
          go_roundw
          case rel => exact ⟨I + 1, by have := HLN.out; omega, by go_num, HBZ.out, HS.out⟩
          case measure => simp [intOf]; omega
      · have HS := Lib.hid (show decide (l = m) = true from decide_eq_true (take_all (I := I) (by have := HLN.out; omega) HLEN.out HT.out))
        go_wp2
        go_ret
        exact ⟨by rw [HS.out]; rfl, HB.out⟩
  · have HS := Lib.hid (show decide (l = m) = false from decide_eq_false (fun e => hlen (by rw [e])))
    have hd : (((l.length : Int)) != (m.length : Int)) = true := by simp; omega
    clear hlen
    go_enter Tryz.func8, Tryz.ntmps8
    go_wp2
    go_ret
    exact ⟨by rw [HS.out]; rfl, Below.refl _ _⟩
end Go.Proofs.YtckeepjfbpphaaaGreatDoor.nd
