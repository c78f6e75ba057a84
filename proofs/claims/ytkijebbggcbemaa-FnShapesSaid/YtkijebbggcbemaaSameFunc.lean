/-
  impl.SameTree by slices.EqualFunc: contracts.
-/
import Derived.Test.YtkijebbggcbemaaSameTree
namespace Go.Proofs.Ytkijebbggcbemaa.nd
open Go.ChangeShapes Go.WideShapes Go.ChangeAt Go.RowKit
set_option linter.unusedVariables false

theorem cell_over {w : World} {b o : Nat} {v : Value} (z : Obj) (h : w.cell? ⟨b, o, none⟩ = some v) : (w.alloc z).cell? ⟨b, o, none⟩ = some v :=
  (((Below.refl w.heap.size w).alloc (Nat.le_refl _) z).cell (p := ⟨b, o, none⟩) (World.block_lt_of_cell? w _ h)).trans h

set_option maxHeartbeats 3200000 in
theorem lib_same (l m : List Nd) (a a' : Option Addr) (cap cap' : Nat) (w : World) (hn : l.length ≤ 1048576) (hn' : m.length ≤ 1048576) (hk : ∀ t ∈ l, t.kids.length ≤ 1048576) (hk' : ∀ t ∈ m, t.kids.length ≤ 1048576) (hc : Lies w.heap.size w a l) (hc' : Lies w.heap.size w a' m) :
    Calls Try.prog 36 #[.slice a l.length cap, .slice a' m.length cap', .func (.func 37) #[] #[]] w fun e w' => e = .returned (.bool (decide (l = m))) ∧ Below w.heap.size w w' := by
  have HC := Lib.hid hc
  have HC' := Lib.hid hc'
  have HK := Lib.hid hk
  have HK' := Lib.hid hk'
  clear hc hc' hk hk'
  by_cases hlen : l.length = m.length
  · have HLEN := Lib.hid hlen
    obtain ⟨n, hln⟩ : ∃ n, n = l.length := ⟨_, rfl⟩
    have HLN := Lib.hid hln
    rw [← hlen, ← hln]
    rw [← hln] at hn
    have hd : (((n : Int)) != (n : Int)) = false := by simp
    clear hlen hn' hln
    go_enter Try.func36, Try.ntmps36
    go_wp2
    go_loopw [7, 8, 9, 17] (fun j p q i wr => RelEF w.heap.size w l m i wr) (fun j p q i _ => n - (intOf i).toNat)
    case atStart => exact ⟨0, by omega, rfl, Below.refl _ _, by simp⟩
    case round =>
      obtain ⟨I, hI, rfl, hbel, htk⟩ := hrel
      have HB := Lib.hid hbel
      have HT := Lib.hid htk
      rw [← HLN.out] at hI
      clear hbel htk
      by_cases hlt : I < n
      · have hl1 : I < l.length := by have := HLN.out; omega
        have hl2 : I < m.length := by have := HLEN.out; omega
        obtain ⟨b, o, rfl, hb, hcell⟩ := lies_at HC.out hl1
        obtain ⟨b', o', rfl, hb', hcell'⟩ := lies_at HC'.out hl2
        obtain ⟨ax, cx, x5, xi⟩ := (hcell I hl1).keep HB.out (Nat.le_refl _) hb
        obtain ⟨ay, cy, y5, yi⟩ := (hcell' I hl2).keep HB.out (Nat.le_refl _) hb'
        have HKX := Lib.hid (HK.out l[I] (List.getElem_mem hl1))
        have HKY := Lib.hid (HK'.out m[I] (List.getElem_mem hl2))
        obtain ⟨x, hx⟩ : ∃ x, x = l[I] := ⟨_, rfl⟩
        obtain ⟨y, hy⟩ : ∃ y, y = m[I] := ⟨_, rfl⟩
        rw [← hx] at x5 xi HKX
        rw [← hy] at y5 yi HKY
        have HXE := Lib.hid hx
        have HYE := Lib.hid hy
        have hi1 : (I : Int) < (n : Int) := by omega
        have hi0 : (0 : Int) ≤ (I : Int) := by omega
        clear hx hy hcell hcell'
        have HXI := Lib.hid (xi.up HB.out.size)
        have HYI := Lib.hid (yi.up HB.out.size)
        obtain ⟨c0, c1, c2, c3, c4⟩ := x5
        obtain ⟨d0, d1, d2, d3, d4⟩ := y5
        clear xi yi
        have D0 : ∀ z, (wr.alloc z).cell? ⟨b', o' + I * 5, none⟩ = some (.int .i64 y.k) := fun z => cell_over z d0
        have D1 : ∀ z, (wr.alloc z).cell? ⟨b', o' + I * 5 + 1, none⟩ = some (.int .i64 y.op) := fun z => cell_over z d1
        have D2 : ∀ z, (wr.alloc z).cell? ⟨b', o' + I * 5 + 2, none⟩ = some (.string y.s) := fun z => cell_over z d2
        have D3 : ∀ z, (wr.alloc z).cell? ⟨b', o' + I * 5 + 3, none⟩ = some (.string y.t) := fun z => cell_over z d3
        have D4 : ∀ z, (wr.alloc z).cell? ⟨b', o' + I * 5 + 4, none⟩ = some (.slice ay y.kids.length cy) := fun z => cell_over z d4
        clear d0 d1 d2 d3 d4
        obtain ⟨d, hd2⟩ : ∃ d, decide (x = y) = d := ⟨_, rfl⟩
        have HD := Lib.hid hd2
        clear hd2
        go_wp2_with fail
        have hb0 := below_two wr (.cells #[.int .i64 x.k, .int .i64 x.op, .string x.s, .string x.t, .slice ax x.kids.length cx] 35) (.cells #[.int .i64 y.k, .int .i64 y.op, .string y.s, .string y.t, .slice ay y.kids.length cy] 35)
        refine (same_node x y ax ay cx cy _ HKX.out HKY.out ((HXI.out.keep hb0 (Nat.le_refl _)).up hb0.size) ((HYI.out.keep hb0 (Nat.le_refl _)).up hb0.size)).mono ?_
        rintro e w2 ⟨he, b2⟩
        rw [HD.out] at he
        subst he
        have HB2 := Lib.hid (HB.out.trans ((hb0.trans (b2.mono hb0.size)).mono HB.out.size))
        clear hb0 b2
        cases d
        · have HS := Lib.hid (show decide (l = m) = false from decide_eq_false (at_ne hl1 HLEN.out (by rw [← HXE.out, ← HYE.out]; exact of_decide_eq_false HD.out)))
          go_wp2
          go_ret
          exact ⟨by rw [HS.out]; rfl, HB2.out⟩
        · have HS := Lib.hid (take_step hl1 HLEN.out HT.out (by rw [← HXE.out, ← HYE.out]; exact of_decide_eq_true HD.out))
          go_wp2
          go_roundw
          case rel => exact ⟨I + 1, by have := HLN.out; omega, by go_num, HB2.out, HS.out⟩
          case measure => simp [intOf]; omega
      · have HS := Lib.hid (show decide (l = m) = true from decide_eq_true (take_all (I := I) (by have := HLN.out; omega) HLEN.out HT.out))
        go_wp2
        go_ret
        exact ⟨by rw [HS.out]; rfl, HB.out⟩
  · have HS := Lib.hid (show decide (l = m) = false from decide_eq_false (fun e => hlen (by rw [e])))
    have hd : (((l.length : Int)) != (m.length : Int)) = true := by simp; omega
    clear hlen
    go_enter Try.func36, Try.ntmps36
    go_wp2
    go_ret
    exact ⟨by rw [HS.out]; rfl, Below.refl _ _⟩

theorem impl_same (l m : List Nd) (a a' : Option Addr) (cap cap' : Nat) (w : World) (hn : l.length ≤ 1048576) (hn' : m.length ≤ 1048576) (hk : ∀ t ∈ l, t.kids.length ≤ 1048576) (hk' : ∀ t ∈ m, t.kids.length ≤ 1048576) (hc : Lies w.heap.size w a l) (hc' : Lies w.heap.size w a' m) :
    Calls Try.prog 17 #[.slice a l.length cap, .slice a' m.length cap'] w fun e w' => e = .returned (.bool (decide (l = m))) ∧ Below w.heap.size w w' := by
  have HX := Lib.hid (lib_same l m a a' cap cap' w hn hn' hk hk' hc hc')
  clear hc hc' hk hk'
  go_enter Try.func17, Try.ntmps17
  go_wp2_with fail
  refine HX.out.mono ?_
  rintro e w2 ⟨rfl, b2⟩
  go_wp2
  go_ret
  exact ⟨rfl, b2⟩
end Go.Proofs.Ytkijebbggcbemaa.nd
