/-
  SameTree of both sides: whether two lists of nodes are equal; a contract each.
-/
import Derived.Test.YtiilpnoaocfjgaaGreatDoorNdEq
namespace Go.Proofs.YtiilpnoaocfjgaaGreatDoor.nd
open Go.ChangeShapes Go.WideShapes Go.ChangeAt Go.RowKit
set_option linter.unusedVariables false

def RelEF (B : Nat) (W : World) (l m : List Nd) (i : Value) (wr : World) : Prop :=
  ∃ I : Nat, I ≤ l.length ∧ i = .int .i64 (I : Int) ∧ Below B W wr ∧ l.take I = m.take I

set_option maxHeartbeats 3200000 in
theorem spec_same (l m : List Nd) (a a' : Option Addr) (cap cap' : Nat) (w : World) (hn : l.length ≤ 1048576) (hn' : m.length ≤ 1048576) (hk : ∀ t ∈ l, t.kids.length ≤ 1048576) (hk' : ∀ t ∈ m, t.kids.length ≤ 1048576) (hc : Lies w.heap.size w a l) (hc' : Lies w.heap.size w a' m) :
    Calls Tryz.prog 21 #[.slice a l.length cap, .slice a' m.length cap'] w fun e w' => e = .returned (.bool (decide (l = m))) ∧ Below w.heap.size w w' := by
  have HC := Lib.hid hc
  have HC' := Lib.hid hc'
  have HK := Lib.hid hk
  have HK' := Lib.hid hk'
  clear hc hc' hk hk'
  by_cases hlen : l.length = m.length
  · have HLEN := Lib.hid hlen
    obtain ⟨n, hln⟩ : ∃ n, n = l.length := ⟨_, rfl⟩
    have HLN := Lib.hid hln
    rw [← hlen, ← hln]
    rw [← hln] at hn
    have hd : (((n : Int)) != (n : Int)) = false := by simp
    clear hlen hn' hln
    go_enter Tryz.func21, Tryz.ntmps21
    go_wp2
    go_loopw [5] (fun i wr => RelEF w.heap.size w l m i wr) (fun i _ => n - (intOf i).toNat)
    case atStart => exact ⟨0, by omega, rfl, Below.refl _ _, by simp⟩
    case round =>
      obtain ⟨I, hI, rfl, hbel, htk⟩ := hrel
      have HB := Lib.hid hbel
      have HT := Lib.hid htk
      rw [← HLN.out] at hI
      clear hbel htk
      by_cases hlt : I < n
      · have hl1 : I < l.length := by have := HLN.out; omega
        have hl2 : I < m.length := by have := HLEN.out; omega
        obtain ⟨b, o, rfl, hb, hcell⟩ := lies_at HC.out hl1
        obtain ⟨b', o', rfl, hb', hcell'⟩ := lies_at HC'.out hl2
        obtain ⟨ax, cx, x5, xi⟩ := (hcell I hl1).keep HB.out (Nat.le_refl _) hb
        obtain ⟨ay, cy, y5, yi⟩ := (hcell' I hl2).keep HB.out (Nat.le_refl _) hb'
        have HKX := Lib.hid (HK.out l[I] (List.getElem_mem hl1))
        have HKY := Lib.hid (HK'.out m[I] (List.getElem_mem hl2))
        obtain ⟨x, hx⟩ : ∃ x, x = l[I] := ⟨_, rfl⟩
        obtain ⟨y, hy⟩ : ∃ y, y = m[I] := ⟨_, rfl⟩
        rw [← hx] at x5 xi HKX
        rw [← hy] at y5 yi HKY
        have HXE := Lib.hid hx
        have HYE := Lib.hid hy
        have hi1 : (I : Int) < (n : Int) := by omega
        have hi0 : (0 : Int) ≤ (I : Int) := by omega
        clear hx hy hcell hcell'
        have HXI := Lib.hid (show ∀ q, Ints (wr.drewN q).heap.size (wr.drewN q) ax x.kids from fun q => (xi.keep (below_drewN (Below.refl _ wr) q) HB.out.size).up HB.out.size)
        have HYI := Lib.hid (show ∀ q, Ints (wr.drewN q).heap.size (wr.drewN q) ay y.kids from fun q => (yi.keep (below_drewN (Below.refl _ wr) q) HB.out.size).up HB.out.size)
        obtain ⟨c0, c1, c2, c3, c4⟩ := x5
        obtain ⟨e0, e1, e2, e3, e4⟩ := y5
        clear xi yi
        by_cases h1 : x.k = y.k
        · obtain ⟨d1, d1'⟩ := eq_facts h1
          by_cases h2 : x.op = y.op
          · obtain ⟨d2, d2'⟩ := eq_facts h2
            by_cases h3 : x.s = y.s
            · obtain ⟨d3, d3'⟩ := str_eq h3
              by_cases h4 : x.t = y.t
              · obtain ⟨d4, d4'⟩ := str_eq h4
                have HQ := nd_eq ⟨h1, h2, h3, h4⟩
                obtain ⟨d, hd2⟩ : ∃ d, decide (x.kids = y.kids) = d := ⟨_, rfl⟩
                rw [hd2] at HQ
                have HD := Lib.hid hd2
                have HQ := Lib.hid HQ
                have HCC := Lib.hid (show ∀ q, Calls Tryz.prog 80 #[.slice ax x.kids.length cx, .slice ay y.kids.length cy] (wr.drewN q) (fun e w' => e = .returned (.bool d) ∧ ∃ m, w' = (wr.drewN q).drewN m) from fun q => by rw [← HD.out]; exact spec_ints_q x.kids y.kids ax ay cx cy _ HKX.out HKY.out (HXI.out q) (HYI.out q))
                clear hd2
                cases d
                · have HS := Lib.hid (show decide (l = m) = false from decide_eq_false (at_ne hl1 HLEN.out (by rw [← HXE.out, ← HYE.out]; exact of_decide_eq_false (HQ.out))))
                  clear h1 h2 h3 h4
                  go_wp2
                  go_quiet (first | (go_at_call 80; exact Calls.quiet_of (HCC.out _)))
                  have HBZ := Lib.hid (below_drewN HB.out nq)
                  go_wp2
                  go_ret
                  exact ⟨by rw [HS.out]; rfl, HBZ.out⟩
                · have HS := Lib.hid (take_step hl1 HLEN.out HT.out (by rw [← HXE.out, ← HYE.out]; exact of_decide_eq_true (HQ.out)))
                  clear h1 h2 h3 h4
                  go_wp2
                  go_quiet (first | (go_at_call 80; exact Calls.quiet_of (HCC.out _)))
                  have HBZ := Lib.hid (below_drewN HB.out nq)
                  go_wp2
                  go_roundw
                  case rel => exact ⟨I + 1, by have := HLN.out; omega, by go_num, HBZ.out, HS.out⟩
                  case measure => simp [intOf]; omega
              · obtain ⟨d4, d4'⟩ := str_ne h4
                have HD := Lib.hid (nd_ne (x := x) (y := y) (fun h => h4 h.2.2.2.1))
                have HS := Lib.hid (show decide (l = m) = false from decide_eq_false (at_ne hl1 HLEN.out (by rw [← HXE.out, ← HYE.out]; exact of_decide_eq_false (HD.out))))
                clear h1 h2 h3 h4
                go_wp2
                go_quiet (fail)
                have HBZ := Lib.hid (below_drewN HB.out nq)
                go_wp2
                go_ret
                exact ⟨by rw [HS.out]; rfl, HBZ.out⟩
            · obtain ⟨d3, d3'⟩ := str_ne h3
              have HD := Lib.hid (nd_ne (x := x) (y := y) (fun h => h3 h.2.2.1))
              have HS := Lib.hid (show decide (l = m) = false from decide_eq_false (at_ne hl1 HLEN.out (by rw [← HXE.out, ← HYE.out]; exact of_decide_eq_false (HD.out))))
              clear h1 h2 h3
              go_wp2
              go_quiet (fail)
              have HBZ := Lib.hid (below_drewN HB.out nq)
              go_wp2
              go_ret
              exact ⟨by rw [HS.out]; rfl, HBZ.out⟩
          · obtain ⟨d2, d2'⟩ := ne_facts h2
            have HD := Lib.hid (nd_ne (x := x) (y := y) (fun h => h2 h.2.1))
            have HS := Lib.hid (show decide (l = m) = false from decide_eq_false (at_ne hl1 HLEN.out (by rw [← HXE.out, ← HYE.out]; exact of_decide_eq_false (HD.out))))
            clear h1 h2
            go_wp2
            go_quiet (fail)
            have HBZ := Lib.hid (below_drewN HB.out nq)
            go_wp2
            go_ret
            exact ⟨by rw [HS.out]; rfl, HBZ.out⟩
        · obtain ⟨d1, d1'⟩ := ne_facts h1
          have HD := Lib.hid (nd_ne (x := x) (y := y) (fun h => h1 h.1))
          have HS := Lib.hid (show decide (l = m) = false from decide_eq_false (at_ne hl1 HLEN.out (by rw [← HXE.out, ← HYE.out]; exact of_decide_eq_false (HD.out))))
          clear h1
          go_wp2
          go_quiet (fail)
          have HBZ := Lib.hid (below_drewN HB.out nq)
          go_wp2
          go_ret
          exact ⟨by rw [HS.out]; rfl, HBZ.out⟩
      · have HS := Lib.hid (show decide (l = m) = true from decide_eq_true (take_all (I := I) (by have := HLN.out; omega) HLEN.out HT.out))
        go_wp2
        go_ret
        exact ⟨by rw [HS.out]; rfl, HB.out⟩
  · have HS := Lib.hid (show decide (l = m) = false from decide_eq_false (fun e => hlen (by rw [e])))
    have hd : (((l.length : Int)) != (m.length : Int)) = true := by simp; omega
    clear hlen
    go_enter Tryz.func21, Tryz.ntmps21
    go_wp2
    go_ret
    exact ⟨by rw [HS.out]; rfl, Below.refl _ _⟩
end Go.Proofs.YtiilpnoaocfjgaaGreatDoor.nd
