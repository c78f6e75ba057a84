/-
  spec.l6Make over a node whose kids are anything: a contract.
-/
import Derived.Test.YtckeepjfbpphaaaGreatDoorMakeAll
namespace Go.Proofs.YtckeepjfbpphaaaGreatDoor.nd
open Go.ChangeShapes Go.WideShapes Go.ChangeAt Go.RowKit
set_option linter.unusedVariables false
set_option maxRecDepth 20000

set_option maxRecDepth 20000 in
set_option maxHeartbeats 3200000 in
theorem make_gen (n : Nd) (ka : Option Addr) (kn kc : Nat) (ps : List (List Nd)) (a : Option Addr) (cap : Nat) (w : World) (hps : Parts w.heap.size w a ps) (hsum : sumL ps ≤ 100000) (hlen : ps.length ≤ 1000) (hk : ∀ q ∈ ps, ∀ t ∈ q, t.kids.length ≤ 1048576) :
    Calls Tryz.prog 26 #[.agg #[.int .i64 n.k, .int .i64 n.op, .string n.s, .string n.t, .slice ka kn kc], .slice a ps.length cap] w (PgOut (makeT n ps) w) := by
  have HPS := Lib.hid hps
  have HSUM := Lib.hid hsum
  have HK := Lib.hid hk
  clear hps hsum hk
  go_enter Tryz.func26, Tryz.ntmps26
  go_wp2
  obtain ⟨g0, hg0⟩ : ∃ g0, g0 = w.heap.size := ⟨_, rfl⟩
  have HG0 := Lib.hid hg0
  have hM0 : MK g0 n (g0 + 1) 0 [] (fun i => i) (g0 + 1 + 1) 0 [] (((w.alloc (.cells #[.int .i64 n.k, .int .i64 n.op, .string n.s, .string n.t, .slice (some ⟨g0 + 1 + 1, 0, none⟩) 0 0] 36)).alloc (.cells #[] 36)).alloc (.cells #[] 3)) := by
    have hs1 : (w.alloc (.cells #[.int .i64 n.k, .int .i64 n.op, .string n.s, .string n.t, .slice (some ⟨g0 + 1 + 1, 0, none⟩) 0 0] 36)).heap.size = g0 + 1 := by simp [hg0]
    have hs2 : ((w.alloc (.cells #[.int .i64 n.k, .int .i64 n.op, .string n.s, .string n.t, .slice (some ⟨g0 + 1 + 1, 0, none⟩) 0 0] 36)).alloc (.cells #[] 36)).heap.size = g0 + 1 + 1 := by simp [hg0]
    have h1 := PT.lit (B := g0 + 1) (w := w.alloc (.cells #[.int .i64 n.k, .int .i64 n.op, .string n.s, .string n.t, .slice (some ⟨g0 + 1 + 1, 0, none⟩) 0 0] 36)) (by rw [hs1]; exact Nat.le_refl _)
    rw [hs1] at h1
    have h2 := OwnI.lit (B := g0 + 1) (w := (w.alloc (.cells #[.int .i64 n.k, .int .i64 n.op, .string n.s, .string n.t, .slice (some ⟨g0 + 1 + 1, 0, none⟩) 0 0] 36)).alloc (.cells #[] 36)) (by rw [hs2]; omega)
    rw [hs2] at h2
    refine ⟨h1.keep ((Below.refl _ _).alloc (Nat.le_refl _) _) (Nat.le_refl _), h2, ?_, by omega, fun i hi => by simp at hi, fun i hi => by simp at hi⟩
    rw [Below.heap_alloc _ _ _ (by rw [hs2]; omega), Below.heap_alloc _ _ _ (by rw [hs1]; omega), hg0]
    exact heap_alloc_new w _
  have HM0 := Lib.hid hM0
  have HBL0 := Lib.hid (below_three w (.cells #[.int .i64 n.k, .int .i64 n.op, .string n.s, .string n.t, .slice (some ⟨g0 + 1 + 1, 0, none⟩) 0 0] 36) (.cells #[] 36) (.cells #[] 3))
  rw [← hg0] at HBL0 ⊢
  clear hg0 hM0
  go_loopw [5, 6] (fun v k wr => RelMk g0 w n ps v k wr) (fun _ k _ => ps.length - (intOf k).toNat)
  case atStart => exact ⟨0, g0 + 1, 0, [], _, g0 + 1 + 1, 0, [], by omega, rfl, rfl, HM0.out, rfl, HBL0.out⟩
  case round =>
    obtain ⟨J, gv, cv, z, r, gu, cu, ks, hJ, rfl, rfl, hmk, hgo, hbel⟩ := hrel
    have HMK := Lib.hid hmk
    have HB := Lib.hid hbel
    have hz1 : z.map (·.1) = (makeGo (ps.take J) [] []).1 := congrArg Prod.fst hgo
    have hk1 : ks = (makeGo (ps.take J) [] []).2 := congrArg Prod.snd hgo
    have hzl : z.length = sumL (ps.take J) := by
      have := congrArg List.length hz1
      rw [List.length_map, makeGo_len] at this
      simpa using this
    have hkl : ks.length = J := by
      rw [hk1, makeGo_klen]; simp; omega
    have hs1 := sum_take ps J
    have hzb : z.length ≤ 100000 := by rw [hzl]; exact Nat.le_trans hs1 HSUM.out
    have HZ1 := Lib.hid hz1
    have HK1 := Lib.hid hk1
    have HKL := Lib.hid hkl
    have HZL := Lib.hid hzl
    have hbox := hmk.box
    have b4 : wr.cell? ⟨g0, 4, none⟩ = some (.slice (some ⟨gu, 0, none⟩) ks.length cu) := by rw [cell_of_row _ _ 4 _ _ _ hbox]; rfl
    have hg0w : g0 < wr.heap.size := lt_of_heap hbox
    have HGW := Lib.hid hg0w
    clear hmk hbel hgo hz1 hk1 hzl hkl hs1 hg0w
    by_cases hlt : J < ps.length
    · have hsg := sum_get ps J hlt
      obtain ⟨b, o, rfl, hb, hc⟩ := parts_at HPS.out hlt
      obtain ⟨aj, cj, hcell, hlies⟩ := hc J hlt
      have hbg : b < g0 := by rw [HG0.out]; exact hb
      have c0 := (HB.out.cell (p := ⟨b, o + J, none⟩) hbg).trans hcell
      have HQK := Lib.hid (HK.out ps[J] (List.getElem_mem hlt))
      have HTK := Lib.hid (List.take_succ_eq_append_getElem hlt)
      obtain ⟨q, hq⟩ : ∃ q, q = ps[J] := ⟨_, rfl⟩
      rw [← hq] at c0 hlies HQK HTK hsg
      have HLIES := Lib.hid (show Lies w.heap.size wr aj q from hlies.keep HB.out (by rw [HG0.out]; exact Nat.le_refl _))
      have hqz : z.length + q.length ≤ 100000 := by rw [HZL.out]; exact Nat.le_trans hsg HSUM.out
      have HQZ := Lib.hid hqz
      have hj1 : (J : Int) < (ps.length : Int) := by omega
      have hj0 : (0 : Int) ≤ (J : Int) := by omega
      clear hq hc hcell hlies hsg hb hbg
      by_cases hq0 : 0 < q.length
      case pos =>
        go_wp2_with fail
        refine (spec_shift2 q (z.length : Int) aj cj _ (by omega) HQK.out (HLIES.out.up (by have := HGW.out; have := HG0.out; omega))).mono ?_
        rintro e w2 ⟨v2, z2, r2, rfl, hz2, pt2, b2, ge2⟩
        have hz2l : z2.length = q.length := by have := congrArg List.length hz2; simpa using this
        have M2 := Lib.hid (HMK.out.over b2)
        rcases pt2.tr with ⟨_, h0⟩ | ⟨g2, c2, rfl, hg2, _⟩
        · rw [h0] at hz2l; simp at hz2l; omega
        have hz2p : 0 < z2.length := by omega
        have hzz : z.length + z2.length ≤ 1048576 := by omega
        have hgw2 : g0 + 1 ≤ w2.heap.size := by have := HGW.out; have := b2.size; omega
        have hgS : g0 + 1 ≤ wr.heap.size := HGW.out
        have hap : ∀ i j, i < z.length → j < z2.length → r i ≠ r2 j := fun i j hi hj => by
          have := HMK.out.out.lt i hi
          have := ge2 j hj
          omega
        have hoff : ∀ j, j < z2.length → (Value.slice (some ⟨gv, 0, none⟩) z.length cv).ownBlock ≠ some (r2 j) := fun j hj e => by
          have h1 := HMK.out.gv_lt.2
          have h2 := ge2 j hj
          simp [Value.ownBlock] at e
          omega
        have PT2 := Lib.hid pt2
        have HGE := Lib.hid ge2
        have HP0 := Lib.hid hz2p
        have HZZ := Lib.hid hzz
        have HW2 := Lib.hid hgw2
        have HGS := Lib.hid hgS
        have HAP := Lib.hid hap
        have HOF := Lib.hid hoff
        have HZ2 := Lib.hid hz2
        have HZ2L := Lib.hid hz2l
        have HB2 := Lib.hid (HB.out.trans (b2.mono (Nat.le_of_lt HGW.out)))
        have HKB := Lib.hid (show ks.length ≤ 1048576 by rw [HKL.out]; omega)
        have hzv : z.length + z2.length ≤ 100000 := by omega
        clear pt2 ge2 hz2p hzz hgw2 hgS hap hoff hz2 hz2l hg2 b2 b4 hbox hqz hq0 c0
        go_wp2_with (first | (refine wpList_append_pt _ rfl _ _ rfl (g0 + 1) wr.heap.size (.slice (some ⟨gv, 0, none⟩) z.length cv) z r rfl M2.out.out g2 c2 z2 r2 PT2.out rfl HP0.out HZZ.out HW2.out HGS.out HAP.out HOF.out ?_; intro g3 c3 w3 r3 pt3 rr1 rr2 b3 gr3 or3; have M3 := Lib.hid (M2.out.app gr3 pt3 rr1 rr2 HGE.out HMK.out.gu_lt.2 (or3.imp (fun e => by simpa [Value.ownBlock] using e) id)); have x4 : w3.cell? ⟨g0, 4, none⟩ = some (.slice (some ⟨gu, 0, none⟩) ks.length cu) := cell4 M3.out.box; have HW3 := Lib.hid (show g0 + 1 ≤ w3.heap.size from lt_of_heap M3.out.box); have HB3 := Lib.hid (HB2.out.trans (b3.mono (Nat.le_succ g0)))) | (refine wpList_append_int2 _ _ rfl _ _ rfl (g0 + 1) (.slice (some ⟨gu, 0, none⟩) ks.length cu) ks rfl M3.out.kids rfl HKB.out HW3.out ?_; intro g4 c4 w4 own4 b4 gr4 or4; have M4 := Lib.hid (M3.out.kid own4 gr4 (or4.imp (fun e => by simpa [Value.ownBlock] using e) id)); have hb4 : w4.heap[g0]? = some (.cells #[.int .i64 n.k, .int .i64 n.op, .string n.s, .string n.t, .slice (some ⟨gu, 0, none⟩) ks.length cu] 36 (0, 0)) := (b4.block g0 (Nat.lt_succ_self g0)).trans M3.out.box; have y4 : w4.cell? ⟨g0, 4, none⟩ = some (.slice (some ⟨gu, 0, none⟩) ks.length cu) := cell4 hb4; have f4 : w4.frozen? ⟨g0, 4, none⟩ = false := frozen_of_row _ _ 4 _ _ hb4))
        go_roundw
        case rel =>
          have hbe := ((HB3.out.trans (b4.mono (Nat.le_succ g0))).setCell (p := ⟨g0, 4, none⟩) (Nat.le_refl _) (.slice (some ⟨g4, 0, none⟩) (ks.length + 1) c4))
          have hlen1 : (makeGo (ps.take J) [] []).1.length = z.length := by rw [← HZ1.out, List.length_map]
          refine ⟨J + 1, g3, c3, z ++ z2, r3, g4, c4, _, by omega, by go_num, by rw [List.length_append], M4.out, ?_, hbe⟩
          rw [HTK.out, makeGo_snoc, List.map_append, HZ2.out, ← HZ1.out, ← HK1.out, List.length_map]
          refine Prod.ext rfl ?_
          refine congrArg (fun x => ks ++ [x]) ?_
          rw [List.length_append, List.length_map, List.length_map, HZ2L.out]
          omega
        case measure => simp [intOf]; omega
      case neg =>
        have hq00 : q = [] := List.length_eq_zero_iff.1 (by omega)
        have HQ00 := Lib.hid hq00
        clear hq0 hq00
        go_wp2_with fail
        refine (spec_shift2 q (z.length : Int) aj cj _ (by omega) HQK.out (HLIES.out.up (by have := HGW.out; have := HG0.out; omega))).mono ?_
        rintro e w2 ⟨v2, z2, r2, rfl, hz2, pt2, b2, ge2⟩
        have hz2l : z2.length = 0 := by have := congrArg List.length hz2; rw [HQ00.out] at this; simpa using this
        have M2 := Lib.hid (HMK.out.over b2)
        have hv2 : ∃ a2 c2, v2 = .slice a2 0 c2 := by obtain ⟨a2, c2, e⟩ := pt2.form; rw [hz2l] at e; exact ⟨a2, c2, e⟩
        obtain ⟨a2, c2, rfl⟩ := hv2
        have hcap : (Value.slice a2 0 c2 = .slice none 0 0) ∨ ∃ ad, a2 = some ad := by
          rcases pt2.tr with ⟨h0, _⟩ | ⟨g2, c2', h0, _, _⟩
          · exact .inl h0
          · injection h0 with h0 _ _; exact .inr ⟨_, h0⟩
        have HCAP := Lib.hid hcap
        have HB2 := Lib.hid (HB.out.trans (b2.mono (Nat.le_of_lt HGW.out)))
        have HKB := Lib.hid (show ks.length ≤ 1048576 by rw [HKL.out]; omega)
        have HW2 := Lib.hid (show g0 + 1 ≤ w2.heap.size from lt_of_heap M2.out.box)
        have x4 : w2.cell? ⟨g0, 4, none⟩ = some (.slice (some ⟨gu, 0, none⟩) ks.length cu) := cell4 M2.out.box
        have hzv : z.length ≤ 100000 := by omega
        clear pt2 ge2 hz2 hz2l b2 b4 hbox hqz c0 hcap
        go_wp2_with (first | (refine append_zero rfl _ _ rfl (g0 + 1) gv cv z r rfl M2.out.out a2 c2 rfl HCAP.out ?_) | (refine wpList_append_int2 _ _ rfl _ _ rfl (g0 + 1) (.slice (some ⟨gu, 0, none⟩) ks.length cu) ks rfl M2.out.kids rfl HKB.out HW2.out ?_; intro g4 c4 w4 own4 b4 gr4 or4; have M4 := Lib.hid (M2.out.kid own4 gr4 (or4.imp (fun e => by simpa [Value.ownBlock] using e) id)); have hb4 : w4.heap[g0]? = some (.cells #[.int .i64 n.k, .int .i64 n.op, .string n.s, .string n.t, .slice (some ⟨gu, 0, none⟩) ks.length cu] 36 (0, 0)) := (b4.block g0 (Nat.lt_succ_self g0)).trans M2.out.box; have y4 : w4.cell? ⟨g0, 4, none⟩ = some (.slice (some ⟨gu, 0, none⟩) ks.length cu) := cell4 hb4; have f4 : w4.frozen? ⟨g0, 4, none⟩ = false := frozen_of_row _ _ 4 _ _ hb4))
        go_roundw
        case rel =>
          have hbe := ((HB2.out.trans (b4.mono (Nat.le_succ g0))).setCell (p := ⟨g0, 4, none⟩) (Nat.le_refl _) (.slice (some ⟨g4, 0, none⟩) (ks.length + 1) c4))
          refine ⟨J + 1, gv, cv, z, r, g4, c4, _, by omega, by go_num, by first | rfl | simp, M4.out, ?_, hbe⟩
          rw [HTK.out, makeGo_snoc, HQ00.out, List.map_nil, List.append_nil, ← HZ1.out, ← HK1.out]
          refine Prod.ext rfl ?_
          refine congrArg (fun x => ks ++ [x]) ?_
          rw [List.length_map]
        case measure => simp [intOf]; omega
    · obtain rfl : J = ps.length := by omega
      have hkv : KidV (g0 + 1) wr gu (.slice (some ⟨gu, 0, none⟩) ks.length cu) ks := by
        rcases HMK.out.kids.blkM with ⟨h, _⟩ | ⟨g, c, h, hg, hb, hm⟩
        · cases h
        · injection h with h1 _ h3
          injection h1 with h1
          injection h1 with h1 _ _
          subst h1 h3
          exact .inr ⟨_, rfl, hb, hg, hm⟩
      have HKV := Lib.hid (show KidV (g0 + 1) wr gu (.slice (some ⟨gu, 0, none⟩) ks.length cu) ({ n with kids := ks } : Nd).kids from hkv)
      have HZB := Lib.hid (show z.length ≤ 1048576 by omega)
      have HGS := Lib.hid (show g0 + 1 ≤ wr.heap.size from HGW.out)
      have HGU := Lib.hid HMK.out.gu_lt.2
      have HOF := Lib.hid (show (Value.slice (some ⟨gv, 0, none⟩) z.length cv).ownBlock ≠ some gu from fun e => by simp [Value.ownBlock] at e; exact HMK.out.ne e)
      have b0 : wr.cell? ⟨g0, 0, none⟩ = some (.int .i64 n.k) := by rw [cell_of_row _ _ 0 _ _ _ hbox]; rfl
      have b1 : wr.cell? ⟨g0, 1, none⟩ = some (.int .i64 n.op) := by rw [cell_of_row _ _ 1 _ _ _ hbox]; rfl
      have b2 : wr.cell? ⟨g0, 2, none⟩ = some (.string n.s) := by rw [cell_of_row _ _ 2 _ _ _ hbox]; rfl
      have b3 : wr.cell? ⟨g0, 3, none⟩ = some (.string n.t) := by rw [cell_of_row _ _ 3 _ _ _ hbox]; rfl
      have hj1 : ¬ (ps.length : Int) < (ps.length : Int) := by omega
      clear hkv hbox
      go_wp2_with (refine wpList_append_node _ ({ n with kids := ks } : Nd) _ rfl _ _ rfl (g0 + 1) (.slice (some ⟨gv, 0, none⟩) z.length cv) z r gu rfl HMK.out.out rfl rfl HZB.out HGS.out HKV.out HMK.out.row HGU.out HOF.out ?_; intro v' r' w4 pt4 b4' rr1 rr2)
      go_ret
      have HG := HG0.out
      refine ⟨_, _, r', rfl, ?_, pt4.up (by omega), by rw [← HG]; exact HB.out.trans (b4'.mono (Nat.le_succ g0)), fun i hi => ?_⟩
      rotate_left
      · rw [← HG]
        simp at hi
        by_cases he : i < z.length
        · rw [rr1 i he]; exact Nat.le_of_lt (HMK.out.gt i he)
        · rw [show i = z.length by omega, rr2]; exact Nat.le_of_lt HMK.out.gu_lt.1
      rw [List.map_append, HZ1.out, List.take_length, HK1.out, List.take_length]
      rfl
end Go.Proofs.YtckeepjfbpphaaaGreatDoor.nd
