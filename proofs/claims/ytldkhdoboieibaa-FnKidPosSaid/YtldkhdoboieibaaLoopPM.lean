/-
  spec.l7Program, which draws again until the program is small enough; spec.l7Any: some small tree.
-/
import Derived.Test.YtldkhdoboieibaaLoopCM
namespace Go.Proofs.Ytldkhdoboieibaa.draw
open Go.ChangeShapes Go.WideShapes Go.ChangeAt Go.RowKit
open nd lcg
open sz (Sh expr_str stmt_str prog_str)
set_option linter.unusedVariables false
set_option maxRecDepth 20000

section
variable {B p len cap : Nat} {a : Option Addr} {zs : List Int}
set_option maxHeartbeats 3200000 in
theorem prog_okx {w : World} {s : St} (H : In B w p a len cap zs s) :
    Calls Try.prog 48 #[.pointer (some ⟨p, 0, none⟩)] w (TAnyX B p a len cap zs w) := by
  have HI := Lib.hid H
  have HP := H.lt
  clear H
  go_enter Try.func48, Try.ntmps48
  go_wp2
  go_loopw [3, 4, 5] (fun _ _ _ wr => RelRed B p len cap a zs w wr) (fun _ _ _ wr => mu (rdE 220 (progG (exactG zs))) (prog_every zs) (curOf wr p))
  case atStart => exact ⟨s, HI.out, grown_refl⟩
  case round =>
    obtain ⟨wr0, rfl⟩ : ∃ wo : World, wo = wr := ⟨_, rfl⟩
    obtain ⟨s', hI, hG⟩ := hrel
    have HIr := Lib.hid hI
    have HGr := Lib.hid hG
    have HPr := hI.lt
    clear hI hG
    have hb := exact_lt zs 4 s' (by decide)
    obtain ⟨N, hN⟩ : ∃ N, ((exactG zs).bl 4 s').1 = N := ⟨_, rfl⟩
    obtain ⟨t, ht⟩ : ∃ t, ((exactG zs).bl 4 s').2 = t := ⟨_, rfl⟩
    rw [hN] at hb
    have HN := Lib.hid hN
    have HT := Lib.hid ht
    have HQ := Lib.hid (show progG (exactG zs) s' = (makeT (nodeO 45 0) (timesG (itemG (exactG zs)) N t).1, (timesG (itemG (exactG zs)) N t).2) by unfold progG; rw [hN, ht]; rfl)
    clear hN ht
    have L0 := Lib.hid (LS.start HIr.out (Nat.le_refl _) HPr)
    have HG0 := Lib.hid (grown_below (p := p) grown_refl ((Below.refl wr0.heap.size wr0).alloc (Nat.le_refl _) (.cells #[] 65)) rfl)
    go_wp2_with fail
    refine (bl_ok 4 (by decide) HN.out L0.out.cur).mono ?_
    rintro e w1 ⟨rfl, I1, G1⟩
    rw [HT.out] at I1
    have L1 := Lib.hid (L0.out.next I1 G1)
    have HG1 := Lib.hid (grown_trans HG0.out G1)
    clear I1 G1
    go_wp2
    go_loopw [3, 4] (fun v n wr => RelList B p len cap a zs wr0 (itemG (exactG zs)) N t v n wr) (fun _ n _ => (intOf n).toNat)
    case atStart => exact ⟨0, wr0.heap.size, 0, [], by omega, by simp, rfl, L1.out, HG1.out⟩
    case round =>
      obtain ⟨I, g, c, vs, hI, rfl, rfl, hls, hgr⟩ := hrel
      have hvl := hls.ln
      rw [times_len] at hvl
      subst hvl
      have HL := Lib.hid hls
      have HG := Lib.hid hgr
      clear hls hgr
      by_cases hlt : vs.length < N
      · have hi : (vs.length : Int) < (N : Int) := by omega
        have hi2 : 0 < (N : Int) - (vs.length : Int) := by omega
        go_wp2_with fail
        refine (item_ok HL.out.cur).mono ?_
        rintro e w2 ⟨u, rfl, T2, I2, G2⟩
        obtain ⟨au, cu, rfl⟩ := T2.form
        have L2 := Lib.hid (HL.out.next I2 G2)
        have HT2 := Lib.hid T2
        have HG2 := Lib.hid (grown_trans HG.out G2)
        clear T2 I2 G2
        go_wp2_with (refine wpList_append_tree _ _ rfl _ _ rfl wr0.heap.size (.slice (some ⟨g, 0, none⟩) vs.length c) vs rfl L2.out.own rfl rfl (by omega) L2.out.lw ?_; intro g3 c3 w3 own3 gr3 or3; have L3 := Lib.hid (L2.out.push HT2.out HL.out.g_lt.2 own3 gr3 (or3.imp (fun e => by simpa [Value.ownBlock] using e) id)); have HG3 := Lib.hid (L2.out.grown HG2.out (Nat.le_refl _) gr3))
        go_roundw
        case rel =>
          refine ⟨vs.length + 1, g3, c3, vs ++ [.slice au (itemG (exactG zs) (timesG (itemG (exactG zs)) vs.length t).2).1.length cu], by omega, by go_num, rfl, ?_⟩
          rw [times_snoc]
          exact ⟨L3.out, HG3.out⟩
        case measure => simp [intOf]; omega
      · obtain rfl : vs.length = N := by omega
        have hi2 : ¬ 0 < (vs.length : Int) - (vs.length : Int) := by omega
        have HZ : (makeT (nodeO 45 0) (timesG (itemG (exactG zs)) vs.length t).1).length ≤ 45004 := by
          have h := sm_list (k := 15001) (m := 3) (nodeO 45 0) ⟨(times_small (item_small (zs := zs)) vs.length t).1, Nat.le_trans (times_small (item_small (zs := zs)) vs.length t).2 (by omega)⟩ (by decide)
          exact h.2.1
        have HSM := Lib.hid (sm_list (k := 15001) (m := 3) (nodeO 45 0) ⟨(times_small (item_small (zs := zs)) vs.length t).1, Nat.le_trans (times_small (item_small (zs := zs)) vs.length t).2 (by omega)⟩ (by decide))
        go_wp2_with fail
        refine (good_partsN (n := nodeO 45 0) (by rw [times_len]) HL.out.parts (times_all (fun s => (item_small (zs := zs) s).good (by decide)) _ _) (by rw [times_len]; omega)).mono ?_
        rintro e w4 hmk
        have HM := Lib.hid (TOut.make HL.out.cur HPr HG.out (Below.refl _ _) hmk)
        clear hmk
        obtain ⟨vz, rfl, T4, I4, G4⟩ := HM.out
        obtain ⟨a4, c4, rfl⟩ := T4.form
        have HM2 := Lib.hid (TOut.back HGr.out HP HM.out)
        have HI4 := Lib.hid I4
        have HG4 := Lib.hid (grown_trans HGr.out G4)
        obtain ⟨n, hn⟩ : ∃ n, (makeT (nodeO 45 0) (timesG (itemG (exactG zs)) vs.length t).1).length = n := ⟨_, rfl⟩
        have HNN := Lib.hid hn
        rw [hn] at HM2 HZ ⊢
        clear T4 I4 G4 HM hn
        by_cases hle : n ≤ 220
        · have hi : (n : Int) ≤ 220 := by omega
          go_wp2
          go_ret
          exact ⟨_, _, HM2.out, ⟨HSM.out.1, by rw [HNN.out]; omega, HSM.out.2.2⟩, by have h := prog_str zs s'; rw [HQ.out] at h; exact h, by have h := ar.prog_ar zs s'; rw [HQ.out] at h; exact h⟩
        · have hi : ¬ (n : Int) ≤ 220 := by omega
          go_wp2
          go_roundw
          case rel => exact ⟨_, HI4.out, HG4.out⟩
          case measure =>
            rw [cur_of HIr.out, cur_of HI4.out]
            have h := mu_step (rdE 220 (progG (exactG zs))) (prog_every zs) s' (by
              show Nat.ble (progG (exactG zs) s').1.length 220 = false
              rw [HQ.out, HNN.out]
              cases hb : Nat.ble n 220 with
              | false => rfl
              | true => exact absurd (Nat.le_of_ble_eq_true hb) hle)
            have e2 : (rdE 220 (progG (exactG zs)) s').2 = (timesG (itemG (exactG zs)) vs.length t).2 := by
              show (progG (exactG zs) s').2 = _
              rw [HQ.out]
            rw [e2] at h
            exact h
theorem any_okx {w : World} {s : St} (H : In B w p a len cap zs s) :
    Calls Try.prog 41 #[.pointer (some ⟨p, 0, none⟩)] w (TAnyX B p a len cap zs w) := by
  have HI := Lib.hid H
  have HP := H.lt
  clear H
  obtain ⟨K, hK⟩ : ∃ K, ((exactG zs).bl 5 s).1 = K := ⟨_, rfl⟩
  obtain ⟨t, ht⟩ : ∃ t, ((exactG zs).bl 5 s).2 = t := ⟨_, rfl⟩
  have hk := exact_lt zs 5 s (by decide)
  rw [hK] at hk
  have HK := Lib.hid hK
  have HT := Lib.hid ht
  clear hK ht
  have HS2 := Lib.hid (stmt_all B p len cap a zs 2 (by decide))
  go_enter Try.func41, Try.ntmps41
  go_wp2_with fail
  refine (bl_ok 5 (by decide) HK.out HI.out).mono ?_
  rintro e w1 ⟨rfl, I1, G1⟩
  rw [HT.out] at I1
  have HI1 := Lib.hid I1
  have HG1 := Lib.hid G1
  clear I1 G1
  have hs : ∀ (e : Ending) (w2 : World), TAnyX B p a len cap zs w1 e w2 → TAnyX B p a len cap zs w e w2 := by
    rintro e w2 ⟨q, s', h1, h2⟩
    exact ⟨q, s', TOut.back HG1.out HP h1, h2⟩
  have HSS := Lib.hid hs
  clear hs
  rcases (show K = 0 ∨ K = 1 ∨ K = 2 ∨ K = 3 ∨ K = 4 by omega) with rfl | rfl | rfl | rfl | rfl
  · go_wp2_with fail
    refine (some_okx HI1.out).mono ?_
    rintro e w2 hT
    have HM := Lib.hid (HSS.out _ _ hT)
    obtain ⟨q, s', ⟨v, rfl, T2, I2, G2⟩, _⟩ := hT
    obtain ⟨a2, c2, rfl⟩ := T2.form
    go_wp2
    go_ret
    exact HM.out
  · go_wp2_with fail
    refine (some_okx HI1.out).mono ?_
    rintro e w2 hT
    have HM := Lib.hid (HSS.out _ _ hT)
    obtain ⟨q, s', ⟨v, rfl, T2, I2, G2⟩, _⟩ := hT
    obtain ⟨a2, c2, rfl⟩ := T2.form
    go_wp2
    go_ret
    exact HM.out
  · go_wp2_with fail
    refine (HS2.out.1 _ _ HI1.out).mono ?_
    rintro e w2 hT
    have HM := Lib.hid (HSS.out _ _ ⟨_, _, hT, (HS2.out.2 _).mono (by decide), stmt_str zs 2 _, ar.stmt_ar zs 2 _⟩)
    obtain ⟨v, rfl, T2, I2, G2⟩ := hT
    obtain ⟨a2, c2, rfl⟩ := T2.form
    go_wp2
    go_ret
    exact HM.out
  · go_wp2_with fail
    refine (prog_okx HI1.out).mono ?_
    rintro e w2 hT
    have HM := Lib.hid (HSS.out _ _ hT)
    obtain ⟨q, s', ⟨v, rfl, T2, I2, G2⟩, _⟩ := hT
    obtain ⟨a2, c2, rfl⟩ := T2.form
    go_wp2
    go_ret
    exact HM.out
  · go_wp2_with fail
    refine (prog_okx HI1.out).mono ?_
    rintro e w2 hT
    have HM := Lib.hid (HSS.out _ _ hT)
    obtain ⟨q, s', ⟨v, rfl, T2, I2, G2⟩, _⟩ := hT
    obtain ⟨a2, c2, rfl⟩ := T2.form
    go_wp2
    go_ret
    exact HM.out
theorem prog_ok {w : World} {s : St} (H : In B w p a len cap zs s) :
    Calls Try.prog 48 #[.pointer (some ⟨p, 0, none⟩)] w (TAny B p a len cap zs w) :=
  (prog_okx H).mono fun _ _ h => h.any
theorem any_ok {w : World} {s : St} (H : In B w p a len cap zs s) :
    Calls Try.prog 41 #[.pointer (some ⟨p, 0, none⟩)] w (TAny B p a len cap zs w) :=
  (any_okx H).mono fun _ _ h => h.any
end
end Go.Proofs.Ytldkhdoboieibaa.draw
