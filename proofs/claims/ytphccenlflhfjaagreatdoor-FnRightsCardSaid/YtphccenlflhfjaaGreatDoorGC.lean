/-
  spec.l7Item as a whole; spec.l7Program and spec.l7Some, which draw again until the tree is small enough; spec.l7Any: some small tree.
  spec.l7Program, which draws again until the program is small enough; spec.l7Any: some small tree.
  spec.l6Bent: a small tree; cut short, with a kid more, with another first kid, or twice: some nodes. spec.l6Where, spec.DrawPart.
  spec.l7Spoilt: a tree, with one cell of one node another, or bent: some nodes. spec.DrawTreeOk.
-/
import Derived.Test.YtphccenlflhfjaaGreatDoorItemCM
import Derived.Test.YtphccenlflhfjaaGreatDoorGB
import Derived.Test.YtphccenlflhfjaaGreatDoorDepth
import Derived.Deep.RegionLaw
namespace Go.Proofs.YtphccenlflhfjaaGreatDoor.draw
open Go.ChangeShapes Go.WideShapes Go.ChangeAt Go.RowKit
open nd lcg
open sz (Sh expr_str stmt_str prog_str)
set_option linter.unusedVariables false
set_option maxRecDepth 20000

section
variable {B p len cap : Nat} {a : Option Addr} {zs : List Int}
theorem item_ok {w : World} {s : St} (H : In B w p a len cap zs s) :
    Calls Tryz.prog 90 #[.pointer (some ⟨p, 0, none⟩)] w (TOut B p a len cap zs (itemG (exactG zs) s).1 (itemG (exactG zs) s).2 w) := by
  obtain ⟨K2, hO⟩ : ∃ K, ((exactG zs).bl 2 s).1 = K := ⟨_, rfl⟩
  obtain ⟨u, hu⟩ : ∃ u, ((exactG zs).bl 2 s).2 = u := ⟨_, rfl⟩
  obtain ⟨K, hK⟩ : ∃ K, ((exactG zs).bl 8 u).1 = K := ⟨_, rfl⟩
  obtain ⟨t, ht⟩ : ∃ t, ((exactG zs).bl 8 u).2 = t := ⟨_, rfl⟩
  have hk2 := exact_lt zs 2 s (by decide)
  have hb := exact_lt zs 8 u (by decide)
  rw [item_arm, hO, hu, hK, ht]
  rw [hO] at hk2
  rw [hK] at hb
  have z1 : SmE 21 (exprG (exactG zs) 1) := ((exprs_small zs 1).1).mono (by decide)
  have z2 : SmE 21 (exprG (exactG zs) 2) := ((exprs_small zs 2).1).mono (by decide)
  have hA : Itm B p len cap a zs (1 + (K2 : Int)) (exprG (exactG zs) 1) (exprG (exactG zs) (1 + K2)) (blockG (exactG zs) (stmtG (exactG zs) (1 + K2))) := by
    rcases (show K2 = 0 ∨ K2 = 1 by omega) with rfl | rfl
    · obtain ⟨q1, q2⟩ := stmt_all B p len cap a zs 1 (by decide)
      exact ⟨by decide, by decide, expr_ok 1 (by decide) B p len cap a zs, expr_ok 1 (by decide) B p len cap a zs, block_ok (D := 1) (by decide) q1 q2 (by decide), z1, z1, (block_small q2).mono (by decide)⟩
    · obtain ⟨q1, q2⟩ := stmt_all B p len cap a zs 2 (by decide)
      exact ⟨by decide, by decide, expr_ok 1 (by decide) B p len cap a zs, expr_ok 2 (by decide) B p len cap a zs, block_ok (D := 2) (by decide) q1 q2 (by decide), z1, z2, (block_small q2).mono (by decide)⟩
  rcases (show K = 0 ∨ K = 1 ∨ K = 2 ∨ K = 3 ∨ K = 4 ∨ K = 5 ∨ K = 6 ∨ K = 7 by omega) with rfl | rfl | rfl | rfl | rfl | rfl | rfl | rfl
  · exact item0 hA H hO hk2 hu hK ht
  · exact item1 hA H hO hk2 hu hK ht
  · exact item2 hA H hO hk2 hu hK ht
  · exact item3 hA H hO hk2 hu hK ht
  · exact item4 hA H hO hk2 hu hK ht
  · exact item5 hA H hO hk2 hu hK ht
  · exact item6 hA H hO hk2 hu hK ht
  · exact item7 hA H hO hk2 hu hK ht
theorem itemA_small {A1 Ed Bk : St → List Nd × St} (h1 : SmE 5000 A1) (he : SmE 5000 Ed) (hb : SmE 5000 Bk) (b : Nat) (t : St) : Small 15001 (itemA (exactG zs) A1 Ed Bk b t).1 := by
  rcases b with _ | _ | _ | _ | _ | _ | _ | b
  · exact (sm1 _ (hb _)).mono (by decide)
  · exact (sm1 _ (he _)).mono (by decide)
  · exact (sm1 _ (hb _)).mono (by decide)
  · exact (sm_list (m := 2) _ (sm_cons (h1 _) (sm_cons (h1 _) sm_nil)) (by decide)).mono (by decide)
  · exact (sm_list (m := 3) _ (sm_cons (h1 _) (sm_cons (h1 _) (sm_cons (hb _) sm_nil))) (by decide)).mono (by decide)
  · have h3 := exact_lt zs 3 t (by decide)
    obtain ⟨l1, l2⟩ := times_small (word_small zs) ((exactG zs).bl 3 t).1 ((exactG zs).bl 3 t).2
    refine sm_list (k := 5000) (m := 3) _ ⟨fun q hq => ?_, by simp; omega⟩ (by decide)
    rcases List.mem_append.1 hq with h | h
    · exact (l1 q h).mono (by decide)
    · rw [List.mem_singleton] at h; rw [h]; exact hb _
  · exact (sm0 _).mono (by decide)
  · exact (sm_list (m := 2) _ (sm_cons (he _) (sm_cons (hb _) sm_nil)) (by decide)).mono (by decide)
theorem item_small : SmE 15001 (itemG (exactG zs)) := by
  intro s
  have hk2 := exact_lt zs 2 s (by decide)
  rw [item_arm]
  have z1 : SmE 5000 (exprG (exactG zs) 1) := ((exprs_small zs 1).1).mono (by decide)
  have z2 : SmE 5000 (exprG (exactG zs) 2) := ((exprs_small zs 2).1).mono (by decide)
  obtain ⟨K2, hO⟩ : ∃ K, ((exactG zs).bl 2 s).1 = K := ⟨_, rfl⟩
  rw [hO] at hk2
  rw [hO]
  rcases (show K2 = 0 ∨ K2 = 1 by omega) with rfl | rfl
  · exact itemA_small z1 z1 ((block_small (stmt_all 0 0 0 0 none zs 1 (by decide)).2).mono (by decide)) _ _
  · exact itemA_small z1 z2 ((block_small (stmt_all 0 0 0 0 none zs 2 (by decide)).2).mono (by decide)) _ _

/-! ### How many rounds are left -/
theorem least {P : Nat → Prop} (h : ∃ k, P k) : ∃ k, P k ∧ ∀ j, P j → k ≤ j := by
  obtain ⟨k, hk⟩ := h
  have key : ∀ n k, k ≤ n → P k → ∃ k, P k ∧ ∀ j, P j → k ≤ j := by
    intro n
    induction n with
    | zero => intro k hkn hk; exact ⟨k, hk, fun j _ => by omega⟩
    | succ n ih =>
      intro k hkn hk
      by_cases hj : ∃ j, j < k ∧ P j
      · obtain ⟨j, h1, h2⟩ := hj
        exact ih j (by omega) h2
      · exact ⟨k, hk, fun j hpj => by
          rcases Nat.lt_or_ge j k with h | h
          · exact absurd ⟨j, h, hpj⟩ hj
          · exact h⟩
  exact key k k (Nat.le_refl _) hk
noncomputable def mu {α : Type} (f : α → Bool × α) (he : ∀ s, ∃ k, EndsIn f k s) (s : α) : Nat := Classical.choose (least (he s))
theorem mu_step {α : Type} (f : α → Bool × α) (he : ∀ s, ∃ k, EndsIn f k s) (s : α) (h : (f s).1 = false) : mu f he (f s).2 < mu f he s := by
  have h1 := Classical.choose_spec (least (he s))
  have h2 := Classical.choose_spec (least (he (f s).2))
  show Classical.choose (least (he (f s).2)) < Classical.choose (least (he s))
  generalize Classical.choose (least (he (f s).2)) = k2 at h2
  generalize Classical.choose (least (he s)) = k1 at h1
  cases k1 with
  | zero => exact absurd h1.1 (fun e => e)
  | succ n =>
    rcases h1.1 with e | e
    · rw [h] at e; cases e
    · have := h2.2 n e
      omega
/-- Where the cursor at p stands. -/
def curOf (w : World) (p : Nat) : St :=
  match w.heap[p]? with
  | some (Obj.cells c _ _) => (match c[1]?, c[2]? with
    | some (Value.int _ i), some (Value.int _ h) => (i.toNat, h)
    | _, _ => (0, 0))
  | _ => (0, 0)
theorem cur_of {w : World} {s : St} (H : In B w p a len cap zs s) : curOf w p = s := by
  have h := H.cur
  unfold Cur at h
  unfold curOf
  rw [h]
  obtain ⟨i, h⟩ := s
  simp
def RelRed (B p len cap : Nat) (a : Option Addr) (zs : List Int) (W wr : World) : Prop := ∃ s, In B wr p a len cap zs s ∧ W.grownBy wr (some p)
/-- Some small tree. -/
def TAny (B p : Nat) (a : Option Addr) (len cap : Nat) (zs : List Int) (w : World) (e : Ending) (w' : World) : Prop :=
  ∃ q s', TOut B p a len cap zs q s' w e w' ∧ Small 2300 q ∧ ∀ t ∈ q, Sh t

set_option maxHeartbeats 1600000 in
theorem some_ok {w : World} {s : St} (H : In B w p a len cap zs s) :
    Calls Tryz.prog 55 #[.pointer (some ⟨p, 0, none⟩)] w (TAny B p a len cap zs w) := by
  have HI := Lib.hid H
  have HP := H.lt
  clear H
  go_enter Tryz.func55, Tryz.ntmps55
  go_wp2
  go_loopw [3] (fun _ wr => RelRed B p len cap a zs w wr) (fun _ wr => mu (rdE 60 (someG (exactG zs))) (some_every zs) (curOf wr p))
  case atStart => exact ⟨s, HI.out, grown_refl⟩
  case round =>
    obtain ⟨s', hI, hG⟩ := hrel
    have HIr := Lib.hid hI
    have HGr := Lib.hid hG
    clear hI hG
    obtain ⟨K, hK⟩ : ∃ K, ((exactG zs).bl 4 s').1 = K := ⟨_, rfl⟩
    obtain ⟨u, hu⟩ : ∃ u, ((exactG zs).bl 4 s').2 = u := ⟨_, rfl⟩
    have hk := exact_lt zs 4 s' (by decide)
    rw [hK] at hk
    have HQ := Lib.hid (show someG (exactG zs) s' = exprG (exactG zs) (1 + K) u by unfold someG; rw [hK, hu])
    have HK := Lib.hid hK
    have HU := Lib.hid hu
    have hsm : Small 300 (exprG (exactG zs) (1 + K) u).1 := ((exprs_small zs (1 + K)).1 u).mono (by rcases (show K = 0 ∨ K = 1 ∨ K = 2 ∨ K = 3 by omega) with rfl | rfl | rfl | rfl <;> decide)
    have HSM := Lib.hid hsm
    have HZ : (exprG (exactG zs) (1 + K) u).1.length ≤ 300 := hsm.2.1
    have hE := expr_ok (1 + K) (by omega) B p len cap a zs
    rw [show (((1 + K : Nat)) : Int) = 1 + (K : Int) by omega] at hE
    have HE := Lib.hid hE
    clear hK hu hsm hE
    go_wp2_with fail
    refine (bl_ok 4 (by decide) HK.out HIr.out).mono ?_
    rintro e w1 ⟨rfl, I1, G1⟩
    rw [HU.out] at I1
    have G1' := Lib.hid (grown_trans HGr.out G1)
    clear G1
    go_wp2_with fail
    refine (HE.out _ _ I1).mono ?_
    rintro e w2 ⟨v, rfl, T2, I2, G2⟩
    obtain ⟨a2, c2, rfl⟩ := T2.form
    have HM := Lib.hid (show TOut B p a len cap zs (exprG (exactG zs) (1 + K) u).1 (exprG (exactG zs) (1 + K) u).2 w _ w2 from TOut.back G1'.out HP ⟨_, rfl, T2, I2, G2⟩)
    have HI2 := Lib.hid I2
    have HG2 := Lib.hid (grown_trans G1'.out G2)
    obtain ⟨n, hn⟩ : ∃ n, (exprG (exactG zs) (1 + K) u).1.length = n := ⟨_, rfl⟩
    have HN := Lib.hid hn
    rw [hn] at HM HZ ⊢
    clear T2 I2 G2 I1 hn
    by_cases hlt : n ≤ 60
    · have hi : (n : Int) ≤ 60 := by omega
      go_wp2
      go_ret
      exact ⟨_, _, HM.out, HSM.out.mono (by decide), expr_str zs _ _⟩
    · have hi : ¬ (n : Int) ≤ 60 := by omega
      go_wp2
      go_roundw
      case rel => exact ⟨_, HI2.out, HG2.out⟩
      case measure =>
        rw [cur_of HIr.out, cur_of HI2.out]
        have h := mu_step (rdE 60 (someG (exactG zs))) (some_every zs) s' (by
          show Nat.ble (someG (exactG zs) s').1.length 60 = false
          rw [HQ.out, HN.out]
          cases hb : Nat.ble n 60 with
          | false => rfl
          | true => exact absurd (Nat.le_of_ble_eq_true hb) hlt)
        have e2 : (rdE 60 (someG (exactG zs)) s').2 = (exprG (exactG zs) (1 + K) u).2 := by
          show (someG (exactG zs) s').2 = _
          rw [HQ.out]
        rw [e2] at h
        exact h
end
end Go.Proofs.YtphccenlflhfjaaGreatDoor.draw

namespace Go.Proofs.YtphccenlflhfjaaGreatDoor.draw
open Go.ChangeShapes Go.WideShapes Go.ChangeAt Go.RowKit
open nd lcg
open sz (Sh expr_str stmt_str prog_str)
set_option linter.unusedVariables false
set_option maxRecDepth 20000

section
variable {B p len cap : Nat} {a : Option Addr} {zs : List Int}
set_option maxHeartbeats 3200000 in
theorem prog_ok {w : World} {s : St} (H : In B w p a len cap zs s) :
    Calls Tryz.prog 57 #[.pointer (some ⟨p, 0, none⟩)] w (TAny B p a len cap zs w) := by
  have HI := Lib.hid H
  have HP := H.lt
  clear H
  go_enter Tryz.func57, Tryz.ntmps57
  go_wp2
  go_loopw [3, 4, 5] (fun _ _ _ wr => RelRed B p len cap a zs w wr) (fun _ _ _ wr => mu (rdE 220 (progG (exactG zs))) (prog_every zs) (curOf wr p))
  case atStart => exact ⟨s, HI.out, grown_refl⟩
  case round =>
    obtain ⟨wr0, rfl⟩ : ∃ wo : World, wo = wr := ⟨_, rfl⟩
    obtain ⟨s', hI, hG⟩ := hrel
    have HIr := Lib.hid hI
    have HGr := Lib.hid hG
    have HPr := hI.lt
    clear hI hG
    have hb := exact_lt zs 4 s' (by decide)
    obtain ⟨N, hN⟩ : ∃ N, ((exactG zs).bl 4 s').1 = N := ⟨_, rfl⟩
    obtain ⟨t, ht⟩ : ∃ t, ((exactG zs).bl 4 s').2 = t := ⟨_, rfl⟩
    rw [hN] at hb
    have HN := Lib.hid hN
    have HT := Lib.hid ht
    have HQ := Lib.hid (show progG (exactG zs) s' = (makeT (nodeO 45 0) (timesG (itemG (exactG zs)) N t).1, (timesG (itemG (exactG zs)) N t).2) by unfold progG; rw [hN, ht]; rfl)
    clear hN ht
    have L0 := Lib.hid (LS.start HIr.out (Nat.le_refl _) HPr)
    have HG0 := Lib.hid (grown_below (p := p) grown_refl ((Below.refl wr0.heap.size wr0).alloc (Nat.le_refl _) (.cells #[] 24)) rfl)
    go_wp2_with fail
    refine (bl_ok 4 (by decide) HN.out L0.out.cur).mono ?_
    rintro e w1 ⟨rfl, I1, G1⟩
    rw [HT.out] at I1
    have L1 := Lib.hid (L0.out.next I1 G1)
    have HG1 := Lib.hid (grown_trans HG0.out G1)
    clear I1 G1
    go_wp2
    go_loopw [3, 4] (fun v n wr => RelList B p len cap a zs wr0 (itemG (exactG zs)) N t v n wr) (fun _ n _ => (intOf n).toNat)
    case atStart => exact ⟨0, wr0.heap.size, 0, [], by omega, by simp, rfl, L1.out, HG1.out⟩
    case round =>
      obtain ⟨I, g, c, vs, hI, rfl, rfl, hls, hgr⟩ := hrel
      have hvl := hls.ln
      rw [times_len] at hvl
      subst hvl
      have HL := Lib.hid hls
      have HG := Lib.hid hgr
      clear hls hgr
      by_cases hlt : vs.length < N
      · have hi : (vs.length : Int) < (N : Int) := by omega
        have hi2 : 0 < (N : Int) - (vs.length : Int) := by omega
        go_wp2_with fail
        refine (item_ok HL.out.cur).mono ?_
        rintro e w2 ⟨u, rfl, T2, I2, G2⟩
        obtain ⟨au, cu, rfl⟩ := T2.form
        have L2 := Lib.hid (HL.out.next I2 G2)
        have HT2 := Lib.hid T2
        have HG2 := Lib.hid (grown_trans HG.out G2)
        clear T2 I2 G2
        go_wp2_with (refine wpList_append_tree _ _ rfl _ _ rfl wr0.heap.size (.slice (some ⟨g, 0, none⟩) vs.length c) vs rfl L2.out.own rfl rfl (by omega) L2.out.lw ?_; intro g3 c3 w3 own3 gr3 or3; have L3 := Lib.hid (L2.out.push HT2.out HL.out.g_lt.2 own3 gr3 (or3.imp (fun e => by simpa [Value.ownBlock] using e) id)); have HG3 := Lib.hid (L2.out.grown HG2.out (Nat.le_refl _) gr3))
        go_roundw
        case rel =>
          refine ⟨vs.length + 1, g3, c3, vs ++ [.slice au (itemG (exactG zs) (timesG (itemG (exactG zs)) vs.length t).2).1.length cu], by omega, by go_num, rfl, ?_⟩
          rw [times_snoc]
          exact ⟨L3.out, HG3.out⟩
        case measure => simp [intOf]; omega
      · obtain rfl : vs.length = N := by omega
        have hi2 : ¬ 0 < (vs.length : Int) - (vs.length : Int) := by omega
        have HZ : (makeT (nodeO 45 0) (timesG (itemG (exactG zs)) vs.length t).1).length ≤ 45004 := by
          have h := sm_list (k := 15001) (m := 3) (nodeO 45 0) ⟨(times_small (item_small (zs := zs)) vs.length t).1, Nat.le_trans (times_small (item_small (zs := zs)) vs.length t).2 (by omega)⟩ (by decide)
          exact h.2.1
        have HSM := Lib.hid (sm_list (k := 15001) (m := 3) (nodeO 45 0) ⟨(times_small (item_small (zs := zs)) vs.length t).1, Nat.le_trans (times_small (item_small (zs := zs)) vs.length t).2 (by omega)⟩ (by decide))
        go_wp2_with fail
        refine (good_partsN (n := nodeO 45 0) (by rw [times_len]) HL.out.parts (times_all (fun s => (item_small (zs := zs) s).good (by decide)) _ _) (by rw [times_len]; omega)).mono ?_
        rintro e w4 hmk
        have HM := Lib.hid (TOut.make HL.out.cur HPr HG.out (Below.refl _ _) hmk)
        clear hmk
        obtain ⟨vz, rfl, T4, I4, G4⟩ := HM.out
        obtain ⟨a4, c4, rfl⟩ := T4.form
        have HM2 := Lib.hid (TOut.back HGr.out HP HM.out)
        have HI4 := Lib.hid I4
        have HG4 := Lib.hid (grown_trans HGr.out G4)
        obtain ⟨n, hn⟩ : ∃ n, (makeT (nodeO 45 0) (timesG (itemG (exactG zs)) vs.length t).1).length = n := ⟨_, rfl⟩
        have HNN := Lib.hid hn
        rw [hn] at HM2 HZ ⊢
        clear T4 I4 G4 HM hn
        by_cases hle : n ≤ 220
        · have hi : (n : Int) ≤ 220 := by omega
          go_wp2
          go_ret
          exact ⟨_, _, HM2.out, ⟨HSM.out.1, by rw [HNN.out]; omega, HSM.out.2.2⟩, by have h := prog_str zs s'; rw [HQ.out] at h; exact h⟩
        · have hi : ¬ (n : Int) ≤ 220 := by omega
          go_wp2
          go_roundw
          case rel => exact ⟨_, HI4.out, HG4.out⟩
          case measure =>
            rw [cur_of HIr.out, cur_of HI4.out]
            have h := mu_step (rdE 220 (progG (exactG zs))) (prog_every zs) s' (by
              show Nat.ble (progG (exactG zs) s').1.length 220 = false
              rw [HQ.out, HNN.out]
              cases hb : Nat.ble n 220 with
              | false => rfl
              | true => exact absurd (Nat.le_of_ble_eq_true hb) hle)
            have e2 : (rdE 220 (progG (exactG zs)) s').2 = (timesG (itemG (exactG zs)) vs.length t).2 := by
              show (progG (exactG zs) s').2 = _
              rw [HQ.out]
            rw [e2] at h
            exact h
theorem any_ok {w : World} {s : St} (H : In B w p a len cap zs s) :
    Calls Tryz.prog 32 #[.pointer (some ⟨p, 0, none⟩)] w (TAny B p a len cap zs w) := by
  have HI := Lib.hid H
  have HP := H.lt
  clear H
  obtain ⟨K, hK⟩ : ∃ K, ((exactG zs).bl 5 s).1 = K := ⟨_, rfl⟩
  obtain ⟨t, ht⟩ : ∃ t, ((exactG zs).bl 5 s).2 = t := ⟨_, rfl⟩
  have hk := exact_lt zs 5 s (by decide)
  rw [hK] at hk
  have HK := Lib.hid hK
  have HT := Lib.hid ht
  clear hK ht
  have HS2 := Lib.hid (stmt_all B p len cap a zs 2 (by decide))
  go_enter Tryz.func32, Tryz.ntmps32
  go_wp2_with fail
  refine (bl_ok 5 (by decide) HK.out HI.out).mono ?_
  rintro e w1 ⟨rfl, I1, G1⟩
  rw [HT.out] at I1
  have HI1 := Lib.hid I1
  have HG1 := Lib.hid G1
  clear I1 G1
  have hs : ∀ (e : Ending) (w2 : World), TAny B p a len cap zs w1 e w2 → TAny B p a len cap zs w e w2 := by
    rintro e w2 ⟨q, s', h1, h2⟩
    exact ⟨q, s', TOut.back HG1.out HP h1, h2⟩
  have HSS := Lib.hid hs
  clear hs
  rcases (show K = 0 ∨ K = 1 ∨ K = 2 ∨ K = 3 ∨ K = 4 by omega) with rfl | rfl | rfl | rfl | rfl
  · go_wp2_with fail
    refine (some_ok HI1.out).mono ?_
    rintro e w2 hT
    have HM := Lib.hid (HSS.out _ _ hT)
    obtain ⟨q, s', ⟨v, rfl, T2, I2, G2⟩, _⟩ := hT
    obtain ⟨a2, c2, rfl⟩ := T2.form
    go_wp2
    go_ret
    exact HM.out
  · go_wp2_with fail
    refine (some_ok HI1.out).mono ?_
    rintro e w2 hT
    have HM := Lib.hid (HSS.out _ _ hT)
    obtain ⟨q, s', ⟨v, rfl, T2, I2, G2⟩, _⟩ := hT
    obtain ⟨a2, c2, rfl⟩ := T2.form
    go_wp2
    go_ret
    exact HM.out
  · go_wp2_with fail
    refine (HS2.out.1 _ _ HI1.out).mono ?_
    rintro e w2 hT
    have HM := Lib.hid (HSS.out _ _ ⟨_, _, hT, (HS2.out.2 _).mono (by decide), stmt_str zs 2 _⟩)
    obtain ⟨v, rfl, T2, I2, G2⟩ := hT
    obtain ⟨a2, c2, rfl⟩ := T2.form
    go_wp2
    go_ret
    exact HM.out
  · go_wp2_with fail
    refine (prog_ok HI1.out).mono ?_
    rintro e w2 hT
    have HM := Lib.hid (HSS.out _ _ hT)
    obtain ⟨q, s', ⟨v, rfl, T2, I2, G2⟩, _⟩ := hT
    obtain ⟨a2, c2, rfl⟩ := T2.form
    go_wp2
    go_ret
    exact HM.out
  · go_wp2_with fail
    refine (prog_ok HI1.out).mono ?_
    rintro e w2 hT
    have HM := Lib.hid (HSS.out _ _ hT)
    obtain ⟨q, s', ⟨v, rfl, T2, I2, G2⟩, _⟩ := hT
    obtain ⟨a2, c2, rfl⟩ := T2.form
    go_wp2
    go_ret
    exact HM.out
end
end Go.Proofs.YtphccenlflhfjaaGreatDoor.draw

namespace Go.Proofs.YtphccenlflhfjaaGreatDoor.draw
open Go.ChangeShapes Go.WideShapes Go.ChangeAt Go.RowKit
open nd lcg
open sz (Sh expr_str stmt_str prog_str)
set_option linter.unusedVariables false
set_option maxRecDepth 20000

theorem neF {x c : Int} (h : ¬ x = c) : (x == c) = false ∧ (x != c) = true := by simp [h]
theorem In.drew1 {B p len cap : Nat} {w : World} {a : Option Addr} {zs : List Int} {s : Nat × Int} (H : In B w p a len cap zs s) : In B w.drew p a len cap zs s :=
  ⟨H.code.keep ⟨rfl, rfl, rfl, Nat.le_refl _, fun _ _ => rfl⟩, H.cur, H.le, H.used, H.small⟩
/-- Nodes that lie beside the cursor's block. -/
def IntsX (p B : Nat) (w : World) (a : Option Addr) (l : List Int) : Prop :=
  l = [] ∨ ∃ b o, a = some ⟨b, o, none⟩ ∧ b < B ∧ b ≠ p ∧ ∀ i (h : i < l.length), w.cell? ⟨b, o + i, none⟩ = some (.int .i64 l[i])
def LiesX (p B : Nat) (w : World) (a : Option Addr) (l : List Nd) : Prop :=
  l = [] ∨ ∃ b o, a = some ⟨b, o, none⟩ ∧ b < B ∧ b ≠ p ∧ ∀ i (h : i < l.length), ∃ ak ck, Five w b (o + i * 5) l[i] ak ck ∧ IntsX p B w ak l[i].kids
theorem IBlk.intsX {p : Nat} {w : World} {g n : Nat} {l : List Int} (h : IBlk w g n l) (hp : g ≠ p) : IntsX p w.heap.size w (some ⟨g, 0, none⟩) l :=
  .inr ⟨g, 0, rfl, h.lt, hp, fun i hi => by rw [Nat.zero_add]; exact h.at i hi⟩
theorem OwnI.intsX {p B : Nat} {a : Option Addr} {n cap : Nat} {l : List Int} {w : World} (h : OwnI B (.slice a n cap) l w) (hp : (Value.slice a n cap).ownBlock ≠ some p) : IntsX p w.heap.size w a l := by
  rcases h.blk with ⟨_, h1⟩ | ⟨g, c, hv, _, h1⟩
  · exact .inl h1
  · injection hv with hv _ _
    subst hv
    exact IBlk.intsX h1 (fun e => hp (by rw [e]; rfl))
theorem IntsX.grown {p : Nat} {w w' : World} {a : Option Addr} {l : List Int} (h : IntsX p w.heap.size w a l) (hg : w.grownBy w' (some p)) : IntsX p w'.heap.size w' a l := by
  rcases h with h | ⟨b, o, rfl, h1, h2, h3⟩
  · exact .inl h
  · exact .inr ⟨b, o, rfl, Nat.lt_of_lt_of_le h1 hg.size, h2, fun i hi => World.grownBy.cell hg (h3 i hi) (fun e => h2 (by injection e))⟩
theorem LiesX.grown {p : Nat} {w w' : World} {a : Option Addr} {l : List Nd} (h : LiesX p w.heap.size w a l) (hg : w.grownBy w' (some p)) : LiesX p w'.heap.size w' a l := by
  rcases h with h | ⟨b, o, rfl, h1, h2, h3⟩
  · exact .inl h
  · refine .inr ⟨b, o, rfl, Nat.lt_of_lt_of_le h1 hg.size, h2, fun i hi => ?_⟩
    obtain ⟨ak, ck, ⟨c0, c1, c2, c3, c4⟩, h4⟩ := h3 i hi
    have hne : ∀ j, some (⟨b, j, none⟩ : Addr).block ≠ some p := fun j e => h2 (by injection e)
    exact ⟨ak, ck, ⟨World.grownBy.cell hg c0 (hne _), World.grownBy.cell hg c1 (hne _), World.grownBy.cell hg c2 (hne _), World.grownBy.cell hg c3 (hne _), World.grownBy.cell hg c4 (hne _)⟩, h4.grown hg⟩
theorem LiesX.lies {p B : Nat} {w : World} {a : Option Addr} {l : List Nd} (h : LiesX p B w a l) : Lies B w a l := by
  rcases h with h | ⟨b, o, rfl, h1, h2, h3⟩
  · exact .inl h
  · refine .inr ⟨b, o, rfl, h1, fun i hi => ?_⟩
    obtain ⟨ak, ck, h5, h4⟩ := h3 i hi
    exact ⟨ak, ck, h5, h4.imp id (fun ⟨b, o, e, h1, _, h3⟩ => ⟨b, o, e, h1, h3⟩)⟩
theorem LiesX.take {p B : Nat} {w : World} {a : Option Addr} {l : List Nd} (h : LiesX p B w a l) (k : Nat) : LiesX p B w a (l.take k) := by
  rcases h with h | ⟨b, o, rfl, h1, h2, h3⟩
  · exact .inl (by rw [h]; simp)
  · refine .inr ⟨b, o, rfl, h1, h2, fun i hi => ?_⟩
    rw [List.getElem_take]
    exact h3 i _
/-- Some nodes, not many. -/
def Wild (q : List Nd) : Prop := q.length ≤ 4600 ∧ (∀ t ∈ q, t.kids.length ≤ 1001) ∧ ∀ t ∈ q, Sh t
def BOut (B p : Nat) (a : Option Addr) (len cap : Nat) (zs : List Int) (w : World) (e : Ending) (w' : World) : Prop :=
  ∃ q a2 c2 s', e = .returned (.slice a2 q.length c2) ∧ LiesX p w'.heap.size w' a2 q ∧ q.length ≤ c2 ∧ Wild q ∧ In B w' p a len cap zs s' ∧ w.grownBy w' (some p)
/-- A drawn tree as a block. -/
theorem TR.row {p S : Nat} {v : Value} {q : List Nd} {w : World} (h : TR p S v q w) (h0 : 0 < q.length) : ∃ g c z r, v = .slice (some ⟨g, 0, none⟩) q.length c ∧ q.length ≤ c ∧ S ≤ g ∧ g < w.heap.size ∧ p < S ∧ z.map (·.1) = q ∧ z.length = q.length ∧ PT S (.slice (some ⟨g, 0, none⟩) q.length c) z r w ∧ ∀ i (h : i < z.length), z[i].2 ≠ .slice none 0 0 → r i ≠ p ∧ S ≤ r i := by
  obtain ⟨h1, z, r, hz, hp, hr⟩ := h
  have hl : z.length = q.length := by rw [← hz, List.length_map]
  rcases hp.own.2 with ⟨_, hn⟩ | ⟨g, c, cur, rfl, hg, hblk, hlc, _⟩
  · omega
  · refine ⟨g, c, z, r, by rw [hl], by omega, hg, lt_of_heap hblk, h1, hz, hl, by rw [← hl]; exact hp, fun i hi hne => ⟨hr i hi hne, ?_⟩⟩
    rcases hp.kid i hi with hk | ⟨_, _, _, e3, _⟩
    · exact absurd hk.1 hne
    · exact e3
/-- The cells of node i. -/
theorem pt_five {S g n c : Nat} {z : List (Nd × Value)} {r : Nat → Nat} {w : World} (h : PT S (.slice (some ⟨g, 0, none⟩) n c) z r w) {i : Nat} (hi : i < z.length) :
    w.cell? ⟨g, i * 5, none⟩ = some (.int .i64 z[i].1.k) ∧ w.cell? ⟨g, i * 5 + 1, none⟩ = some (.int .i64 z[i].1.op) ∧ w.cell? ⟨g, i * 5 + 2, none⟩ = some (.string z[i].1.s) ∧ w.cell? ⟨g, i * 5 + 3, none⟩ = some (.string z[i].1.t) ∧ w.cell? ⟨g, i * 5 + 4, none⟩ = some z[i].2 := by
  obtain ⟨a, c2, e⟩ := h.form
  injection e with e1 e2 e3
  subst e2 e3
  have hc := fun j hj => World.ownsRow.cellAt h.own j hj
  obtain ⟨x0, x1, x2, x3, x4⟩ := fl_get z i hi
  exact ⟨(hc _ (by omega)).trans x0, (hc _ (by omega)).trans x1, (hc _ (by omega)).trans x2, (hc _ (by omega)).trans x3, (hc _ (by omega)).trans x4⟩
/-- One node's kids are others now. -/
theorem bent_lies {p S g n c k : Nat} {z : List (Nd × Value)} {r : Nat → Nat} {w w5 : World} (h : PT S (.slice (some ⟨g, 0, none⟩) n c) z r w) (hk : k < z.length) (hg : g < w5.heap.size) (hgp : g ≠ p) (m : List Int) (a' : Option Addr) (c' : Nat)
    (h1 : ∀ j v, j ≠ k * 5 + 4 → w.cell? ⟨g, j, none⟩ = some v → w5.cell? ⟨g, j, none⟩ = some v) (h2 : w5.cell? ⟨g, k * 5 + 4, none⟩ = some (.slice a' m.length c')) (h3 : IntsX p w5.heap.size w5 a' m)
    (h4 : ∀ i (hi : i < z.length), i ≠ k → z[i].2 ≠ .slice none 0 0 → w5.heap[r i]? = w.heap[r i]? ∧ r i ≠ p) : LiesX p w5.heap.size w5 (some ⟨g, 0, none⟩) ((z.map (·.1)).set k { z[k].1 with kids := m }) := by
  refine .inr ⟨g, 0, rfl, hg, hgp, fun i hi => ?_⟩
  simp only [List.length_set, List.length_map] at hi
  obtain ⟨f0, f1, f2, f3, f4⟩ := pt_five h hi
  rw [Nat.zero_add]
  by_cases he : k = i
  · subst he
    simp only [List.getElem_set_self]
    exact ⟨a', c', ⟨h1 _ _ (by omega) f0, h1 _ _ (by omega) f1, h1 _ _ (by omega) f2, h1 _ _ (by omega) f3, h2⟩, h3⟩
  · simp only [List.getElem_set_ne he, List.getElem_map]
    rcases h.kid i hi with ⟨e1, e2⟩ | ⟨cap, e1, e2, e3⟩
    · exact ⟨none, 0, ⟨h1 _ _ (by omega) f0, h1 _ _ (by omega) f1, h1 _ _ (by omega) f2, h1 _ _ (by omega) f3, by rw [h1 _ _ (by omega) f4, e1, e2]; rfl⟩, .inl e2⟩
    · have e4 := h4 i hi (fun e => he e.symm) (by rw [e1]; simp)
      exact ⟨_, cap, ⟨h1 _ _ (by omega) f0, h1 _ _ (by omega) f1, h1 _ _ (by omega) f2, h1 _ _ (by omega) f3, by rw [h1 _ _ (by omega) f4, e1]⟩, IBlk.intsX (e2.of_block e4.1) e4.2⟩
/-- None of them changed. -/
theorem pt_lies {p S g n c : Nat} {z : List (Nd × Value)} {r : Nat → Nat} {w : World} (h : PT S (.slice (some ⟨g, 0, none⟩) n c) z r w) (hg : g < w.heap.size) (hgp : g ≠ p)
    (h4 : ∀ i (hi : i < z.length), z[i].2 ≠ .slice none 0 0 → r i ≠ p) : LiesX p w.heap.size w (some ⟨g, 0, none⟩) (z.map (·.1)) := by
  refine .inr ⟨g, 0, rfl, hg, hgp, fun i hi => ?_⟩
  simp only [List.length_map] at hi
  obtain ⟨f0, f1, f2, f3, f4⟩ := pt_five h hi
  rw [Nat.zero_add]
  simp only [List.getElem_map]
  rcases h.kid i hi with ⟨e1, e2⟩ | ⟨cap, e1, e2, e3⟩
  · exact ⟨none, 0, ⟨f0, f1, f2, f3, by rw [f4, e1, e2]; rfl⟩, .inl e2⟩
  · exact ⟨_, cap, ⟨f0, f1, f2, f3, by rw [f4, e1]⟩, IBlk.intsX e2 (h4 i hi (by rw [e1]; simp))⟩
/-- The same nodes once more behind themselves. -/
theorem twice_lies {p S g n c g2 c2 : Nat} {z : List (Nd × Value)} {r : Nat → Nat} {w w5 : World} (h : PT S (.slice (some ⟨g, 0, none⟩) n c) z r w) (ho : w5.ownsRow S 30 5 (.slice (some ⟨g2, 0, none⟩) (z.length + z.length) c2) (z.length + z.length) (fl z ++ fl z))
    (hgp : g2 ≠ p) (h4 : ∀ i (hi : i < z.length), z[i].2 ≠ .slice none 0 0 → w5.heap[r i]? = w.heap[r i]? ∧ r i ≠ p) : LiesX p w5.heap.size w5 (some ⟨g2, 0, none⟩) (z.map (·.1) ++ z.map (·.1)) := by
  rw [← fl_append] at ho
  refine .inr ⟨g2, 0, rfl, (World.ownsRow.lt ho g2 rfl).2, hgp, fun i hi => ?_⟩
  simp only [List.length_append, List.length_map] at hi
  have hi2 : i < (z ++ z).length := by simpa using hi
  have hc := fun j hj => World.ownsRow.cellAt ho j hj
  obtain ⟨x0, x1, x2, x3, x4⟩ := fl_get (z ++ z) i hi2
  obtain ⟨j, hj, e⟩ : ∃ j, ∃ hj : j < z.length, (z ++ z)[i] = z[j] := by
    by_cases he : i < z.length
    · exact ⟨i, he, List.getElem_append_left he⟩
    · exact ⟨i - z.length, by omega, List.getElem_append_right (by omega)⟩
  have e2 : (z.map (·.1) ++ z.map (·.1))[i]'(by simpa using hi) = z[j].1 := by
    have : (z.map (·.1) ++ z.map (·.1))[i]'(by simpa using hi) = ((z ++ z).map (·.1))[i]'(by simpa using hi) := by simp only [List.map_append]
    rw [this, List.getElem_map, e]
  rw [e2, Nat.zero_add]
  rw [e] at x0 x1 x2 x3 x4
  have c0 := (hc _ (by omega)).trans x0
  have c1 := (hc _ (by omega)).trans x1
  have c2' := (hc _ (by omega)).trans x2
  have c3 := (hc _ (by omega)).trans x3
  have c4 := (hc _ (by omega)).trans x4
  rcases h.kid j hj with ⟨e1, e2⟩ | ⟨cap, e1, e5, e3⟩
  · exact ⟨none, 0, ⟨c0, c1, c2', c3, by rw [c4, e1, e2]; rfl⟩, .inl e2⟩
  · have e6 := h4 j hj (by rw [e1]; simp)
    exact ⟨_, cap, ⟨c0, c1, c2', c3, by rw [c4, e1]⟩, IBlk.intsX (e5.of_block e6.1) e6.2⟩
/-- 'append(l, v)' as a step of a region that draws its order: where the new row lies. -/
theorem step_append_int2 {ops : Array Oper} {o : Oper} {a : Act} {w : World} {K : Act → World → Prop} {Q : Exit → Act → World → Prop} {E : Prop} (hgd : o.guard = none) (s x : Operand)
    (ho : o.op = .call { callee := .builtin .append, args := #[s, x], argTypes := #[28, 28] }) (B : Nat) (v : Value) (d : List Int) (z : Int) (hs : a.eval s = v)
    (hown : OwnI B v d w) (gz : Nat) (hx : a.eval x = .slice (some ⟨gz, 0, none⟩) 1 1) (hz : w.heap[gz]? = some (.cells #[.int .i64 z] 3 (0, 0))) (hn : d.length ≤ 1048576) (hB : B ≤ w.heap.size)
    (h : ∀ g cap w', OwnI B (.slice (some ⟨g, 0, none⟩) (d.length + 1) cap) (d ++ [z]) w' → w.grownBy w' v.ownBlock → (v.ownBlock = some g ∨ w.heap.size ≤ g) → K (a.put o.dst (.slice (some ⟨g, 0, none⟩) (d.length + 1) cap)) w') :
    if Region.wanted o (yielded ops a.tmps) = true then Oper.wp Tryz.prog o a w K Q else E := by
  obtain ⟨i0, hi, hz0, hz1, hz2⟩ := info_parts Tryz.infoInt
  refine step_append_lies w hgd s x 28 ho B 3 i0 _ 1 8 Tryz.underlying28 hi hz0 hz1 hz2 rfl (by decide) v d.length (ivals d) hs hown ⟨gz, 0, none⟩ 1 1 [.int .i64 z] hx rfl ?_ ?_ (by decide) (by unfold maxLen; omega) (by omega) hB _ rfl ?_
  · intro j u hj
    rw [show ((⟨gz, 0, none⟩ : Addr).add j) = ⟨gz, j, none⟩ by unfold Addr.add; split <;> simp_all]
    rw [cell_of_row _ gz j _ _ _ hz]
    simpa using hj
  · intro u hu
    simp at hu
    rcases hu with rfl <;> rfl
  · intro g cap w' hown' hg hor _
    refine h g cap w' ?_ hg (hor.imp id (fun e => by omega))
    unfold OwnI
    rw [ivals_snoc, List.length_append]
    exact hown'
section
variable {B p len cap : Nat} {a : Option Addr} {zs : List Int}
theorem wild_of {q : List Nd} (h : Small 2300 q) (hs : ∀ t ∈ q, Sh t) : Wild q := ⟨by have := h.2.1; omega, fun t ht => by have := h.2.2 t ht; omega, hs⟩
theorem wild_set {q : List Nd} (h : Small 2300 q) (hs : ∀ t ∈ q, Sh t) {k : Nat} (t : Nd) (ht : t.kids.length ≤ 1001) (hst : Sh t) : Wild (q.set k t) := by
  refine ⟨by rw [List.length_set]; have := h.2.1; omega, fun u hu => ?_, fun u hu => ?_⟩
  · rcases List.mem_or_eq_of_mem_set hu with hu | rfl
    · have := h.2.2 u hu; omega
    · exact ht
  · rcases List.mem_or_eq_of_mem_set hu with hu | rfl
    · exact hs u hu
    · exact hst
theorem pick4 {w : World} {s : St} (k : Int) (H : In B w p a len cap zs s) :
    Calls Tryz.prog 34 #[.pointer (some ⟨p, 0, none⟩), .slice (some ⟨w.heap.size, 0, none⟩) 4 4] (w.alloc (.cells #[.int .i64 (-1), .int .i64 k, .int .i64 0, .int .i64 99] 3)) (fun e w' => ∃ x s', e = .returned (.int .i64 x) ∧ In B w' p a len cap zs s' ∧ w.grownBy w' (some p)) := by
  refine (pickInt_lit 4 [-1, k, 0, 99] H rfl (by decide) (by decide)).mono ?_
  rintro e w' ⟨⟨rfl, hI, hG⟩, _⟩
  exact ⟨_, _, rfl, hI, hG⟩
theorem below1 {w : World} {s : St} (k : Nat) (H : In B w p a len cap zs s) :
    Calls Tryz.prog 33 #[.pointer (some ⟨p, 0, none⟩), .int .i64 ((k : Int) + 1)] w (fun e w' => ∃ (x : Nat) (s' : St), x ≤ k ∧ e = .returned (.int .i64 (x : Int)) ∧ In B w' p a len cap zs s' ∧ w.grownBy w' (some p)) := by
  have hb := exact_lt zs (k + 1) s (by omega)
  have h := bl_ok (K := ((exactG zs).bl (k + 1) s).1) (k + 1) (by omega) rfl H
  rw [show (((k + 1 : Nat)) : Int) = (k : Int) + 1 by omega] at h
  refine h.mono ?_
  rintro e w' ⟨rfl, hI, hG⟩
  exact ⟨_, _, by omega, rfl, hI, hG⟩
theorem grown_drew {w w1 : World} (h : w.grownBy w1 (some p)) : w.grownBy w1.drew (some p) := ⟨h.os, h.tape, h.output, h.size, h.block⟩

set_option maxHeartbeats 3200000 in
theorem bent_ok {w : World} {s : St} (H : In B w p a len cap zs s) :
    Calls Tryz.prog 36 #[.pointer (some ⟨p, 0, none⟩)] w (BOut B p a len cap zs w) := by
  have HI := Lib.hid H
  have HP := H.lt
  clear H
  go_enter Tryz.func36, Tryz.ntmps36
  go_wp2_with fail
  refine (any_ok HI.out).mono ?_
  rintro e w1 ⟨q, s1, ⟨v, rfl, T1, I1, G1⟩, hsm, hsh⟩
  obtain ⟨g, c, z, r, rfl, hcq, hSg, hgw, hpS, hz, hzl, hpt, hr⟩ := T1.row hsm.1
  have hq0 := hsm.1
  have hq1 := hsm.2.1
  have HSM := Lib.hid hsm
  have HSH := Lib.hid hsh
  have HG1 := Lib.hid G1
  have HI1 := Lib.hid I1
  obtain ⟨n, hn⟩ : ∃ n, q.length = n := ⟨_, rfl⟩
  have HZ := Lib.hid hz
  have HN := Lib.hid hn
  have HPT1 := Lib.hid hpt
  have HR := Lib.hid hr
  rw [hn] at hcq hzl HPT1 hq0 hq1 ⊢
  obtain ⟨k, hk⟩ : ∃ k, ((exactG zs).bl n s1).1 = k := ⟨_, rfl⟩
  have hkn := exact_lt zs n s1 (by omega)
  rw [hk] at hkn
  have HK := Lib.hid hk
  clear T1 I1 G1 hsm hsh hz hn hpt hr hk
  go_wp2_with fail
  refine (bl_ok n (by omega) HK.out HI1.out).mono ?_
  rintro e w2 ⟨rfl, I2, G2⟩
  obtain ⟨s2, hs2⟩ : ∃ s2, ((exactG zs).bl n s1).2 = s2 := ⟨_, rfl⟩
  rw [hs2] at I2
  obtain ⟨K, hK⟩ : ∃ K, ((exactG zs).bl 12 s2).1 = K := ⟨_, rfl⟩
  have hK12 := exact_lt zs 12 s2 (by decide)
  rw [hK] at hK12
  have HKK := Lib.hid hK
  have HI2 := Lib.hid I2
  have HG2 := Lib.hid G2
  clear I2 G2 hs2 hK
  go_wp2_with fail
  refine (bl_ok 12 (by decide) HKK.out HI2.out).mono ?_
  rintro e w3 ⟨rfl, I3, G3⟩
  obtain ⟨s3, hs3⟩ : ∃ s3, ((exactG zs).bl 12 s2).2 = s3 := ⟨_, rfl⟩
  rw [hs3] at I3
  have HI3 := Lib.hid I3
  have HG13 := Lib.hid (grown_trans HG2.out G3)
  have HG3 := Lib.hid (grown_trans HG1.out HG13.out)
  have hgp : g ≠ p := by omega
  have HPT := Lib.hid (pt_kept2 HPT1.out HG13.out (by simp only [Value.ownBlock]; intro e; injection e with e; exact hgp e) (fun i hi hne => (HR.out i hi hne).1))
  have hg3 : g < w3.heap.size := Nat.lt_of_lt_of_le hgw HG13.out.size
  clear I3 G3 hs3
  have HSZ := Lib.hid HG3.out.size
  have HLI := Lib.hid (show LiesX p w3.heap.size w3 (some ⟨g, 0, none⟩) q by rw [← HZ.out]; exact pt_lies HPT.out hg3 hgp (fun i hi hne => (HR.out i hi hne).1))
  obtain ⟨cur, hcur⟩ : ∃ cur, w3.heap[g]? = some (.cells cur 30 (0, 0)) := by
    rcases HPT.out.own.2 with ⟨h, _⟩ | ⟨g', cap', cur, h, _, hb, _⟩
    · cases h
    · injection h with h _ _
      injection h with h
      injection h with h _ _
      exact ⟨cur, by rw [h]; exact hb⟩
  have HCUR := Lib.hid hcur
  have hkz : k < z.length := by omega
  obtain ⟨f0, f1, f2, f3, f4⟩ := pt_five HPT.out hkz
  obtain ⟨ak, ck, hvk, _⟩ := (HPT.out.kid k hkz).form
  have hqk : z[k].1 ∈ q := by rw [← HZ.out]; exact List.mem_map.2 ⟨_, List.getElem_mem hkz, rfl⟩
  have hkl : z[k].1.kids.length ≤ 1000 := HSM.out.2.2 _ hqk
  have HSK := Lib.hid (HSH.out _ hqk)
  have HKID := Lib.hid (HPT.out.kid k hkz)
  have HOFF := Lib.hid (HPT.out.off k hkz)
  have HKR := Lib.hid (HR.out k hkz)
  obtain ⟨t, ht⟩ : ∃ t, t = z[k].1 := ⟨_, rfl⟩
  rw [← ht] at hvk hkl HKID
  rw [hvk] at f4 HKID HKR
  have HT := Lib.hid ht
  have hk0 : (0 : Int) ≤ (k : Int) := by omega
  have hk1 : (k : Int) < (n : Int) := by omega
  clear f0 f1 f2 f3 hcur hqk ht
  rcases (show K = 0 ∨ K = 1 ∨ K = 2 ∨ K = 3 ∨ 4 ≤ K by omega) with rfl | rfl | rfl | rfl | hK4
  · go_wp2
    go_ret
    refine ⟨q.take k, some ⟨g, 0, none⟩, c, s3, by rw [List.length_take, HN.out, Nat.min_eq_left (by omega)]; rfl, ?_, by rw [List.length_take]; omega, ⟨by rw [List.length_take]; omega, fun t ht => by have := HSM.out.2.2 t (List.mem_of_mem_take ht); omega, fun t ht => HSH.out t (List.mem_of_mem_take ht)⟩, HI3.out, HG3.out⟩
    exact HLI.out.take k
  · have HOWN := Lib.hid (show OwnI w.heap.size (.slice ak t.kids.length ck) t.kids w3.drew from HKID.out.own)
    have hob : (Value.slice ak t.kids.length ck).ownBlock = none ∨ ((Value.slice ak t.kids.length ck).ownBlock = some (r k) ∧ r k ≠ p ∧ r k ≠ g ∧ w.heap.size ≤ r k) := by
      rcases HKID.out with ⟨e, _⟩ | ⟨cap, e, _, h3, _⟩
      · left; rw [e]; rfl
      · right
        refine ⟨by rw [e]; rfl, (HKR.out (by rw [e]; simp)).1, fun e2 => HOFF.out (by rw [e2]; rfl), h3⟩
    have hop : (Value.slice ak t.kids.length ck).ownBlock ≠ some p := by
      rcases hob with e | ⟨e, h1, _⟩
      · rw [e]; simp
      · rw [e]; intro e2; injection e2 with e2; exact h1 e2
    have hog : (Value.slice ak t.kids.length ck).ownBlock ≠ some g := by
      rcases hob with e | ⟨e, _, h1, _⟩
      · rw [e]; simp
      · rw [e]; intro e2; injection e2 with e2; exact h1 e2
    have HPC := Lib.hid (pick4 (k : Int) HI3.out.drew1)
    have f4d : w3.drew.cell? ⟨g, k * 5 + 4, none⟩ = some (.slice ak t.kids.length ck) := f4
    have f4a : ∀ z, (w3.drew.alloc z).cell? ⟨g, k * 5 + 4, none⟩ = some (.slice ak t.kids.length ck) := fun z => cell_past z f4d
    have HOB := Lib.hid hob
    have HOP := Lib.hid hop
    have HOG := Lib.hid hog
    clear hob hop hog
    go_wp2
    go_region_law (first
      | (refine step_append_int2 (by rfl) _ _ (by rfl) w.heap.size _ t.kids x (by rfl) (OWN4.out.alloc _) w4.heap.size (by rfl) (by exact heap_alloc_new w4 _) (by omega) (by simp; exact Nat.le_succ_of_le SZ4.out) ?_
         intro g2 c2 w6 own6 gr6 or6
         have HC6 : w6.heap[g]? = some (.cells cur 30 (0, 0)) := (gr6.block g (by simp; exact Nat.lt_succ_of_lt (lt_of_heap HC4.out)) (fun e => HOG.out e.symm)).trans ((Below.heap_alloc w4 _ g (lt_of_heap HC4.out)).trans HC4.out)
         have Y4 : w6.cell? ⟨g, k * 5 + 4, none⟩ = some (.slice ak t.kids.length ck) := (World.cell?_of_block (a := ⟨g, k * 5 + 4, none⟩) (HC6.trans HCUR.out.symm)).trans f4
         have Y5 : w6.frozen? ⟨g, k * 5 + 4, none⟩ = false := frozen_of_row _ _ _ _ _ HC6)
      | (go_simp
         go_at_call 34
         refine HPC.out.mono ?_
         rintro e w4 ⟨x, s4, rfl, I4, G4⟩
         have HC4 := Lib.hid ((G4.block g hg3 (fun e => hgp (by injection e))).trans HCUR.out)
         have OWN4 := Lib.hid (OwnI.kept HOWN.out G4 HOP.out)
         have SZ4 := Lib.hid (Nat.le_trans HSZ.out G4.size)
         have HI4 := Lib.hid I4
         have HG4 := Lib.hid G4
         have X4 : w4.cell? ⟨g, k * 5 + 4, none⟩ = some (.slice ak t.kids.length ck) := (World.cell?_of_block (a := ⟨g, k * 5 + 4, none⟩) (HC4.out.trans HCUR.out.symm)).trans f4
         have X5 : ∀ z, (w4.alloc z).cell? ⟨g, k * 5 + 4, none⟩ = some (.slice ak t.kids.length ck) := fun z => cell_past z X4
         clear I4 G4))
    all_goals
      go_wp2
      go_ret
      have hgs : g < (w4.alloc (.cells #[.int .i64 x] 3)).heap.size := by simp; exact Nat.lt_succ_of_lt (lt_of_heap HC4.out)
      have hbl : Below w.heap.size w4 (w6.setCell ⟨g, k * 5 + 4, none⟩ (.slice (some ⟨g2, 0, none⟩) (t.kids.length + 1) c2)) :=
        ((((Below.refl w.heap.size w4).alloc SZ4.out _).grown gr6 (by simp; exact Nat.le_succ_of_le SZ4.out) (fun b hb => (World.ownsRow.lt OWN4.out b hb).1))).setCell (p := ⟨g, k * 5 + 4, none⟩) hSg _
      have hg2 : g2 ≠ g := by
        rcases or6 with e | e
        · intro e2; exact HOG.out (by rw [e, e2])
        · omega
      have own7 := OwnI.kept own6 (grown_one w6 g (k * 5 + 4) (.slice (some ⟨g2, 0, none⟩) (t.kids.length + 1) c2)) (by simp only [Value.ownBlock]; intro e; injection e with e; exact hg2 e)
      refine ⟨(z.map (·.1)).set k { z[k].1 with kids := t.kids ++ [x] }, some ⟨g, 0, none⟩, c, s4, by rw [List.length_set, List.length_map, hzl]; rfl, ?_, by rw [List.length_set, List.length_map, hzl]; exact hcq, by rw [HZ.out]; exact wild_set HSM.out HSH.out _ (by simp; omega) HSK.out, HI4.out.keep hbl hpS, grown_below (grown_trans (grown_drew HG3.out) HG4.out) hbl rfl⟩
      refine bent_lies HPT.out hkz (by simp; exact lt_of_heap HC6) hgp _ (some ⟨g2, 0, none⟩) c2 (fun j v hj hv => ?_) ?_ (OwnI.intsX own7 (by
        simp only [Value.ownBlock]
        intro e
        injection e with e
        rcases or6 with e2 | e2
        · exact HOP.out (by rw [e2, e])
        · have := HI4.out.lt; simp at e2; omega)) (fun i hi hik hne => ?_)
      · rw [World.cell?_setCell_other _ _ _ _ (by intro e; simp only [Addr.mk.injEq] at e; exact hj e.2.1.symm)]
        exact (World.cell?_of_block (a := ⟨g, j, none⟩) (HC6.trans HCUR.out.symm)).trans hv
      · rw [World.cell?_setCell_same _ _ _ Y4, List.length_append]
        rfl
      · have hir : g ≠ r i := fun e => HPT.out.off i hi (by rw [← e]; rfl)
        have hri := HPT.out.lt i hi
        have hrp := (HR.out i hi hne).1
        have h1 : w4.heap[r i]? = w3.heap[r i]? := HG4.out.block (r i) hri (fun e => hrp (by injection e))
        have h0 : r i < w4.heap.size := Nat.lt_of_lt_of_le hri HG4.out.size
        have h2 : w6.heap[r i]? = w3.heap[r i]? := (gr6.block (r i) (by simp; omega) (fun e => by
          rcases HOB.out with e2 | ⟨e2, _⟩
          · rw [e2] at e; cases e
          · rw [e2] at e
            injection e with e
            rcases Nat.lt_or_ge i k with hlt | hge
            · exact HPT.out.asc i k hlt hkz e
            · exact HPT.out.asc k i (by omega) hi e.symm)).trans ((Below.heap_alloc w4 _ _ h0).trans h1)
        exact ⟨((grown_one w6 g (k * 5 + 4) _).block (r i) (by have := gr6.size; simp at this; omega) (fun e => hir (by injection e with e; exact e.symm))).trans h2, hrp⟩
  · by_cases hke : t.kids.length = 0
    · have hkn0 : ¬ (0 : Int) < (t.kids.length : Int) := by omega
      go_wp2
      go_ret
      exact ⟨q, some ⟨g, 0, none⟩, c, s3, by rw [HN.out]; rfl, HLI.out, by rw [HN.out]; exact hcq, wild_of HSM.out HSH.out, HI3.out, HG3.out⟩
    · have hkn0 : (0 : Int) < (t.kids.length : Int) := by omega
      obtain ⟨cap, hak, hib, hrS, _⟩ : ∃ cap, (Value.slice ak t.kids.length ck) = .slice (some ⟨r k, 0, none⟩) t.kids.length cap ∧ IBlk w3 (r k) cap t.kids ∧ w.heap.size ≤ r k ∧ cap ≤ maxLen := by
        rcases HKID.out with ⟨e, _⟩ | h
        · injection e with _ e _; omega
        · exact h
      injection hak with hak _ hck
      subst hak hck
      have hrp : r k ≠ p := by omega
      have hrg : g ≠ r k := fun e => HOFF.out (by rw [← e]; rfl)
      have HBL := Lib.hid (by
        have h := below1 k HI3.out.drew1
        rw [← show IntKind.i64.wrap ((k : Int) + 1) = (k : Int) + 1 by rw [IntKind.wrap_i64]; omega] at h
        exact h)
      have HIB := Lib.hid hib
      have f4d : w3.drew.cell? ⟨g, k * 5 + 4, none⟩ = some (.slice (some ⟨r k, 0, none⟩) t.kids.length ck) := f4
      obtain ⟨y0, hy0⟩ : ∃ y0, w3.cell? ⟨r k, 0, none⟩ = some (.int .i64 y0) := ⟨_, hib.at 0 (by omega)⟩
      have hlt0 := hib.lt
      have HFR := Lib.hid (hib.frozen 0)
      clear hib
      go_wp2
      go_region_law (first
        | (go_simp
           go_at_call 33
           refine HBL.out.mono ?_
           rintro e w4 ⟨x, s4, hx, rfl, I4, G4⟩
           have HB4 := Lib.hid (HIB.out.of_block (G4.block (r k) hlt0 (fun e => hrp (by injection e))))
           have HC4 := Lib.hid ((G4.block g hg3 (fun e => hgp (by injection e))).trans HCUR.out)
           have HI4 := Lib.hid I4
           have HG4 := Lib.hid G4
           have Y0 := HB4.out.at 0 (by omega)
           have Y1 := HB4.out.frozen 0
           have X4 : w4.cell? ⟨g, k * 5 + 4, none⟩ = some (.slice (some ⟨r k, 0, none⟩) t.kids.length ck) := (World.cell?_of_block (a := ⟨g, k * 5 + 4, none⟩) (HC4.out.trans HCUR.out.symm)).trans f4
           clear I4 G4))
      all_goals
        go_wp2
        go_ret
        obtain ⟨y, hy⟩ : ∃ y, y = IntKind.i64.wrap ((x : Int) - 1) := ⟨_, rfl⟩
        rw [← hy]
        have hbl : Below w.heap.size w4 (w4.setCell ⟨r k, 0, none⟩ (.int .i64 y)) := (Below.refl w.heap.size w4).setCell (p := ⟨r k, 0, none⟩) hrS _
        refine ⟨(z.map (·.1)).set k { z[k].1 with kids := t.kids.set 0 y }, some ⟨g, 0, none⟩, c, s4, by rw [List.length_set, List.length_map, hzl]; rfl, ?_, by rw [List.length_set, List.length_map, hzl]; exact hcq, by rw [HZ.out]; exact wild_set HSM.out HSH.out _ (by simp; omega) HSK.out, HI4.out.keep hbl hpS, grown_below (grown_trans (grown_drew HG3.out) HG4.out) hbl rfl⟩
        refine bent_lies HPT.out hkz (by simp; exact lt_of_heap HC4.out) hgp _ (some ⟨r k, 0, none⟩) ck (fun j v hj hv => ?_) ?_ (IBlk.intsX (HB4.out.set 0 y) hrp) (fun i hi hik hne => ?_)
        · rw [World.cell?_setCell_other _ _ _ _ (by intro e; simp only [Addr.mk.injEq] at e; first | exact hrg e.1 | exact hrg e.1.symm)]
          exact (World.cell?_of_block (a := ⟨g, j, none⟩) (HC4.out.trans HCUR.out.symm)).trans hv
        · rw [World.cell?_setCell_other _ _ _ _ (by intro e; simp only [Addr.mk.injEq] at e; first | exact hrg e.1 | exact hrg e.1.symm), X4, List.length_set]
        · have hri := HPT.out.lt i hi
          have hrp' := (HR.out i hi hne).1
          have h1 : w4.heap[r i]? = w3.heap[r i]? := HG4.out.block (r i) hri (fun e => hrp' (by injection e))
          refine ⟨((grown_one w4 (r k) 0 _).block (r i) (Nat.lt_of_lt_of_le hri HG4.out.size) (fun e => ?_)).trans h1, hrp'⟩
          injection e with e
          rcases Nat.lt_or_ge i k with hlt | hge
          · exact HPT.out.asc i k hlt hkz e
          · exact HPT.out.asc k i (by omega) hi e.symm
  · have HOWN := Lib.hid (show w3.ownsRow w.heap.size 30 5 (.slice (some ⟨g, 0, none⟩) n c) n (fl z) by have := HPT.out.own; unfold OwnN at this; rwa [hzl] at this)
    have HIF := Lib.hid (info_parts Tryz.infoNode)
    have HFL := Lib.hid (show (fl z).length = n * 5 by rw [fl_len, hzl])
    have HONE := Lib.hid (fl_one z HPT.out.kid)
    have HNEWS := Lib.hid (show ∀ j u, (fl z)[j]? = some u → w3.cell? ((⟨g, 0, none⟩ : Addr).add j) = some u from HOWN.out.cells rfl)
    go_wp2_with (refine wpList_append_lies _ rfl _ _ 24 rfl w.heap.size 30 HIF.out.choose _ 5 72 Tryz.underlying24 HIF.out.choose_spec.1 HIF.out.choose_spec.2.1 HIF.out.choose_spec.2.2.1 HIF.out.choose_spec.2.2.2 rfl (by decide) (.slice (some ⟨g, 0, none⟩) n c) n (fl z) rfl HOWN.out ⟨g, 0, none⟩ n c (fl z) rfl HFL.out HNEWS.out HONE.out (by omega) (by unfold maxLen; omega) (by omega) HSZ.out _ rfl ?_; intro g2 c2 w6 own6 gr6 or6 lt6)
    go_ret
    have hbl : Below w.heap.size w3 w6 := (Below.refl w.heap.size w3).grown gr6 HSZ.out (fun b hb => by simp only [Value.ownBlock] at hb; injection hb with hb; omega)
    refine ⟨z.map (·.1) ++ z.map (·.1), some ⟨g2, 0, none⟩, c2, s3, by rw [List.length_append, List.length_map, hzl]; rfl, ?_, ?_, ⟨by rw [List.length_append, List.length_map, hzl]; omega, fun t ht => ?_, fun t ht => ?_⟩, HI3.out.keep hbl hpS, grown_below HG3.out hbl rfl⟩
    · refine twice_lies HPT.out (by rw [hzl]; exact own6) ?_ (fun i hi hne => ⟨gr6.block (r i) (HPT.out.lt i hi) (fun e => HPT.out.off i hi e.symm), (HR.out i hi hne).1⟩)
      rcases or6 with e | e
      · simp only [Value.ownBlock] at e; injection e with e; omega
      · have := HI3.out.lt; omega
    · rw [List.length_append, List.length_map, hzl]
      rcases own6.2 with ⟨h, _⟩ | ⟨g', cap', cu', h, _, _, h5, _⟩
      · cases h
      · injection h with _ _ h
        rw [h]; exact h5
    · rw [HZ.out] at ht
      have : t ∈ q := by rcases List.mem_append.1 ht with h | h <;> exact h
      have := HSM.out.2.2 t this
      omega
    · rw [HZ.out] at ht
      exact HSH.out t (by rcases List.mem_append.1 ht with h | h <;> exact h)
  · have d0 := (neF (x := (K : Int)) (c := 0) (by omega)).1
    have d1 := (neF (x := (K : Int)) (c := 1) (by omega)).1
    have d2 := (neF (x := (K : Int)) (c := 2) (by omega)).1
    have d3 := (neF (x := (K : Int)) (c := 3) (by omega)).1
    go_wp2
    go_ret
    exact ⟨q, some ⟨g, 0, none⟩, c, s3, by rw [HN.out]; rfl, HLI.out, by rw [HN.out]; exact hcq, wild_of HSM.out HSH.out, HI3.out, HG3.out⟩
/-- Some nodes and a place in them or one beside them. -/
def WOut (B p : Nat) (a : Option Addr) (len cap : Nat) (zs : List Int) (w : World) (e : Ending) (w' : World) : Prop :=
  ∃ q a2 c2 i s', e = .returned (.tuple #[.slice a2 q.length c2, .int .i64 i]) ∧ -1 ≤ i ∧ i ≤ (q.length : Int) ∧ LiesX p w'.heap.size w' a2 q ∧ q.length ≤ c2 ∧ Wild q ∧ In B w' p a len cap zs s' ∧ w.grownBy w' (some p)
/-- What the law is handed. -/
def POut (w : World) (e : Ending) (w' : World) : Prop :=
  ∃ q a2 c2 i, e = .returned (.tuple #[.slice a2 q.length c2, .int .i64 i]) ∧ -1 ≤ i ∧ i ≤ (q.length : Int) ∧ Lies w'.heap.size w' a2 q ∧ q.length ≤ c2 ∧ Wild q ∧ Below w.heap.size w w'
end
end Go.Proofs.YtphccenlflhfjaaGreatDoor.draw

namespace Go.Proofs.YtphccenlflhfjaaGreatDoor.draw
open Go.ChangeShapes Go.WideShapes Go.ChangeAt Go.RowKit
open nd lcg
open sz (Sh expr_str stmt_str prog_str)
set_option linter.unusedVariables false
set_option maxRecDepth 20000

def cell4 (t : Nd) : Nat → Value
  | 0 => .int .i64 t.k
  | 1 => .int .i64 t.op
  | 2 => .string t.s
  | _ => .string t.t
/-- One of the first four cells of one node is another now. -/
theorem poke_lies {p S g n c k d : Nat} {z : List (Nd × Value)} {r : Nat → Nat} {w : World} {v : Value} (h : PT S (.slice (some ⟨g, 0, none⟩) n c) z r w) (hk : k < z.length) (hg : g < w.heap.size) (hgp : g ≠ p) (t' : Nd) (hkids : t'.kids = z[k].1.kids) (hd : d < 4)
    (e : ∀ j, j < 4 → cell4 t' j = if j = d then v else cell4 z[k].1 j)
    (hr : ∀ i (hi : i < z.length), z[i].2 ≠ .slice none 0 0 → r i ≠ p) : LiesX p (w.setCell ⟨g, k * 5 + d, none⟩ v).heap.size (w.setCell ⟨g, k * 5 + d, none⟩ v) (some ⟨g, 0, none⟩) ((z.map (·.1)).set k t') := by
  refine .inr ⟨g, 0, rfl, by simp; exact hg, hgp, fun i hi => ?_⟩
  simp only [List.length_set, List.length_map] at hi
  obtain ⟨f0, f1, f2, f3, f4⟩ := pt_five h hi
  rw [Nat.zero_add]
  have hoth : ∀ j u, j ≠ k * 5 + d → w.cell? ⟨g, j, none⟩ = some u → (w.setCell ⟨g, k * 5 + d, none⟩ v).cell? ⟨g, j, none⟩ = some u := fun j u hj hu => by
    rw [World.cell?_setCell_other _ _ _ _ (by intro e; simp only [Addr.mk.injEq] at e; exact hj e.2.1.symm)]
    exact hu
  have hsz : (w.setCell ⟨g, k * 5 + d, none⟩ v).heap.size = w.heap.size := by simp
  have hkid : ∃ ak ck, z[i].2 = .slice ak z[i].1.kids.length ck ∧ IntsX p (w.setCell ⟨g, k * 5 + d, none⟩ v).heap.size (w.setCell ⟨g, k * 5 + d, none⟩ v) ak z[i].1.kids := by
    rcases h.kid i hi with ⟨e1, e2⟩ | ⟨cap, e1, e2, e3⟩
    · exact ⟨none, 0, by rw [e1, e2]; rfl, .inl e2⟩
    · have hir : g ≠ r i := fun e => h.off i hi (by rw [← e]; rfl)
      exact ⟨_, cap, e1, IBlk.intsX (e2.of_block ((grown_one w g (k * 5 + d) v).block (r i) (h.lt i hi) (fun e => hir (by injection e with e; exact e.symm)))) (hr i hi (by rw [e1]; simp))⟩
  obtain ⟨ak, ck, hv, hix⟩ := hkid
  rw [hv] at f4
  by_cases he : k = i
  · subst he
    simp only [List.getElem_set_self]
    have hc : ∀ j, j < 4 → (w.setCell ⟨g, k * 5 + d, none⟩ v).cell? ⟨g, k * 5 + j, none⟩ = some (cell4 t' j) := by
      intro j hj
      have hold : w.cell? ⟨g, k * 5 + j, none⟩ = some (cell4 z[k].1 j) := by
        rcases j with _ | _ | _ | _ | _
        · exact f0
        · exact f1
        · exact f2
        · exact f3
        · omega
      rw [e j hj]
      by_cases hjd : j = d
      · subst hjd
        rw [if_pos rfl, World.cell?_setCell_same _ _ _ hold]
      · rw [if_neg hjd]
        exact hoth _ _ (by omega) hold
    rw [← hkids] at f4 hix
    exact ⟨ak, ck, ⟨hc 0 (by decide), hc 1 (by decide), hc 2 (by decide), hc 3 (by decide), hoth _ _ (by omega) f4⟩, hix⟩
  · simp only [List.getElem_set_ne he, List.getElem_map]
    exact ⟨ak, ck, ⟨hoth _ _ (by omega) f0, hoth _ _ (by omega) f1, hoth _ _ (by omega) f2, hoth _ _ (by omega) f3, hoth _ _ (by omega) f4⟩, hix⟩
theorem getD_sz {L : List ByteArray} (h : L.all (fun x => decide (x.size ≤ 16)) = true) (i : Nat) : (L.getD i ⟨#[]⟩).size ≤ 16 := by
  rw [List.getD_eq_getElem?_getD]
  cases hi : L[i]? with
  | none => exact Nat.zero_le _
  | some x => exact of_decide_eq_true (List.all_eq_true.1 h x (List.mem_of_getElem? hi))
section
variable {B p len cap : Nat} {a : Option Addr} {zs : List Int}
theorem some47 {w : World} {s : St} (H : In B w p a len cap zs s) :
    Calls Tryz.prog 33 #[.pointer (some ⟨p, 0, none⟩), .int .i64 47] w (fun e w' => ∃ x s', e = .returned (.int .i64 x) ∧ In B w' p a len cap zs s' ∧ w.grownBy w' (some p)) := by
  refine (bl_ok 47 (by decide) rfl H).mono ?_
  rintro e w' ⟨rfl, hI, hG⟩
  exact ⟨_, _, rfl, hI, hG⟩
theorem pick7 {w : World} {s : St} (H : In B w p a len cap zs s) :
    Calls Tryz.prog 34 #[.pointer (some ⟨p, 0, none⟩), .slice (some ⟨w.heap.size, 0, none⟩) 7 7] (w.alloc (.cells #[.int .i64 0, .int .i64 1, .int .i64 56, .int .i64 99, .int .i64 54, .int .i64 51, .int .i64 (-1)] 3)) (fun e w' => ∃ x s', e = .returned (.int .i64 x) ∧ In B w' p a len cap zs s' ∧ w.grownBy w' (some p)) := by
  refine (pickInt_lit 7 [0, 1, 56, 99, 54, 51, -1] H rfl (by decide) (by decide)).mono ?_
  rintro e w' ⟨⟨rfl, hI, hG⟩, _⟩
  exact ⟨_, _, rfl, hI, hG⟩
theorem pick6 {w : World} {s : St} (H : In B w p a len cap zs s) :
    Calls Tryz.prog 35 #[.pointer (some ⟨p, 0, none⟩), .slice (some ⟨w.heap.size, 0, none⟩) 6 6] (w.alloc (.cells #[.string ⟨#[]⟩, .string ⟨#[120]⟩, .string ⟨#[105, 102]⟩, .string ⟨#[108, 101, 110, 103, 116, 104]⟩, .string ⟨#[49]⟩, .string ⟨#[47]⟩] 9)) (fun e w' => ∃ (x : ByteArray) (s' : St), x.size ≤ 16 ∧ e = .returned (.string x) ∧ In B w' p a len cap zs s' ∧ w.grownBy w' (some p)) := by
  refine (pick_lit 6 [⟨#[]⟩, ⟨#[120]⟩, ⟨#[105, 102]⟩, ⟨#[108, 101, 110, 103, 116, 104]⟩, ⟨#[49]⟩, ⟨#[47]⟩] H rfl (by decide) (by decide)).mono ?_
  rintro e w' ⟨⟨rfl, hI, hG⟩, _⟩
  exact ⟨_, _, getD_sz (by decide) _, rfl, hI, hG⟩
theorem pick3 {w : World} {s : St} (H : In B w p a len cap zs s) :
    Calls Tryz.prog 35 #[.pointer (some ⟨p, 0, none⟩), .slice (some ⟨w.heap.size, 0, none⟩) 3 3] (w.alloc (.cells #[.string ⟨#[]⟩, .string ⟨#[62]⟩, .string ⟨#[120]⟩] 9)) (fun e w' => ∃ (x : ByteArray) (s' : St), x.size ≤ 16 ∧ e = .returned (.string x) ∧ In B w' p a len cap zs s' ∧ w.grownBy w' (some p)) := by
  refine (pick_lit 3 [⟨#[]⟩, ⟨#[62]⟩, ⟨#[120]⟩] H rfl (by decide) (by decide)).mono ?_
  rintro e w' ⟨⟨rfl, hI, hG⟩, _⟩
  exact ⟨_, _, getD_sz (by decide) _, rfl, hI, hG⟩

set_option maxRecDepth 20000 in
set_option maxHeartbeats 3200000 in
theorem spoilt_ok {w : World} {s : St} (H : In B w p a len cap zs s) :
    Calls Tryz.prog 15 #[.pointer (some ⟨p, 0, none⟩)] w (BOut B p a len cap zs w) := by
  have HI := Lib.hid H
  have HP := H.lt
  clear H
  go_enter Tryz.func15, Tryz.ntmps15
  go_wp2_with fail
  refine (any_ok HI.out).mono ?_
  rintro e w1 ⟨q, s1, ⟨v, rfl, T1, I1, G1⟩, hsm, hsh⟩
  obtain ⟨g, c, z, r, rfl, hcq, hSg, hgw, hpS, hz, hzl, hpt, hr⟩ := T1.row hsm.1
  have hq0 := hsm.1
  have hq1 := hsm.2.1
  have HSM := Lib.hid hsm
  have HSH := Lib.hid hsh
  have HG1 := Lib.hid G1
  have HI1 := Lib.hid I1
  obtain ⟨n, hn⟩ : ∃ n, q.length = n := ⟨_, rfl⟩
  have HZ := Lib.hid hz
  have HN := Lib.hid hn
  have HPT1 := Lib.hid hpt
  have HR := Lib.hid (fun i hi hne => (hr i hi hne).1)
  rw [hn] at hcq hzl HPT1 hq0 hq1 ⊢
  obtain ⟨k, hk⟩ : ∃ k, ((exactG zs).bl n s1).1 = k := ⟨_, rfl⟩
  have hkn := exact_lt zs n s1 (by omega)
  rw [hk] at hkn
  have HK := Lib.hid hk
  clear T1 I1 G1 hsm hsh hz hn hpt hr hk
  go_wp2_with fail
  refine (bl_ok n (by omega) HK.out HI1.out).mono ?_
  rintro e w2 ⟨rfl, I2, G2⟩
  obtain ⟨s2, hs2⟩ : ∃ s2, ((exactG zs).bl n s1).2 = s2 := ⟨_, rfl⟩
  rw [hs2] at I2
  obtain ⟨K, hK⟩ : ∃ K, ((exactG zs).bl 14 s2).1 = K := ⟨_, rfl⟩
  have hK14 := exact_lt zs 14 s2 (by decide)
  rw [hK] at hK14
  have HKK := Lib.hid hK
  have HI2 := Lib.hid I2
  have HG2 := Lib.hid G2
  clear I2 G2 hs2 hK
  go_wp2_with fail
  refine (bl_ok 14 (by decide) HKK.out HI2.out).mono ?_
  rintro e w3 ⟨rfl, I3, G3⟩
  obtain ⟨s3, hs3⟩ : ∃ s3, ((exactG zs).bl 14 s2).2 = s3 := ⟨_, rfl⟩
  rw [hs3] at I3
  have HI3 := Lib.hid I3
  have HG13 := Lib.hid (grown_trans HG2.out G3)
  have HG3 := Lib.hid (grown_trans HG1.out HG13.out)
  have hgp : g ≠ p := by omega
  have HPT := Lib.hid (pt_kept2 HPT1.out HG13.out (by simp only [Value.ownBlock]; intro e; injection e with e; exact hgp e) HR.out)
  have hg3 : g < w3.heap.size := Nat.lt_of_lt_of_le hgw HG13.out.size
  clear I3 G3 hs3
  have HLI := Lib.hid (show LiesX p w3.heap.size w3 (some ⟨g, 0, none⟩) q by rw [← HZ.out]; exact pt_lies HPT.out hg3 hgp HR.out)
  obtain ⟨cur, hcur⟩ : ∃ cur, w3.heap[g]? = some (.cells cur 30 (0, 0)) := by
    rcases HPT.out.own.2 with ⟨h, _⟩ | ⟨g', cap', cur, h, _, hb, _⟩
    · cases h
    · injection h with h _ _
      injection h with h
      injection h with h _ _
      exact ⟨cur, by rw [h]; exact hb⟩
  have HCUR := Lib.hid hcur
  have hkz : k < z.length := by omega
  have hqk : z[k].1 ∈ q := by rw [← HZ.out]; exact List.mem_map.2 ⟨_, List.getElem_mem hkz, rfl⟩
  have HKL := Lib.hid (show z[k].1.kids.length ≤ 1001 by have := HSM.out.2.2 _ hqk; omega)
  have HSK := Lib.hid (HSH.out _ hqk)
  have hk0 : (0 : Int) ≤ (k : Int) := by omega
  have hk1 : (k : Int) < (n : Int) := by omega
  clear hcur hqk
  rcases (show K = 0 ∨ K = 1 ∨ K = 2 ∨ K = 3 ∨ K = 4 ∨ 5 ≤ K by omega) with rfl | rfl | rfl | rfl | rfl | hK5
  · go_wp2_with fail
    refine (some47 HI3.out).mono ?_
    rintro e w4 ⟨x, s4, rfl, I4, G4⟩
    have HI4 := Lib.hid I4
    have HG4 := Lib.hid G4
    have HPT4 := Lib.hid (pt_kept2 HPT.out G4 (by simp only [Value.ownBlock]; intro e; injection e with e; exact hgp e) HR.out)
    have hc4 : w4.heap[g]? = some (.cells cur 30 (0, 0)) := (G4.block g hg3 (fun e => hgp (by injection e))).trans HCUR.out
    have hg4 : g < w4.heap.size := Nat.lt_of_lt_of_le hg3 G4.size
    obtain ⟨f0, f1, f2, f3, f4⟩ := pt_five HPT4.out hkz
    have Y4 : w4.frozen? ⟨g, k * 5, none⟩ = false := frozen_of_row _ _ _ _ _ hc4
    clear I4 G4 hc4
    go_wp2
    go_ret
    have hbl : Below w.heap.size w4 (w4.setCell ⟨g, k * 5, none⟩ (.int .i64 x)) := (Below.refl w.heap.size w4).setCell (p := ⟨g, k * 5, none⟩) hSg _
    refine ⟨(z.map (·.1)).set k { z[k].1 with k := x }, some ⟨g, 0, none⟩, c, s4, by rw [List.length_set, List.length_map, hzl]; rfl, ?_, by rw [List.length_set, List.length_map, hzl]; exact hcq, by rw [HZ.out]; exact wild_set HSM.out HSH.out _ HKL.out HSK.out, HI4.out.keep hbl hpS, grown_below (grown_trans HG3.out HG4.out) hbl rfl⟩
    exact poke_lies (d := 0) HPT4.out hkz hg4 hgp _ rfl (by decide) (by intro j hj; rcases j with _ | _ | _ | _ | _ <;> first | rfl | omega) HR.out
  · go_wp2_with fail
    refine (pick7 HI3.out).mono ?_
    rintro e w4 ⟨x, s4, rfl, I4, G4⟩
    have HI4 := Lib.hid I4
    have HG4 := Lib.hid G4
    have HPT4 := Lib.hid (pt_kept2 HPT.out G4 (by simp only [Value.ownBlock]; intro e; injection e with e; exact hgp e) HR.out)
    have hc4 : w4.heap[g]? = some (.cells cur 30 (0, 0)) := (G4.block g hg3 (fun e => hgp (by injection e))).trans HCUR.out
    have hg4 : g < w4.heap.size := Nat.lt_of_lt_of_le hg3 G4.size
    obtain ⟨f0, f1, f2, f3, f4⟩ := pt_five HPT4.out hkz
    have Y4 : w4.frozen? ⟨g, k * 5 + 1, none⟩ = false := frozen_of_row _ _ _ _ _ hc4
    clear I4 G4 hc4
    go_wp2
    go_ret
    have hbl : Below w.heap.size w4 (w4.setCell ⟨g, k * 5 + 1, none⟩ (.int .i64 x)) := (Below.refl w.heap.size w4).setCell (p := ⟨g, k * 5 + 1, none⟩) hSg _
    refine ⟨(z.map (·.1)).set k { z[k].1 with op := x }, some ⟨g, 0, none⟩, c, s4, by rw [List.length_set, List.length_map, hzl]; rfl, ?_, by rw [List.length_set, List.length_map, hzl]; exact hcq, by rw [HZ.out]; exact wild_set HSM.out HSH.out _ HKL.out HSK.out, HI4.out.keep hbl hpS, grown_below (grown_trans HG3.out HG4.out) hbl rfl⟩
    exact poke_lies (d := 1) HPT4.out hkz hg4 hgp _ rfl (by decide) (by intro j hj; rcases j with _ | _ | _ | _ | _ <;> first | rfl | omega) HR.out
  · go_wp2_with fail
    refine (pick6 HI3.out).mono ?_
    rintro e w4 ⟨x, s4, hx, rfl, I4, G4⟩
    have HI4 := Lib.hid I4
    have HG4 := Lib.hid G4
    have HPT4 := Lib.hid (pt_kept2 HPT.out G4 (by simp only [Value.ownBlock]; intro e; injection e with e; exact hgp e) HR.out)
    have hc4 : w4.heap[g]? = some (.cells cur 30 (0, 0)) := (G4.block g hg3 (fun e => hgp (by injection e))).trans HCUR.out
    have hg4 : g < w4.heap.size := Nat.lt_of_lt_of_le hg3 G4.size
    obtain ⟨f0, f1, f2, f3, f4⟩ := pt_five HPT4.out hkz
    have Y4 : w4.frozen? ⟨g, k * 5 + 2, none⟩ = false := frozen_of_row _ _ _ _ _ hc4
    clear I4 G4 hc4
    go_wp2
    go_ret
    have hbl : Below w.heap.size w4 (w4.setCell ⟨g, k * 5 + 2, none⟩ (.string x)) := (Below.refl w.heap.size w4).setCell (p := ⟨g, k * 5 + 2, none⟩) hSg _
    refine ⟨(z.map (·.1)).set k { z[k].1 with s := x }, some ⟨g, 0, none⟩, c, s4, by rw [List.length_set, List.length_map, hzl]; rfl, ?_, by rw [List.length_set, List.length_map, hzl]; exact hcq, by rw [HZ.out]; exact wild_set HSM.out HSH.out _ HKL.out ⟨hx, HSK.out.2⟩, HI4.out.keep hbl hpS, grown_below (grown_trans HG3.out HG4.out) hbl rfl⟩
    exact poke_lies (d := 2) HPT4.out hkz hg4 hgp _ rfl (by decide) (by intro j hj; rcases j with _ | _ | _ | _ | _ <;> first | rfl | omega) HR.out
  · go_wp2_with fail
    refine (pick3 HI3.out).mono ?_
    rintro e w4 ⟨x, s4, hx, rfl, I4, G4⟩
    have HI4 := Lib.hid I4
    have HG4 := Lib.hid G4
    have HPT4 := Lib.hid (pt_kept2 HPT.out G4 (by simp only [Value.ownBlock]; intro e; injection e with e; exact hgp e) HR.out)
    have hc4 : w4.heap[g]? = some (.cells cur 30 (0, 0)) := (G4.block g hg3 (fun e => hgp (by injection e))).trans HCUR.out
    have hg4 : g < w4.heap.size := Nat.lt_of_lt_of_le hg3 G4.size
    obtain ⟨f0, f1, f2, f3, f4⟩ := pt_five HPT4.out hkz
    have Y4 : w4.frozen? ⟨g, k * 5 + 3, none⟩ = false := frozen_of_row _ _ _ _ _ hc4
    clear I4 G4 hc4
    go_wp2
    go_ret
    have hbl : Below w.heap.size w4 (w4.setCell ⟨g, k * 5 + 3, none⟩ (.string x)) := (Below.refl w.heap.size w4).setCell (p := ⟨g, k * 5 + 3, none⟩) hSg _
    refine ⟨(z.map (·.1)).set k { z[k].1 with t := x }, some ⟨g, 0, none⟩, c, s4, by rw [List.length_set, List.length_map, hzl]; rfl, ?_, by rw [List.length_set, List.length_map, hzl]; exact hcq, by rw [HZ.out]; exact wild_set HSM.out HSH.out _ HKL.out ⟨HSK.out.1, hx⟩, HI4.out.keep hbl hpS, grown_below (grown_trans HG3.out HG4.out) hbl rfl⟩
    exact poke_lies (d := 3) HPT4.out hkz hg4 hgp _ rfl (by decide) (by intro j hj; rcases j with _ | _ | _ | _ | _ <;> first | rfl | omega) HR.out
  · go_wp2_with fail
    refine (bent_ok HI3.out).mono ?_
    rintro e w4 ⟨q4, a4, c4, s4, rfl, h1, h2, h3, h4, h5⟩
    have HF := Lib.hid (And.intro h1 (And.intro h2 (And.intro h3 (And.intro h4 (grown_trans HG3.out h5)))))
    clear h1 h2 h3 h4 h5
    go_wp2
    go_ret
    exact ⟨q4, a4, c4, s4, rfl, HF.out⟩
  · have d0 := (neF (x := (K : Int)) (c := 0) (by omega)).1
    have d1 := (neF (x := (K : Int)) (c := 1) (by omega)).1
    have d2 := (neF (x := (K : Int)) (c := 2) (by omega)).1
    have d3 := (neF (x := (K : Int)) (c := 3) (by omega)).1
    have d4 := (neF (x := (K : Int)) (c := 4) (by omega)).1
    go_wp2
    go_ret
    exact ⟨q, some ⟨g, 0, none⟩, c, s3, by rw [HN.out]; rfl, HLI.out, by rw [HN.out]; exact hcq, wild_of HSM.out HSH.out, HI3.out, HG3.out⟩

def SOut (w : World) (e : Ending) (w' : World) : Prop :=
  ∃ q a2 c2, e = .returned (.slice a2 q.length c2) ∧ Lies w'.heap.size w' a2 q ∧ q.length ≤ c2 ∧ Wild q ∧ Below w.heap.size w w'

/-- What the law is handed: 'DrawTreeOk'. -/
theorem drawTree_any {w : World} (hc : Code w.heap.size w a len zs) (hl : len ≤ 1048576) :
    Calls Tryz.prog 5 #[.slice a len cap] w (SOut w) := by
  have HC := Lib.hid hc
  clear hc
  go_enter Tryz.func5, Tryz.ntmps5
  go_wp2_with fail
  refine (new_any HC.out (Nat.le_refl _) hl).mono ?_
  rintro e w1 ⟨rfl, I1, b1⟩
  have HB1 := Lib.hid b1
  go_wp2_with fail
  refine (spoilt_ok I1).mono ?_
  rintro e w2 ⟨q, a2, c2, s', rfl, h3, h4, h5, I2, G2⟩
  have HF := Lib.hid (And.intro h3.lies (And.intro h4 (And.intro h5 (HB1.out.trans (below_of G2 (Nat.le_refl _) HB1.out.size)))))
  clear h3 h4 h5 I2 G2 I1 b1
  go_wp2
  go_ret
  exact ⟨q, a2, c2, rfl, HF.out⟩

end
end Go.Proofs.YtphccenlflhfjaaGreatDoor.draw
