/-
  impl.placedKids, impl.NoComments: contracts.
-/
import Derived.Test.YtckeepjfbpphaaaGreatDoorDropMath
import Derived.Test.YtckeepjfbpphaaaGreatDoorPartImpl
namespace Go.Proofs.YtckeepjfbpphaaaGreatDoor.nc
open Go.ChangeShapes Go.WideShapes Go.ChangeAt Go.RowKit
open nd (Nd OwnI IBlk Ints wpList_append_int)
set_option linter.unusedVariables false
set_option maxRecDepth 20000

def pk (P ks : List Int) : List Int := (ks.filter (fun k => !(P.getD k.toNat 0 == -1))).map (fun k => P.getD k.toNat 0)
theorem pk_step {P ks : List Int} {I : Nat} (h : I < ks.length) : pk P (ks.take (I + 1)) = if P.getD ks[I].toNat 0 = -1 then pk P (ks.take I) else pk P (ks.take I) ++ [P.getD ks[I].toNat 0] := by
  unfold pk
  rw [List.take_succ_eq_append_getElem h, List.filter_append, List.map_append]
  by_cases hq : P.getD ks[I].toNat 0 = -1
  · rw [if_pos hq, List.filter_cons_of_neg (by rw [hq]; simp)]; simp
  · rw [if_neg hq, List.filter_cons_of_pos (by simpa using hq)]; rfl
theorem pk_len (P ks : List Int) : (pk P ks).length ≤ ks.length := by
  unfold pk
  rw [List.length_map]
  exact List.length_filter_le _ _
def RelPk (w : World) (P ks : List Int) (v i : Value) (wr : World) : Prop :=
  ∃ I : Nat, I ≤ ks.length ∧ i = .int .i64 (I : Int) ∧ OwnI w.heap.size v (pk P (ks.take I)) wr ∧ Below w.heap.size w wr

set_option maxHeartbeats 1600000 in
theorem impl_placed (ks P : List Int) (a ap : Option Addr) (c m cp : Nat) (w : World) (hn : ks.length ≤ 1048576) (hm : P.length ≤ m) (hm2 : m ≤ 1048576) (hk : ∀ k ∈ ks, 0 ≤ k ∧ k < (P.length : Int)) (hc : Ints w.heap.size w a ks) (hp : Ints w.heap.size w ap P) :
    Calls Tryz.prog 16 #[.slice a ks.length c, .slice ap m cp] w fun e w' => ∃ v, e = .returned v ∧ OwnI w.heap.size v (pk P ks) w' ∧ Below w.heap.size w w' := by
  have HC := Lib.hid hc
  have HP := Lib.hid hp
  have HK := Lib.hid hk
  have HM := Lib.hid hm
  clear hc hp hk hm
  obtain ⟨n, hln⟩ : ∃ n, n = ks.length := ⟨_, rfl⟩
  have HLN := Lib.hid hln
  rw [← hln]
  rw [← hln] at hn
  clear hln
  go_enter Tryz.func16, Tryz.ntmps16
  go_wp2
  go_loopw [5, 10] (fun v i wr => RelPk w P ks v i wr) (fun _ i _ => n - (intOf i).toNat)
  case atStart => exact ⟨0, by omega, rfl, OwnI.nil _ _, Below.refl _ _⟩
  case round =>
    obtain ⟨I, hI, rfl, hown, hbel⟩ := hrel
    have HB := Lib.hid hbel
    rw [← HLN.out] at hI
    obtain ⟨d, hd⟩ : ∃ d, d = pk P (ks.take I) := ⟨_, rfl⟩
    rw [← hd] at hown
    have hdl : d.length ≤ I := by rw [hd]; refine Nat.le_trans (pk_len _ _) ?_; simp; omega
    have HO := Lib.hid hown
    have HD := Lib.hid hd
    have hsz := hbel.size
    clear hbel hown hd
    by_cases hlt : I < n
    · have hl1 : I < ks.length := by have := HLN.out; omega
      obtain ⟨b, o, rfl, hb, hcell⟩ := nd.ints_at HC.out hl1
      have c0 := (HB.out.cell (p := ⟨b, o + I, none⟩) hb).trans (hcell I hl1)
      obtain ⟨k0, k1⟩ := HK.out ks[I] (List.getElem_mem hl1)
      have HST := Lib.hid (pk_step (P := P) hl1)
      rw [← HD.out] at HST
      obtain ⟨q, hq⟩ : ∃ q : Nat, ks[I] = (q : Int) := ⟨ks[I].toNat, by omega⟩
      rw [hq] at c0 k1 HST
      rw [Int.toNat_natCast] at HST
      have hqP : q < P.length := by omega
      obtain ⟨b', o', rfl, hb', hcell'⟩ := nd.ints_at HP.out hqP
      have d0 := (HB.out.cell (p := ⟨b', o' + q, none⟩) hb').trans (hcell' q hqP)
      have hx : P.getD q 0 = P[q] := by rw [List.getD_eq_getElem?_getD, List.getElem?_eq_getElem hqP]; rfl
      rw [hx] at HST
      obtain ⟨x, hx2⟩ : ∃ x, x = P[q] := ⟨_, rfl⟩
      rw [← hx2] at d0 HST
      have hi1 : (I : Int) < (n : Int) := by omega
      have hi0 : (0 : Int) ≤ (I : Int) := by omega
      have hq0 : (0 : Int) ≤ (q : Int) := by omega
      have hqm : (q : Int) < (m : Int) := by have := HM.out; omega
      clear hcell hcell' hq hx hx2 hqP k0 k1
      by_cases hz : x = -1
      · subst hz
        have HN := Lib.hid (show pk P (ks.take (I + 1)) = d by rw [HST.out, if_pos rfl])
        go_wp2
        go_roundw
        case rel => exact ⟨I + 1, by have := HLN.out; omega, by go_num, by rw [HN.out]; exact HO.out, HB.out⟩
        case measure => simp [intOf]; omega
      · have HN := Lib.hid (show pk P (ks.take (I + 1)) = d ++ [x] by rw [HST.out, if_neg hz])
        have hz1 : (x != -1) = true := by simpa using hz
        clear hz
        go_wp2_with (at_builtin; refine wpList_append_int _ x rfl _ _ rfl w.heap.size _ d rfl HO.out (by simp [Act.eval]) ?n1 ?n2 ?n3)
        case n1 => omega
        case n2 => exact hsz
        case n3 =>
          intro v' w2 hown' b2 _
          have HO2 := Lib.hid hown'
          have HB2 := Lib.hid (HB.out.trans b2)
          clear hown' b2
          go_wp2
          go_roundw
          case rel => exact ⟨I + 1, by have := HLN.out; omega, by go_num, by rw [HN.out]; exact HO2.out, HB2.out⟩
          case measure => simp [intOf]; omega
    · obtain rfl : I = n := by omega
      have HE := Lib.hid (show d = pk P ks by rw [HD.out, HLN.out, List.take_length])
      go_wp2
      go_ret
      exact ⟨_, rfl, by rw [← HE.out]; exact HO.out, HB.out⟩
end Go.Proofs.YtckeepjfbpphaaaGreatDoor.nc
