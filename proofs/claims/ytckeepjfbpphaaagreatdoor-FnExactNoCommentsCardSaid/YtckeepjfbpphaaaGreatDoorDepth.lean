/-
  DepthOf of both sides: contracts.
-/
import Derived.Test.YtckeepjfbpphaaaGreatDoorDepthMath
import Derived.Test.YtckeepjfbpphaaaGreatDoorShapeImpl
import Derived.BigRegion
namespace Go.Proofs.YtckeepjfbpphaaaGreatDoor.nd
open Go.ChangeShapes Go.WideShapes Go.ChangeAt Go.RowKit
set_option linter.unusedVariables false

def RelDs (B : Nat) (W : World) (l : List Nd) (v i : Value) (wr : World) : Prop :=
  ∃ (I : Nat) (d : List Nat), I ≤ l.length ∧ OwnI B v (ints d) wr ∧ i = .int .i64 (I : Int) ∧ d.length = I ∧ Deep d ∧ dF (l.drop I) d = dF l [] ∧ Below B W wr
def RelDk (d : List Nat) (kids : List Int) (n k : Value) : Prop :=
  ∃ J : Nat, J ≤ kids.length ∧ n = .int .i64 ((mx d (kids.take J) : Nat) + 1 : Int) ∧ k = .int .i64 (J : Int)

set_option maxRecDepth 20000 in
set_option maxHeartbeats 1600000 in
theorem spec_depth (l : List Nd) (a : Option Addr) (cap : Nat) (w : World) (hn : l.length ≤ 1048576) (hk : ∀ t ∈ l, t.kids.length ≤ 1048576) (hc : Lies w.heap.size w a l) :
    Calls Tryz.prog 23 #[.slice a l.length cap] w fun e w' => e = .returned (.int .i64 (depthF l : Int)) ∧ Below w.heap.size w w' := by
  have HC := Lib.hid hc
  have HK := Lib.hid hk
  clear hc hk
  cases hs : shape l
  · have HE := Lib.hid (show (depthF l : Int) = 0 by unfold depthF; rw [hs]; rfl)
    have HS := Lib.hid hs
    clear hs
    go_enter Tryz.func23, Tryz.ntmps23
    go_wp2_with fail
    refine (spec_shape l a cap _ hn HK.out HC.out).mono ?_
    rintro e w2 ⟨he, b2⟩
    rw [HS.out] at he
    subst he
    go_wp2
    go_ret
    exact ⟨by rw [HE.out]; rfl, b2⟩
  · have HE := Lib.hid (show depthF l = (dF l []).getD (l.length - 1) 0 by unfold depthF; rw [if_pos hs])
    have HS := Lib.hid hs
    have HAT := Lib.hid (fun i (hi : i < l.length) => (shape_at hs hi).2)
    obtain ⟨n, hln⟩ : ∃ n, l.length = n + 1 := ⟨l.length - 1, by have := (shape_yes hs).1; omega⟩
    have HLN := Lib.hid hln
    clear hs
    have HX := Lib.hid (spec_shape l a cap w hn HK.out HC.out)
    rw [hln] at hn HX ⊢
    clear hln
    go_enter Tryz.func23, Tryz.ntmps23
    go_wp2_with fail
    refine HX.out.mono ?_
    rintro e w2 ⟨he, b2⟩
    rw [HS.out] at he
    subst he
    have HB2 := Lib.hid b2
    have HO2 := Lib.hid (OwnI.lit (B := w.heap.size) b2.size)
    clear b2
    go_wp2
    go_loopw [3, 4] (fun v i wr => RelDs w.heap.size w l v i wr) (fun _ i _ => n + 1 - (intOf i).toNat)
    case atStart => exact ⟨0, [], by omega, HO2.out, rfl, rfl, Deep.nil, by simp, HB2.out.alloc HB2.out.size _⟩
    case round =>
      obtain ⟨I, d, hI, hown, rfl, hlen, hdeep, hst, hbel⟩ := hrel
      have HOWN := Lib.hid hown
      have HDEEP := Lib.hid hdeep
      have HST := Lib.hid hst
      have HB := Lib.hid hbel
      have HLEN := Lib.hid hlen
      obtain ⟨av, cv, rfl⟩ := hown.form
      rw [HLN.out] at hI
      clear hdeep hst hbel hown
      by_cases hlt : I < n + 1
      · have hltl : I < l.length := by have := HLN.out; omega
        obtain ⟨b, o, rfl, hb, hcell⟩ := lies_at HC.out hltl
        obtain ⟨ak, ck, ⟨c0, c1, c2, c3, c4⟩, hik⟩ := (hcell I hltl).keep HB.out (Nat.le_refl _) hb
        have HS1 := Lib.hid (dF_step hltl d)
        have HKK := Lib.hid (HK.out l[I] (List.getElem_mem hltl))
        have HKM := Lib.hid (HAT.out I hltl)
        obtain ⟨t, ht⟩ : ∃ t, t = l[I] := ⟨_, rfl⟩
        rw [← ht] at c4 hik HS1 HKK HKM
        have HIK := Lib.hid hik
        have hkl := HKK.out
        clear ht hcell hik c0 c1 c2 c3
        have hi1 : (I : Int) < (n : Int) + 1 := by omega
        have hi0 : (0 : Int) ≤ (I : Int) := by omega
        have HOWN2 := Lib.hid (show OwnI w.heap.size (.slice av I cv) (ints d) wr by have := HOWN.out; rwa [ints_len, HLEN.out] at this)
        rw [ints_len, hlen]
        clear hlen
        go_wp2
        go_loop [5, 6] (fun v k => RelDk d t.kids v k) (fun _ k => t.kids.length - (intOf k).toNat)
        case atStart => exact ⟨0, by omega, rfl, rfl⟩
        case round =>
          obtain ⟨J, hJ, rfl, rfl⟩ := hrel
          have hml := mx_le HDEEP.out (t.kids.take J)
          rw [HLEN.out] at hml
          obtain ⟨M, hM⟩ : ∃ M, M = mx d (t.kids.take J) := ⟨_, rfl⟩
          have HM := Lib.hid hM
          rw [← hM] at hml ⊢
          clear hM
          by_cases hjt : J < t.kids.length
          · obtain ⟨bk, ok, rfl, hbk, hkc⟩ := ints_at HIK.out hjt
            have d0 := hkc J hjt
            have HTK := Lib.hid (mx_step d hjt)
            have hmem := HKM.out _ (List.getElem_mem hjt)
            obtain ⟨y, hy⟩ : ∃ y, y = t.kids[J] := ⟨_, rfl⟩
            rw [← hy] at d0 HTK hmem
            obtain ⟨Y, rfl⟩ : ∃ Y : Nat, y = (Y : Int) := ⟨y.toNat, by omega⟩
            have hYd : Y < d.length := by have := HLEN.out; omega
            have hYI : Y < I := by omega
            obtain ⟨D, hD⟩ : ∃ D, D = d[Y]'hYd := ⟨_, rfl⟩
            have hDle : D ≤ Y + 1 := by rw [hD]; exact HDEEP.out Y hYd
            have HNX := Lib.hid (show mx d (t.kids.take (J + 1)) = max M D by
              rw [HTK.out, HM.out, hD]
              simp [hYd])
            have hcell9 : ∃ g, av = some ⟨g, 0, none⟩ ∧ wr.cell? ⟨g, Y, none⟩ = some (.int .i64 (D : Int)) := by
              rcases HOWN.out.blk with ⟨_, h⟩ | ⟨g, c, hv, _, h⟩
              · have h' : d.length = 0 := by rw [← ints_len, h]; rfl
                omega
              · injection hv with hv1 _ _
                refine ⟨g, hv1, ?_⟩
                have := h.at Y (by rw [ints_len]; exact hYd)
                rw [ints_get hYd, ← hD] at this
                exact this
            obtain ⟨g, rfl, c9⟩ := hcell9
            have hy1 : (Y : Int) < (I : Int) := by omega
            have hy0 : (0 : Int) ≤ (Y : Int) := by omega
            have hj1 : (J : Int) < (t.kids.length : Int) := by omega
            have hj0 : (0 : Int) ≤ (J : Int) := by omega
            have hcomm : (1 : Int) + (D : Int) = (D : Int) + 1 := by omega
            clear hy hkc hmem hD hYd HOWN
            go_wp2
            go_round
            case rel =>
              refine ⟨J + 1, by omega, congrArg (Value.int .i64) ?_, by go_num⟩
              rw [HNX.out, Nat.max_def]
              split <;> split <;> omega
            case measure => simp [intOf]; omega
          · have HNEW := Lib.hid (show dF (l.drop (I + 1)) (d ++ [M + 1]) = dF l [] by
              rw [← HST.out, HS1.out, HM.out, List.take_of_length_le (by omega)])
            have HDN := Lib.hid (show Deep (d ++ [M + 1]) by rw [HM.out]; exact HDEEP.out.snoc _)
            have hle1 : (ints d).length ≤ 1048576 := by rw [ints_len, HLEN.out]; omega
            have HBS := Lib.hid HB.out.size
            have hj1 : ¬ (J : Int) < (t.kids.length : Int) := by omega
            go_wp2_with (refine wpList_append_int _ ((M : Int) + 1) rfl _ _ rfl w.heap.size _ (ints d) rfl HOWN2.out rfl hle1 HBS.out ?_; intro v' w3 own3 b3 gr3)
            go_roundw
            case rel => exact ⟨I + 1, d ++ [M + 1], by have := HLN.out; omega, by rw [ints_snoc]; exact own3, by go_num, by simp [HLEN.out], HDN.out, HNEW.out, HB.out.trans b3⟩
            case measure => simp [intOf]; omega
      · obtain rfl : I = n + 1 := by omega
        have hnd : n < d.length := by omega
        obtain ⟨D, hD⟩ : ∃ D, D = d[n]'hnd := ⟨_, rfl⟩
        have HR := Lib.hid (show depthF l = D by
          have h1 := HST.out
          rw [show l.drop (n + 1) = [] by rw [← HLN.out, List.drop_length]] at h1
          rw [HE.out, ← h1, HLN.out, hD]
          simp [dF, hnd])
        obtain ⟨b, o, rfl, hb, hcell⟩ := ints_at HOWN.out.ints (I := n) (by rw [ints_len]; exact hnd)
        have c9 := hcell n (by rw [ints_len]; exact hnd)
        rw [ints_get hnd, ← hD] at c9
        have i1 : (n : Int) < (n : Int) + 1 := by omega
        have i0 : (0 : Int) ≤ (n : Int) := by omega
        rw [ints_len, hlen]
        clear hcell hD
        go_wp2
        go_ret
        exact ⟨by rw [HR.out]; rfl, HB.out⟩

/-! ### impl.DepthOf -/
theorem IBlk.set {w : World} {g n : Nat} {l : List Int} (h : IBlk w g n l) (i : Nat) (v : Int) : IBlk (w.setCell ⟨g, i, none⟩ (.int .i64 v)) g n (l.set i v) := by
  obtain ⟨c, hc, hs, hl, hx⟩ := h
  refine ⟨c.setIfInBounds i (.int .i64 v), heap_setCell_same _ g _ _ _ _ hc, by simpa using hs, by simpa using hl, fun j hj => ?_⟩
  simp at hj
  rw [Array.getElem?_setIfInBounds, List.getElem_set]
  by_cases he : i = j
  · subst he
    rw [if_pos rfl, if_pos rfl, if_pos (by omega)]
  · rw [if_neg he, if_neg he]
    exact hx j hj
theorem IBlk.zeros (w : World) (n : Nat) : IBlk (w.alloc (.cells (madeCells #[.int .i64 0] n) 3)) w.heap.size n (List.replicate n 0) := by
  refine ⟨_, heap_alloc_new w _, by simp [madeCells], by simp, fun i hi => ?_⟩
  simp at hi
  simp [madeCells, hi, Nat.mod_one]
/-- The depths so far, and noughts. -/
def pad (d : List Nat) (n : Nat) : List Int := ints d ++ List.replicate (n - d.length) 0
theorem pad_len {d : List Nat} {n : Nat} (h : d.length ≤ n) : (pad d n).length = n := by simp [pad, ints]; omega
theorem pad_get {d : List Nat} {n Y : Nat} (h : Y < d.length) (hn : d.length ≤ n) : (pad d n)[Y]'(by rw [pad_len hn]; omega) = (d[Y] : Int) := by
  unfold pad
  rw [List.getElem_append_left (by rw [ints_len]; exact h), ints_get h]
theorem pad_set {d : List Nat} {n : Nat} (h : d.length < n) (v : Nat) : (pad d n).set d.length (v : Int) = pad (d ++ [v]) n := by
  unfold pad
  rw [ints_snoc, List.set_append_right _ _ (by rw [ints_len]; exact Nat.le_refl _), ints_len, Nat.sub_self]
  rw [show n - d.length = (n - (d ++ [v]).length) + 1 by simp; omega, List.replicate_succ, List.set_cons_zero, List.append_assoc]
  rfl
theorem pad_nil (n : Nat) : pad [] n = List.replicate n 0 := by simp [pad, ints]

theorem pad_zero {d : List Nat} {n : Nat} (h : d.length < n) : pad d n = pad (d ++ [0]) n := by
  unfold pad
  rw [ints_snoc, show n - d.length = (n - (d ++ [0]).length) + 1 by simp; omega, List.replicate_succ, List.append_assoc]
  rfl
theorem pad_put {d : List Nat} {n : Nat} (m v : Nat) : (pad (d ++ [m]) n).set d.length (v : Int) = pad (d ++ [v]) n := by
  unfold pad
  rw [ints_snoc, ints_snoc, List.append_assoc, List.append_assoc, List.set_append_right _ _ (by rw [ints_len]; exact Nat.le_refl _), ints_len, Nat.sub_self]
  simp
/-- Three writes kept by a block of one's own above B. -/
def RelDi (B g n : Nat) (W : World) (l : List Nd) (i : Value) (wr : World) : Prop :=
  ∃ (I : Nat) (d : List Nat), I ≤ n ∧ IBlk wr g n (pad d n) ∧ i = .int .i64 (I : Int) ∧ d.length = I ∧ Deep d ∧ dF (l.drop I) d = dF l [] ∧ Below B W wr
def RelDj (B g n : Nat) (W : World) (d : List Nat) (kids : List Int) (k : Value) (wr : World) : Prop :=
  ∃ J : Nat, J ≤ kids.length ∧ IBlk wr g n (pad (d ++ [mx d (kids.take J)]) n) ∧ k = .int .i64 (J : Int) ∧ Below B W wr

set_option maxRecDepth 20000 in
set_option maxHeartbeats 3200000 in
theorem impl_depth (l : List Nd) (a : Option Addr) (cap : Nat) (w : World) (hn : l.length ≤ 1048576) (hk : ∀ t ∈ l, t.kids.length ≤ 1048576) (hc : Lies w.heap.size w a l) :
    Calls Tryz.prog 29 #[.slice a l.length cap] w fun e w' => e = .returned (.int .i64 (depthF l : Int)) ∧ Below w.heap.size w w' := by
  have HC := Lib.hid hc
  have HK := Lib.hid hk
  clear hc hk
  cases hs : shape l
  · have HE := Lib.hid (show (depthF l : Int) = 0 by unfold depthF; rw [hs]; rfl)
    have HS := Lib.hid hs
    clear hs
    go_enter Tryz.func29, Tryz.ntmps29
    go_wp2_with fail
    refine (impl_shape l a cap _ hn HK.out HC.out).mono ?_
    rintro e w2 ⟨he, b2⟩
    rw [HS.out] at he
    subst he
    go_wp2
    go_ret
    exact ⟨by rw [HE.out]; rfl, b2⟩
  · have HE := Lib.hid (show depthF l = (dF l []).getD (l.length - 1) 0 by unfold depthF; rw [if_pos hs])
    have HS := Lib.hid hs
    have HAT := Lib.hid (fun i (hi : i < l.length) => (shape_at hs hi).2)
    obtain ⟨n, hln⟩ : ∃ n, l.length = n + 1 := ⟨l.length - 1, by have := (shape_yes hs).1; omega⟩
    have HLN := Lib.hid hln
    clear hs
    have HX := Lib.hid (impl_shape l a cap w hn HK.out HC.out)
    rw [hln] at hn HX ⊢
    clear hln
    have hmk : ∀ w : World, (Instr.makeSlice 31 (.int .i64 ((n : Int) + 1)) (.int .i64 ((n : Int) + 1))).run Tryz.prog w = .ok (.slice (some ⟨w.heap.size, 0, none⟩) (n + 1) (n + 1)) (w.alloc (.cells (madeCells #[.int .i64 0] (n + 1)) 3)) := fun w => by
      have := make_ints (n + 1) hn w
      rwa [show ((n + 1 : Nat) : Int) = (n : Int) + 1 by omega] at this
    go_enter Tryz.func29, Tryz.ntmps29
    go_wp2_with fail
    refine HX.out.mono ?_
    rintro e w2 ⟨he, b2⟩
    rw [HS.out] at he
    subst he
    have HB2 := Lib.hid b2
    have HO2 := Lib.hid (IBlk.zeros w2 (n + 1))
    have hgw : w.heap.size ≤ w2.heap.size := b2.size
    have HGW := Lib.hid hgw
    clear b2 hgw
    go_wp2
    obtain ⟨g, hg⟩ : ∃ g, g = w2.heap.size := ⟨_, rfl⟩
    rw [← hg] at HO2 HGW ⊢
    have HGG := Lib.hid hg
    clear hg
    go_loopw [16] (fun i wr => RelDi w.heap.size g (n + 1) w l i wr) (fun i _ => n + 1 - (intOf i).toNat)
    case atStart => exact ⟨0, [], by omega, by rw [pad_nil]; exact HO2.out, rfl, rfl, Deep.nil, by simp, HB2.out.alloc HB2.out.size _⟩
    case round =>
      obtain ⟨I, d, hI, hblk, rfl, hlen, hdeep, hst, hbel⟩ := hrel
      have HBLK := Lib.hid hblk
      have HDEEP := Lib.hid hdeep
      have HST := Lib.hid hst
      have HB := Lib.hid hbel
      have HLEN := Lib.hid hlen
      clear hdeep hst hbel hblk hlen
      by_cases hlt : I < n + 1
      · have hltl : I < l.length := by have := HLN.out; omega
        obtain ⟨b, o, rfl, hb, hcell⟩ := lies_at HC.out hltl
        obtain ⟨ak, ck, h5, hik⟩ := hcell I hltl
        obtain ⟨c0, c1, c2, c3, c4⟩ := h5.keep HB.out hb
        clear h5
        have HS1 := Lib.hid (dF_step hltl d)
        have HKK := Lib.hid (HK.out l[I] (List.getElem_mem hltl))
        have HKM := Lib.hid (HAT.out I hltl)
        obtain ⟨t, ht⟩ : ∃ t, t = l[I] := ⟨_, rfl⟩
        rw [← ht] at c0 c1 c2 c3 c4 hik HS1 HKK HKM
        have HIK := Lib.hid hik
        have hkl := HKK.out
        have hi1 : (I : Int) < (n : Int) + 1 := by omega
        have hi0 : (0 : Int) ≤ (I : Int) := by omega
        have hb0 := (Below.refl wr.heap.size wr).alloc (Nat.le_refl _) (.cells #[.int .i64 t.k, .int .i64 t.op, .string t.s, .string t.t, .slice ak t.kids.length ck] 36)
        have HB1 := Lib.hid (HB.out.trans (hb0.mono HB.out.size))
        have HBLK1 := Lib.hid (show IBlk (wr.alloc (.cells #[.int .i64 t.k, .int .i64 t.op, .string t.s, .string t.t, .slice ak t.kids.length ck] 36)) g (n + 1) (pad (d ++ [mx d (t.kids.take 0)]) (n + 1)) by
          have := HBLK.out.keep hb0 HBLK.out.lt
          rwa [pad_zero (by have := HLEN.out; omega)] at this)
        clear ht hcell hik hb0
        obtain ⟨wo, hwo⟩ : ∃ wo, wo = wr := ⟨_, rfl⟩
        rw [← hwo] at c0 c1 c2 c3 c4 HB HBLK HB1 HBLK1 ⊢
        clear hwo
        go_wp2
        go_loopw [24] (fun k wr => RelDj w.heap.size g (n + 1) w d t.kids k wr) (fun k _ => t.kids.length - (intOf k).toNat)
        case atStart => exact ⟨0, by omega, HBLK1.out, rfl, HB1.out⟩
        case round =>
          obtain ⟨J, hJ, hjb, rfl, hjbel⟩ := hrel
          have hml := mx_le HDEEP.out (t.kids.take J)
          rw [HLEN.out] at hml
          obtain ⟨M, hM⟩ : ∃ M, M = mx d (t.kids.take J) := ⟨_, rfl⟩
          have HM := Lib.hid hM
          rw [← hM] at hml hjb
          have HJB := Lib.hid hjb
          have HJ := Lib.hid hjbel
          have hpl : (pad (d ++ [M]) (n + 1)).length = n + 1 := pad_len (by have := HLEN.out; simp; omega)
          have cI := hjb.at I (by rw [hpl]; exact hlt)
          rw [pad_get (d := d ++ [M]) (by have := HLEN.out; simp; omega) (by have := HLEN.out; simp; omega), List.getElem_append_right (by have := HLEN.out; omega)] at cI
          simp only [HLEN.out, Nat.sub_self, List.getElem_cons_zero] at cI
          have fI := hjb.frozen I
          clear hM hjb hjbel
          by_cases hjt : J < t.kids.length
          · obtain ⟨bk, ok, rfl, hbk, hkc⟩ := ints_at (HIK.out.keep HJ.out (Nat.le_refl _)) hjt
            have d0 := hkc J hjt
            have HTK := Lib.hid (mx_step d hjt)
            have hmem := HKM.out _ (List.getElem_mem hjt)
            obtain ⟨y, hy⟩ : ∃ y, y = t.kids[J] := ⟨_, rfl⟩
            rw [← hy] at d0 HTK hmem
            obtain ⟨Y, rfl⟩ : ∃ Y : Nat, y = (Y : Int) := ⟨y.toNat, by omega⟩
            have hYd : Y < d.length := by have := HLEN.out; omega
            have hYI : Y < I := by omega
            obtain ⟨D, hD⟩ : ∃ D, D = d[Y]'hYd := ⟨_, rfl⟩
            have hDle : D ≤ Y + 1 := by rw [hD]; exact HDEEP.out Y hYd
            have HNX := Lib.hid (show mx d (t.kids.take (J + 1)) = max M D by
              rw [HTK.out, HM.out, hD]
              simp [hYd])
            have cY := HJB.out.at Y (by rw [hpl]; omega)
            rw [pad_get (d := d ++ [M]) (by simp; omega) (by have := HLEN.out; simp; omega), List.getElem_append_left hYd, ← hD] at cY
            have hy1 : (Y : Int) < (n : Int) + 1 := by omega
            have hy0 : (0 : Int) ≤ (Y : Int) := by omega
            have hj1 : (J : Int) < (t.kids.length : Int) := by omega
            have hj0 : (0 : Int) ≤ (J : Int) := by omega
            clear hy hkc hmem hD hYd hpl
            go_wp2
            go_region
            go_wp2
            go_roundw
            case rel =>
              have hv : (if M < D then (D : Int) else (M : Int)) = ((max M D : Nat) : Int) := by rw [Nat.max_def]; split <;> split <;> omega
              rw [hv]
              have hset := HJB.out.set I ((max M D : Nat) : Int)
              rw [← HLEN.out, pad_put, HLEN.out] at hset
              exact ⟨J + 1, by omega, by rw [HNX.out]; exact hset.of_block rfl, by go_num, (HJ.out.setCell (p := ⟨g, I, none⟩) HGW.out _).drew⟩
            case measure => simp [intOf]; omega
          · have HNEW := Lib.hid (show dF (l.drop (I + 1)) (d ++ [M + 1]) = dF l [] by
              rw [← HST.out, HS1.out, HM.out, List.take_of_length_le (by omega)])
            have HDN := Lib.hid (show Deep (d ++ [M + 1]) by rw [HM.out]; exact HDEEP.out.snoc _)
            have hj1 : ¬ (J : Int) < (t.kids.length : Int) := by omega
            clear hpl
            go_wp2
            go_roundw
            case rel =>
              have hset := HJB.out.set I ((M : Int) + 1)
              rw [← HLEN.out, show ((M : Int) + 1) = ((M + 1 : Nat) : Int) by omega, pad_put, HLEN.out] at hset
              exact ⟨I + 1, d ++ [M + 1], by omega, hset, by go_num, by simp [HLEN.out], HDN.out, HNEW.out, HJ.out.setCell (p := ⟨g, I, none⟩) HGW.out _⟩
            case measure => simp [intOf]; omega
      · obtain rfl : I = n + 1 := by omega
        have hnd : n < d.length := by have := HLEN.out; omega
        obtain ⟨D, hD⟩ : ∃ D, D = d[n]'hnd := ⟨_, rfl⟩
        have HR := Lib.hid (show depthF l = D by
          have h1 := HST.out
          rw [show l.drop (n + 1) = [] by rw [← HLN.out, List.drop_length]] at h1
          rw [HE.out, ← h1, HLN.out, hD]
          simp [dF, hnd])
        have c9 := HBLK.out.at n (by rw [pad_len (by have := HLEN.out; omega)]; omega)
        rw [pad_get hnd (by have := HLEN.out; omega), ← hD] at c9
        have i1 : (n : Int) < (n : Int) + 1 := by omega
        have i0 : (0 : Int) ≤ (n : Int) := by omega
        clear hD
        go_wp2
        go_ret
        exact ⟨by rw [HR.out]; rfl, HB.out⟩
end Go.Proofs.YtckeepjfbpphaaaGreatDoor.nd
