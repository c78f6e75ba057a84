/-
  Right trees: shape, depth, fields and kids; TreeOk, ExprOk, ProgramOk of both sides: contracts.
-/
import Derived.Test.YtckeepjfbpphaaaGreatDoorKid
import Derived.Test.YtckeepjfbpphaaaGreatDoorShapeSpec
import Derived.Test.YtckeepjfbpphaaaGreatDoorShapeImpl
import Derived.Test.YtckeepjfbpphaaaGreatDoorDepth
namespace Go.Proofs.YtckeepjfbpphaaaGreatDoor.rt
open Go.ChangeShapes Go.WideShapes Go.ChangeAt Go.RowKit
open spell (Held)
open nd
open tok (below_box)
set_option linter.unusedVariables false
set_option linter.unusedSimpArgs false

def nodeF (t : Nd) : Bool := fieldsOk t.k t.op t.s t.t t.kids.length
def kidAt (l : List Nd) (t : Nd) (p : Nat) : Bool := kid t.k t.op t.kids.length p (l.getD (t.kids.getD p 0).toNat default).k
def kidsTo (l : List Nd) (t : Nd) (J : Nat) : Bool := (List.range J).all (kidAt l t)
def nodeAt (l : List Nd) (i : Nat) : Bool := nodeF (l.getD i default) && kidsTo l (l.getD i default) (l.getD i default).kids.length
def nodesTo (l : List Nd) (I : Nat) : Bool := (List.range I).all (nodeAt l)
def treeOk (l : List Nd) : Bool := nd.shape l && decide (depthF l ≤ 40) && nodesTo l l.length
theorem kidsTo_step {l : List Nd} {t : Nd} {J : Nat} (h : kidsTo l t J = true) (h1 : kidAt l t J = true) : kidsTo l t (J + 1) = true := by
  unfold kidsTo at *
  rw [List.range_succ, List.all_append, h]
  simp [h1]
theorem kidsTo_dead {l : List Nd} {t : Nd} {J n : Nat} (hJ : J < n) (h1 : kidAt l t J = false) : kidsTo l t n = false := by
  unfold kidsTo
  rw [List.all_eq_false]
  exact ⟨J, List.mem_range.2 hJ, by rw [h1]; simp⟩
theorem nodesTo_step {l : List Nd} {I : Nat} (h : nodesTo l I = true) (h1 : nodeAt l I = true) : nodesTo l (I + 1) = true := by
  unfold nodesTo at *
  rw [List.range_succ, List.all_append, h]
  simp [h1]
theorem nodesTo_dead {l : List Nd} {I n : Nat} (hI : I < n) (h1 : nodeAt l I = false) : nodesTo l n = false := by
  unfold nodesTo
  rw [List.all_eq_false]
  exact ⟨I, List.mem_range.2 hI, by rw [h1]; simp⟩
theorem nodeAt_of {l : List Nd} {I : Nat} (hI : I < l.length) : nodeAt l I = (nodeF l[I] && kidsTo l l[I] l[I].kids.length) := by
  unfold nodeAt
  rw [List.getD_eq_getElem?_getD, List.getElem?_eq_getElem hI]
  rfl
theorem kidAt_of {l : List Nd} {t : Nd} {J K : Nat} (hJ : J < t.kids.length) (hK : t.kids[J] = (K : Int)) (hl : K < l.length) : kidAt l t J = kid t.k t.op t.kids.length J l[K].k := by
  have e1 : t.kids.getD J 0 = (K : Int) := by rw [List.getD_eq_getElem?_getD, List.getElem?_eq_getElem hJ, Option.getD_some, hK]
  have e2 : l.getD K default = l[K] := by rw [List.getD_eq_getElem?_getD, List.getElem?_eq_getElem hl]; rfl
  unfold kidAt
  rw [e1, Int.toNat_natCast, e2]
theorem mem_tot {l : List Nd} {t : Nd} (h : t ∈ l) : t.s.size + t.t.size + t.kids.length ≤ tot l := by
  obtain ⟨i, hi, rfl⟩ := List.mem_iff_getElem.1 h
  exact sz_le hi

/-- A node's five cells, a kid's number and the kid's kind, read below B; nothing below it has turned. -/
def Rk (w : World) (b o : Nat) (t : Nd) (ak : Option Addr) (ck bk oj : Nat) (K : Int) (oK : Nat) (q : Int) (W : World) : Prop :=
  (W.cell? ⟨b, o, none⟩ = some (.int .i64 t.k) ∧ W.cell? ⟨b, o + 1, none⟩ = some (.int .i64 t.op) ∧ W.cell? ⟨b, o + 2, none⟩ = some (.string t.s) ∧ W.cell? ⟨b, o + 3, none⟩ = some (.string t.t) ∧ W.cell? ⟨b, o + 4, none⟩ = some (.slice ak t.kids.length ck) ∧ W.cell? ⟨bk, oj, none⟩ = some (.int .i64 K) ∧ W.cell? ⟨b, oK, none⟩ = some (.int .i64 q)) ∧ Below w.heap.size w W ∧ w.heap.size ≤ W.heap.size
theorem Rk.drew {w W : World} {b o : Nat} {t : Nd} {ak : Option Addr} {ck bk oj : Nat} {K : Int} {oK : Nat} {q : Int} (h : Rk w b o t ak ck bk oj K oK q W) : Rk w b o t ak ck bk oj K oK q W.drew := ⟨h.1, h.2.1.drew, h.2.2⟩
theorem Rk.keep {w W w1 : World} {b o : Nat} {t : Nd} {ak : Option Addr} {ck bk oj : Nat} {K : Int} {oK : Nat} {q : Int} (hb : b < w.heap.size) (hbk : bk < w.heap.size) (h : Rk w b o t ak ck bk oj K oK q W) (hk : Below W.heap.size W w1) : Rk w b o t ak ck bk oj K oK q w1 := by
  have hb' : b < W.heap.size := Nat.lt_of_lt_of_le hb h.2.2
  have hbk' : bk < W.heap.size := Nat.lt_of_lt_of_le hbk h.2.2
  exact ⟨⟨(hk.cell (p := ⟨b, o, none⟩) hb').trans h.1.1, (hk.cell (p := ⟨b, o + 1, none⟩) hb').trans h.1.2.1, (hk.cell (p := ⟨b, o + 2, none⟩) hb').trans h.1.2.2.1, (hk.cell (p := ⟨b, o + 3, none⟩) hb').trans h.1.2.2.2.1, (hk.cell (p := ⟨b, o + 4, none⟩) hb').trans h.1.2.2.2.2.1, (hk.cell (p := ⟨bk, oj, none⟩) hbk').trans h.1.2.2.2.2.2.1, (hk.cell (p := ⟨b, oK, none⟩) hb').trans h.1.2.2.2.2.2.2⟩, h.2.1.trans (hk.mono h.2.2), Nat.le_trans h.2.2 hk.size⟩

def RelTi (w : World) (l : List Nd) (i : Value) (wr : World) : Prop :=
  ∃ I : Nat, I ≤ l.length ∧ i = .int .i64 (I : Int) ∧ nodesTo l I = true ∧ Below w.heap.size w wr
def RelTk (w : World) (l : List Nd) (t : Nd) (k : Value) (wr : World) : Prop :=
  ∃ J : Nat, J ≤ t.kids.length ∧ k = .int .i64 (J : Int) ∧ kidsTo l t J = true ∧ Below w.heap.size w wr

set_option maxRecDepth 20000 in
set_option maxHeartbeats 3200000 in
theorem spec_tree (l : List Nd) (a : Option Addr) (cap : Nat) (w : World) (hn : l.length ≤ 1048576) (hk : ∀ t ∈ l, t.kids.length ≤ 1048576) (hs : ∀ t ∈ l, t.s.size ≤ 1048576 ∧ t.t.size ≤ 1048576) (hc : Lies w.heap.size w a l) :
    Calls Tryz.prog 12 #[.slice a l.length cap] w fun e w' => e = .returned (.bool (treeOk l)) ∧ Below w.heap.size w w' := by
  have HC := Lib.hid hc
  have HK := Lib.hid hk
  have HS := Lib.hid hs
  have HN := Lib.hid hn
  clear hc hk hs
  cases hsh : nd.shape l
  · have HE := Lib.hid (show treeOk l = false by unfold treeOk; rw [hsh]; rfl)
    go_enter Tryz.func12, Tryz.ntmps12
    go_wp2_with fail
    refine (spec_shape l a cap _ hn HK.out HC.out).mono ?_
    rw [hsh]
    rintro e w1 ⟨rfl, b1⟩
    go_wp2
    go_ret
    exact ⟨by rw [HE.out]; rfl, b1⟩
  have HSH := Lib.hid hsh
  by_cases hd : 40 < depthF l
  · have HE := Lib.hid (show treeOk l = false by unfold treeOk; rw [decide_eq_false (by omega), Bool.and_false]; rfl)
    obtain ⟨D, hD⟩ : ∃ D, D = depthF l := ⟨_, rfl⟩
    rw [← hD] at hd
    have HD := Lib.hid hD
    have hd1 : 40 < (D : Int) := by omega
    clear hD hd
    go_enter Tryz.func12, Tryz.ntmps12
    go_wp2_with fail
    refine (spec_shape l a cap _ hn HK.out HC.out).mono ?_
    rw [HSH.out]
    rintro e w1 ⟨rfl, b1⟩
    go_wp2_with fail
    refine (spec_depth l a cap _ HN.out HK.out (HC.out.on b1 (Nat.le_refl _))).mono ?_
    rw [← HD.out]
    rintro e w2 ⟨rfl, b2⟩
    go_wp2
    go_ret
    exact ⟨by rw [HE.out]; rfl, b1.trans (b2.mono b1.size)⟩
  have HE := Lib.hid (show treeOk l = nodesTo l l.length by unfold treeOk; rw [hsh, decide_eq_true (by omega)]; rfl)
  have HAT := Lib.hid (fun i (hi : i < l.length) => (shape_at hsh hi).2)
  obtain ⟨D, hD⟩ : ∃ D, D = depthF l := ⟨_, rfl⟩
  rw [← hD] at hd
  have HD := Lib.hid hD
  have hd1 : ¬ 40 < (D : Int) := by omega
  obtain ⟨n, hln⟩ : ∃ n, n = l.length := ⟨_, rfl⟩
  have HLN := Lib.hid hln
  have HX := Lib.hid (spec_shape l a cap w hn HK.out HC.out)
  have HX2 := Lib.hid (fun w1 (b1 : Below w.heap.size w w1) => spec_depth l a cap w1 HN.out HK.out (HC.out.on b1 (Nat.le_refl _)))
  rw [← hln] at hn HX HX2 ⊢
  clear hD hd hsh hln
  go_enter Tryz.func12, Tryz.ntmps12
  go_wp2_with fail
  refine HX.out.mono ?_
  rw [HSH.out]
  rintro e w1 ⟨rfl, b1⟩
  go_wp2_with fail
  refine (HX2.out _ b1).mono ?_
  rw [← HD.out]
  rintro e w2 ⟨rfl, b2⟩
  have HB2 := Lib.hid (b1.trans (b2.mono b1.size))
  clear b1 b2
  go_wp2
  go_loopw [3] (fun i wr => RelTi w l i wr) (fun i _ => n - (intOf i).toNat)
  case atStart => exact ⟨0, by omega, rfl, rfl, HB2.out⟩
  case round =>
    obtain ⟨I, hI, rfl, hto, hbel⟩ := hrel
    have HTO := Lib.hid hto
    have HB := Lib.hid hbel
    rw [← HLN.out] at hI
    clear hto hbel
    by_cases hlt : I < n
    · have hltl : I < l.length := by have := HLN.out; omega
      obtain ⟨b, o, rfl, hb, hcell⟩ := nd.lies_at HC.out hltl
      have HCELL := Lib.hid hcell
      obtain ⟨ak, ck, ⟨c0, c1, c2, c3, c4⟩, hik⟩ := (hcell I hltl).keep HB.out (Nat.le_refl _) hb
      have HAT0 := Lib.hid (hcell I hltl)
      have HNA := Lib.hid (nodeAt_of hltl)
      have HKK := Lib.hid (HK.out l[I] (List.getElem_mem hltl))
      have HSS := Lib.hid (HS.out l[I] (List.getElem_mem hltl))
      have HKM := Lib.hid (HAT.out I hltl)
      obtain ⟨t, ht⟩ : ∃ t, t = l[I] := ⟨_, rfl⟩
      rw [← ht] at c0 c1 c2 c3 c4 hik HNA HKK HSS HKM HAT0
      have HTL := Lib.hid ht
      have HIK := Lib.hid hik
      have hkl := HKK.out
      have hi1 : (I : Int) < (n : Int) := by omega
      have hi0 : (0 : Int) ≤ (I : Int) := by omega
      clear ht hcell hik
      cases hf : nodeF t
      · have HDD := Lib.hid (nodesTo_dead hltl (HNA.out.trans (by rw [hf]; rfl)))
        go_wp2_with fail
        refine (spec_fields t.k t.op t.s t.t ak t.kids.length ck _ HSS.out.1 HSS.out.2 HKK.out).mono ?_
        rw [show fieldsOk t.k t.op t.s t.t t.kids.length = false from hf]
        rintro e w3 ⟨rfl, b3⟩
        go_wp2
        go_ret
        exact ⟨by rw [HE.out, HDD.out]; rfl, HB.out.trans (b3.mono HB.out.size)⟩
      · have HF := Lib.hid hf
        go_wp2_with fail
        refine (spec_fields t.k t.op t.s t.t ak t.kids.length ck _ HSS.out.1 HSS.out.2 HKK.out).mono ?_
        rw [show fieldsOk t.k t.op t.s t.t t.kids.length = true from hf]
        rintro e w3 ⟨rfl, b3⟩
        have HB3 := Lib.hid (HB.out.trans (b3.mono HB.out.size))
        clear c0 c1 c2 c3 c4 b3 hf
        go_wp2
        go_loopw [4] (fun k wr2 => RelTk w l t k wr2) (fun k _ => t.kids.length - (intOf k).toNat)
        case atStart => exact ⟨0, by omega, rfl, rfl, HB3.out⟩
        case round =>
          obtain ⟨J, hJ, rfl, hkt, hbel2⟩ := hrel
          have HKT := Lib.hid hkt
          have HB4 := Lib.hid hbel2
          clear hkt hbel2
          obtain ⟨ak2, ck2, ⟨c0, c1, c2, c3, c4⟩, hik⟩ := HAT0.out.keep HB4.out (Nat.le_refl _) hb
          by_cases hjt : J < t.kids.length
          · obtain ⟨bk, ok, rfl, hbk, hkc⟩ := nd.ints_at hik hjt
            have d0 := hkc J hjt
            have hmem := HKM.out _ (List.getElem_mem hjt)
            obtain ⟨y, hy⟩ : ∃ y, y = t.kids[J] := ⟨_, rfl⟩
            rw [← hy] at d0 hmem
            obtain ⟨K, rfl⟩ : ∃ K : Nat, y = (K : Int) := ⟨y.toNat, by omega⟩
            have hKl : K < l.length := by omega
            have HKA := Lib.hid (kidAt_of hjt hy.symm hKl)
            obtain ⟨_, _, ⟨e0, -⟩, -⟩ := (HCELL.out K hKl).keep HB4.out (Nat.le_refl _) hb
            obtain ⟨q, hq⟩ : ∃ q, q = l[K].k := ⟨_, rfl⟩
            rw [← hq] at e0 HKA
            have HR := Lib.hid (show Rk w b (o + I * 5) t (some ⟨bk, ok, none⟩) ck2 bk (ok + J) (K : Int) (o + K * 5) q wr from ⟨⟨c0, c1, c2, c3, c4, d0, e0⟩, HB4.out, HB4.out.size⟩)
            have hj1 : (J : Int) < (t.kids.length : Int) := by omega
            have hj0 : (0 : Int) ≤ (J : Int) := by omega
            have hK1 : (K : Int) < (n : Int) := by have := HLN.out; omega
            have hK0 : (0 : Int) ≤ (K : Int) := by omega
            clear hy hq hkc hik hmem c0 c1 c2 c3 d0 e0
            cases hkk : kid t.k t.op t.kids.length J q
            · have HDD := Lib.hid (nodesTo_dead hltl (HNA.out.trans (by rw [kidsTo_dead hjt (HKA.out.trans hkk), Bool.and_false])))
              have HQ := Lib.hid hkk
              clear hkk
              go_wp2
              go_region_held3 (fun w' => (w'.cell? ⟨b, o + I * 5, none⟩ = some (.int .i64 t.k) ∧ w'.cell? ⟨b, o + I * 5 + 1, none⟩ = some (.int .i64 t.op) ∧ w'.cell? ⟨b, o + I * 5 + 2, none⟩ = some (.string t.s) ∧ w'.cell? ⟨b, o + I * 5 + 3, none⟩ = some (.string t.t) ∧ w'.cell? ⟨b, o + I * 5 + 4, none⟩ = some (.slice (some ⟨bk, ok, none⟩) t.kids.length ck2) ∧ w'.cell? ⟨bk, ok + J, none⟩ = some (.int .i64 (K : Int)) ∧ w'.cell? ⟨b, o + K * 5, none⟩ = some (.int .i64 q)) ∧ (Below w.heap.size w w' ∧ w.heap.size ≤ w'.heap.size))
                (first | exact HR.out | exact HR.out.drew | exact Rk.keep hb hbk (by assumption) (by assumption) | exact Rk.drew (by assumption))
                (first | (go_at_call 25; refine (spec_kid t.k t.op t.s t.t _ t.kids.length ck2 J _ hkl q hj0).mono ?_; rw [HQ.out]; rintro e w5 ⟨rfl, b5⟩))
              have HBZ := Lib.hid (by assumption : _ ∧ (Below w.heap.size w _ ∧ _)).2.1
              go_wp2
              go_ret
              exact ⟨by rw [HE.out, HDD.out]; rfl, HBZ.out⟩
            · have HST := Lib.hid (kidsTo_step HKT.out (HKA.out.trans hkk))
              have HQ := Lib.hid hkk
              clear hkk
              go_wp2
              go_region_held3 (fun w' => (w'.cell? ⟨b, o + I * 5, none⟩ = some (.int .i64 t.k) ∧ w'.cell? ⟨b, o + I * 5 + 1, none⟩ = some (.int .i64 t.op) ∧ w'.cell? ⟨b, o + I * 5 + 2, none⟩ = some (.string t.s) ∧ w'.cell? ⟨b, o + I * 5 + 3, none⟩ = some (.string t.t) ∧ w'.cell? ⟨b, o + I * 5 + 4, none⟩ = some (.slice (some ⟨bk, ok, none⟩) t.kids.length ck2) ∧ w'.cell? ⟨bk, ok + J, none⟩ = some (.int .i64 (K : Int)) ∧ w'.cell? ⟨b, o + K * 5, none⟩ = some (.int .i64 q)) ∧ (Below w.heap.size w w' ∧ w.heap.size ≤ w'.heap.size))
                (first | exact HR.out | exact HR.out.drew | exact Rk.keep hb hbk (by assumption) (by assumption) | exact Rk.drew (by assumption))
                (first | (go_at_call 25; refine (spec_kid t.k t.op t.s t.t _ t.kids.length ck2 J _ hkl q hj0).mono ?_; rw [HQ.out]; rintro e w5 ⟨rfl, b5⟩))
              have HBZ := Lib.hid (by assumption : _ ∧ (Below w.heap.size w _ ∧ _)).2.1
              go_wp2
              go_roundw
              case rel => exact ⟨J + 1, by omega, by go_num, HST.out, HBZ.out⟩
              case measure => simp [intOf]; omega
          · obtain rfl : J = t.kids.length := by omega
            have HNX := Lib.hid (nodesTo_step HTO.out (HNA.out.trans (by rw [HF.out, HKT.out]; rfl)))
            go_wp2
            go_roundw
            case rel => exact ⟨I + 1, by have := HLN.out; omega, by go_num, HNX.out, HB4.out⟩
            case measure => simp [intOf]; omega
    · obtain rfl : I = n := by omega
      have HDD := Lib.hid (show nodesTo l l.length = true by rw [← HLN.out]; exact HTO.out)
      go_wp2
      go_ret
      exact ⟨by rw [HE.out, HDD.out]; rfl, HB.out⟩

theorem Bx.drew {w W : World} {k op : Int} {s t : ByteArray} {v : Value} (h : Bx w W k op s t v) : Bx w W.drew k op s t v := ⟨h.c0, h.c1, h.c2, h.c3, h.c4, h.b.drew, h.lt⟩
def Rb (w : World) (b oK : Nat) (q k op : Int) (s t : ByteArray) (v : Value) (W : World) : Prop :=
  ((W.cell? ⟨w.heap.size, 0, none⟩ = some (.int .i64 k) ∧ W.cell? ⟨w.heap.size, 1, none⟩ = some (.int .i64 op) ∧ W.cell? ⟨w.heap.size, 2, none⟩ = some (.string s) ∧ W.cell? ⟨w.heap.size, 3, none⟩ = some (.string t) ∧ W.cell? ⟨w.heap.size, 4, none⟩ = some v) ∧ W.cell? ⟨b, oK, none⟩ = some (.int .i64 q)) ∧ Bx w W k op s t v
theorem Rb.of {w W : World} {b oK : Nat} {q k op : Int} {s t : ByteArray} {v : Value} (hb : b < w.heap.size) (h : w.cell? ⟨b, oK, none⟩ = some (.int .i64 q)) (hx : Bx w W k op s t v) : Rb w b oK q k op s t v W :=
  ⟨⟨⟨hx.c0, hx.c1, hx.c2, hx.c3, hx.c4⟩, (hx.b.cell (p := ⟨b, oK, none⟩) hb).trans h⟩, hx⟩
def RelIk (w : World) (l : List Nd) (t : Nd) (v : Value) (k : Value) (wr : World) : Prop :=
  ∃ J : Nat, J ≤ t.kids.length ∧ k = .int .i64 (J : Int) ∧ kidsTo l t J = true ∧ Bx w wr t.k t.op t.s t.t v

set_option maxRecDepth 20000 in
set_option maxHeartbeats 3200000 in
theorem impl_kids (l : List Nd) (a : Option Addr) (cap : Nat) (t : Nd) (ak : Option Addr) (ck : Nat) (w : World) (hn : l.length ≤ 1048576) (hkl : t.kids.length ≤ 1048576) (hc : Lies w.heap.size w a l) (hik : Ints w.heap.size w ak t.kids)
    (hkm : ∀ k ∈ t.kids, 0 ≤ k ∧ k < (l.length : Int)) (hf : nodeF t = true) :
    Calls Tryz.prog 31 #[.slice a l.length cap, .agg #[.int .i64 t.k, .int .i64 t.op, .string t.s, .string t.t, .slice ak t.kids.length ck]] w fun e w' => e = .returned (.bool (kidsTo l t t.kids.length)) ∧ Below w.heap.size w w' := by
  have HC := Lib.hid hc
  have HIK := Lib.hid hik
  have HKM := Lib.hid hkm
  have HF := Lib.hid (show fieldsOk t.k t.op t.s t.t t.kids.length = true from hf)
  have HX0 := Lib.hid (Bx.start w t.k t.op t.s t.t (.slice ak t.kids.length ck) 36)
  obtain ⟨n, hln⟩ : ∃ n, n = l.length := ⟨_, rfl⟩
  have HLN := Lib.hid hln
  rw [← hln] at hn ⊢
  clear hc hik hkm hf hln
  go_enter Tryz.func31, Tryz.ntmps31
  go_wp2
  go_loopw [10] (fun k wr => RelIk w l t (.slice ak t.kids.length ck) k wr) (fun k _ => t.kids.length - (intOf k).toNat)
  case atStart => exact ⟨0, by omega, rfl, rfl, HX0.out⟩
  case round =>
    obtain ⟨J, hJ, rfl, hkt, hx⟩ := hrel
    have HKT := Lib.hid hkt
    have HX := Lib.hid hx
    clear hkt hx
    by_cases hjt : J < t.kids.length
    · obtain ⟨bk, ok, rfl, hbk, hkc⟩ := nd.ints_at HIK.out hjt
      have d0 := (HX.out.b.cell (p := ⟨bk, ok + J, none⟩) hbk).trans (hkc J hjt)
      have hmem := HKM.out _ (List.getElem_mem hjt)
      obtain ⟨y, hy⟩ : ∃ y, y = t.kids[J] := ⟨_, rfl⟩
      rw [← hy] at d0 hmem
      obtain ⟨K, rfl⟩ : ∃ K : Nat, y = (K : Int) := ⟨y.toNat, by omega⟩
      have hKl : K < l.length := by omega
      have HKA := Lib.hid (kidAt_of hjt hy.symm hKl)
      obtain ⟨b, o, rfl, hb, hcell⟩ := nd.lies_at HC.out hKl
      obtain ⟨_, _, ⟨e0, -⟩, -⟩ := hcell K hKl
      obtain ⟨q, hq⟩ : ∃ q, q = l[K].k := ⟨_, rfl⟩
      rw [← hq] at e0 HKA
      have HE0 := Lib.hid e0
      have hj1 : (J : Int) < (t.kids.length : Int) := by omega
      have hj0 : (0 : Int) ≤ (J : Int) := by omega
      have hK1 : (K : Int) < (n : Int) := by have := HLN.out; omega
      have hK0 : (0 : Int) ≤ (K : Int) := by omega
      have HQE := Lib.hid (kid_eq (q := q) HF.out hj0 hj1)
      clear hy hq hkc hmem e0 hcell
      cases hkk : kid t.k t.op t.kids.length J q
      · have HDD := Lib.hid (kidsTo_dead hjt (HKA.out.trans hkk))
        have HQ := Lib.hid (HQE.out.trans hkk)
        clear hkk
        go_wp2
        go_region_held3 (fun w' => ((w'.cell? ⟨w.heap.size, 0, none⟩ = some (.int .i64 t.k) ∧ w'.cell? ⟨w.heap.size, 1, none⟩ = some (.int .i64 t.op) ∧ w'.cell? ⟨w.heap.size, 2, none⟩ = some (.string t.s) ∧ w'.cell? ⟨w.heap.size, 3, none⟩ = some (.string t.t) ∧ w'.cell? ⟨w.heap.size, 4, none⟩ = some (.slice (some ⟨bk, ok, none⟩) t.kids.length ck)) ∧ w'.cell? ⟨b, o + K * 5, none⟩ = some (.int .i64 q)) ∧ Bx w w' t.k t.op t.s t.t (.slice (some ⟨bk, ok, none⟩) t.kids.length ck))
          (first | exact Rb.of hb HE0.out HX.out | exact Rb.of hb HE0.out HX.out.drew | exact Rb.of hb HE0.out ((by assumption : _ ∧ Bx _ _ _ _ _ _ _).2.keep (by assumption)) | exact Rb.of hb HE0.out (by assumption : _ ∧ Bx _ _ _ _ _ _ _).2.drew)
          (first | (go_at_call 48; refine (impl_kidW t.k t.op t.s t.t _ t.kids.length ck J _ hkl q).mono ?_; rw [HQ.out]; rintro e w5 ⟨rfl, b5⟩))
        have HBZ := Lib.hid (by assumption : _ ∧ Bx w _ _ _ _ _ _).2
        go_wp2
        go_ret
        exact ⟨by rw [HDD.out]; rfl, HBZ.out.b⟩
      · have HST := Lib.hid (kidsTo_step HKT.out (HKA.out.trans hkk))
        have HQ := Lib.hid (HQE.out.trans hkk)
        clear hkk
        go_wp2
        go_region_held3 (fun w' => ((w'.cell? ⟨w.heap.size, 0, none⟩ = some (.int .i64 t.k) ∧ w'.cell? ⟨w.heap.size, 1, none⟩ = some (.int .i64 t.op) ∧ w'.cell? ⟨w.heap.size, 2, none⟩ = some (.string t.s) ∧ w'.cell? ⟨w.heap.size, 3, none⟩ = some (.string t.t) ∧ w'.cell? ⟨w.heap.size, 4, none⟩ = some (.slice (some ⟨bk, ok, none⟩) t.kids.length ck)) ∧ w'.cell? ⟨b, o + K * 5, none⟩ = some (.int .i64 q)) ∧ Bx w w' t.k t.op t.s t.t (.slice (some ⟨bk, ok, none⟩) t.kids.length ck))
          (first | exact Rb.of hb HE0.out HX.out | exact Rb.of hb HE0.out HX.out.drew | exact Rb.of hb HE0.out ((by assumption : _ ∧ Bx _ _ _ _ _ _ _).2.keep (by assumption)) | exact Rb.of hb HE0.out (by assumption : _ ∧ Bx _ _ _ _ _ _ _).2.drew)
          (first | (go_at_call 48; refine (impl_kidW t.k t.op t.s t.t _ t.kids.length ck J _ hkl q).mono ?_; rw [HQ.out]; rintro e w5 ⟨rfl, b5⟩))
        have HBZ := Lib.hid (by assumption : _ ∧ Bx w _ _ _ _ _ _).2
        go_wp2
        go_roundw
        case rel => exact ⟨J + 1, by omega, by go_num, HST.out, HBZ.out⟩
        case measure => simp [intOf]; omega
    · obtain rfl : J = t.kids.length := by omega
      go_wp2
      go_ret
      exact ⟨by rw [HKT.out]; rfl, HX.out.b⟩

set_option maxRecDepth 20000 in
set_option maxHeartbeats 3200000 in
theorem impl_tree (l : List Nd) (a : Option Addr) (cap : Nat) (w : World) (hn : l.length ≤ 1048576) (hk : ∀ t ∈ l, t.kids.length ≤ 1048576) (hs : ∀ t ∈ l, t.s.size ≤ 1048576 ∧ t.t.size ≤ 1048576) (hc : Lies w.heap.size w a l) (hh : Held w) :
    Calls Tryz.prog 15 #[.slice a l.length cap] w fun e w' => e = .returned (.bool (treeOk l)) ∧ Below w.heap.size w w' := by
  have HC := Lib.hid hc
  have HK := Lib.hid hk
  have HS := Lib.hid hs
  have HN := Lib.hid hn
  have HH := Lib.hid hh
  clear hc hk hs hh
  cases hsh : nd.shape l
  · have HE := Lib.hid (show treeOk l = false by unfold treeOk; rw [hsh]; rfl)
    go_enter Tryz.func15, Tryz.ntmps15
    go_wp2_with fail
    refine (impl_shape l a cap _ hn HK.out HC.out).mono ?_
    rw [hsh]
    rintro e w1 ⟨rfl, b1⟩
    go_wp2
    go_ret
    exact ⟨by rw [HE.out]; rfl, b1⟩
  have HSH := Lib.hid hsh
  by_cases hd : 40 < depthF l
  · have HE := Lib.hid (show treeOk l = false by unfold treeOk; rw [decide_eq_false (by omega), Bool.and_false]; rfl)
    obtain ⟨D, hD⟩ : ∃ D, D = depthF l := ⟨_, rfl⟩
    rw [← hD] at hd
    have HD := Lib.hid hD
    have hd1 : 40 < (D : Int) := by omega
    clear hD hd
    go_enter Tryz.func15, Tryz.ntmps15
    go_wp2_with fail
    refine (impl_shape l a cap _ hn HK.out HC.out).mono ?_
    rw [HSH.out]
    rintro e w1 ⟨rfl, b1⟩
    go_wp2_with fail
    refine (impl_depth l a cap _ HN.out HK.out (HC.out.on b1 (Nat.le_refl _))).mono ?_
    rw [← HD.out]
    rintro e w2 ⟨rfl, b2⟩
    go_wp2
    go_ret
    exact ⟨by rw [HE.out]; rfl, b1.trans (b2.mono b1.size)⟩
  have HE := Lib.hid (show treeOk l = nodesTo l l.length by unfold treeOk; rw [hsh, decide_eq_true (by omega)]; rfl)
  have HAT := Lib.hid (fun i (hi : i < l.length) => (shape_at hsh hi).2)
  obtain ⟨D, hD⟩ : ∃ D, D = depthF l := ⟨_, rfl⟩
  rw [← hD] at hd
  have HD := Lib.hid hD
  have hd1 : ¬ 40 < (D : Int) := by omega
  obtain ⟨n, hln⟩ : ∃ n, n = l.length := ⟨_, rfl⟩
  have HLN := Lib.hid hln
  have HX := Lib.hid (impl_shape l a cap w hn HK.out HC.out)
  have HX2 := Lib.hid (fun w1 (b1 : Below w.heap.size w w1) => impl_depth l a cap w1 HN.out HK.out (HC.out.on b1 (Nat.le_refl _)))
  rw [← hln] at hn HX HX2 ⊢
  clear hD hd hsh hln
  go_enter Tryz.func15, Tryz.ntmps15
  go_wp2_with fail
  refine HX.out.mono ?_
  rw [HSH.out]
  rintro e w1 ⟨rfl, b1⟩
  go_wp2_with fail
  refine (HX2.out _ b1).mono ?_
  rw [← HD.out]
  rintro e w2 ⟨rfl, b2⟩
  have HB2 := Lib.hid (b1.trans (b2.mono b1.size))
  clear b1 b2
  go_wp2
  go_loopw [15] (fun i wr => RelTi w l i wr) (fun i _ => n - (intOf i).toNat)
  case atStart => exact ⟨0, by omega, rfl, rfl, HB2.out⟩
  case round =>
    obtain ⟨I, hI, rfl, hto, hbel⟩ := hrel
    have HTO := Lib.hid hto
    have HB := Lib.hid hbel
    rw [← HLN.out] at hI
    clear hto hbel
    by_cases hlt : I < n
    · have hltl : I < l.length := by have := HLN.out; omega
      obtain ⟨b, o, rfl, hb, hcell⟩ := nd.lies_at HC.out hltl
      have HCELL := Lib.hid hcell
      obtain ⟨ak, ck, ⟨c0, c1, c2, c3, c4⟩, hik⟩ := (hcell I hltl).keep HB.out (Nat.le_refl _) hb
      have HAT0 := Lib.hid (hcell I hltl)
      have HNA := Lib.hid (nodeAt_of hltl)
      have HKK := Lib.hid (HK.out l[I] (List.getElem_mem hltl))
      have HSS := Lib.hid (HS.out l[I] (List.getElem_mem hltl))
      have HKM := Lib.hid (HAT.out I hltl)
      obtain ⟨t, ht⟩ : ∃ t, t = l[I] := ⟨_, rfl⟩
      rw [← ht] at c0 c1 c2 c3 c4 hik HNA HKK HSS HKM HAT0
      have HTL := Lib.hid ht
      have HIK := Lib.hid hik
      have hkl := HKK.out
      have hi1 : (I : Int) < (n : Int) := by omega
      have hi0 : (0 : Int) ≤ (I : Int) := by omega
      clear ht hcell hik
      have HX0 := Lib.hid (Bx.start wr t.k t.op t.s t.t (.slice ak t.kids.length ck) 36)
      cases hf : nodeF t
      · have HDD := Lib.hid (nodesTo_dead hltl (HNA.out.trans (by rw [hf]; rfl)))
        go_wp2_with fail
        refine (impl_fields t.k t.op t.s t.t ak t.kids.length ck _ HSS.out.1 HSS.out.2 HKK.out (HH.out.below (HB.out.trans (HX0.out.b.mono HB.out.size)))).mono ?_
        rw [show fieldsOk t.k t.op t.s t.t t.kids.length = false from hf]
        rintro e w3 ⟨rfl, b3⟩
        have HX3 := Lib.hid (HX0.out.keep b3)
        go_wp2
        go_ret
        exact ⟨by rw [HE.out, HDD.out]; rfl, HB.out.trans (HX3.out.b.mono HB.out.size)⟩
      have HF := Lib.hid hf
      clear hf
      cases hkk : kidsTo l t t.kids.length
      · have HDD := Lib.hid (nodesTo_dead hltl (HNA.out.trans (by rw [hkk, Bool.and_false])))
        go_wp2_with fail
        refine (impl_fields t.k t.op t.s t.t ak t.kids.length ck _ HSS.out.1 HSS.out.2 HKK.out (HH.out.below (HB.out.trans (HX0.out.b.mono HB.out.size)))).mono ?_
        rw [show fieldsOk t.k t.op t.s t.t t.kids.length = true from HF.out]
        rintro e w3 ⟨rfl, b3⟩
        have HX3 := Lib.hid (HX0.out.keep b3)
        have HB3 := Lib.hid (HB.out.trans (HX3.out.b.mono HB.out.size))
        obtain ⟨x0, x1, x2, x3, x4, -, -⟩ := HX3.out
        go_wp2_with fail
        have HK3 := impl_kids l (some ⟨b, o, none⟩) cap t ak ck w3 HN.out HKK.out (HC.out.on HB3.out (Nat.le_refl _)) (((HIK.out.keep HX3.out.b HB.out.size).up (Nat.le_trans HB.out.size HX3.out.b.size))) (fun k hk => ⟨(HKM.out k hk).1, by have := (HKM.out k hk).2; omega⟩) HF.out
        rw [← HLN.out] at HK3
        refine HK3.mono ?_
        clear HK3
        rw [hkk]
        rintro e w4 ⟨rfl, b4⟩
        go_wp2
        go_ret
        exact ⟨by rw [HE.out, HDD.out]; rfl, HB3.out.trans (b4.mono HB3.out.size)⟩
      · have HNX := Lib.hid (nodesTo_step HTO.out (HNA.out.trans (by rw [HF.out, hkk]; rfl)))
        go_wp2_with fail
        refine (impl_fields t.k t.op t.s t.t ak t.kids.length ck _ HSS.out.1 HSS.out.2 HKK.out (HH.out.below (HB.out.trans (HX0.out.b.mono HB.out.size)))).mono ?_
        rw [show fieldsOk t.k t.op t.s t.t t.kids.length = true from HF.out]
        rintro e w3 ⟨rfl, b3⟩
        have HX3 := Lib.hid (HX0.out.keep b3)
        have HB3 := Lib.hid (HB.out.trans (HX3.out.b.mono HB.out.size))
        obtain ⟨x0, x1, x2, x3, x4, -, -⟩ := HX3.out
        go_wp2_with fail
        have HK3 := impl_kids l (some ⟨b, o, none⟩) cap t ak ck w3 HN.out HKK.out (HC.out.on HB3.out (Nat.le_refl _)) (((HIK.out.keep HX3.out.b HB.out.size).up (Nat.le_trans HB.out.size HX3.out.b.size))) (fun k hk => ⟨(HKM.out k hk).1, by have := (HKM.out k hk).2; omega⟩) HF.out
        rw [← HLN.out] at HK3
        refine HK3.mono ?_
        clear HK3
        rw [hkk]
        rintro e w4 ⟨rfl, b4⟩
        have HB4 := Lib.hid (HB3.out.trans (b4.mono HB3.out.size))
        go_wp2
        go_roundw
        case rel => exact ⟨I + 1, by have := HLN.out; omega, by go_num, HNX.out, HB4.out⟩
        case measure => simp [intOf]; omega
    · obtain rfl : I = n := by omega
      have HDD := Lib.hid (show nodesTo l l.length = true by rw [← HLN.out]; exact HTO.out)
      go_wp2
      go_ret
      exact ⟨by rw [HE.out, HDD.out]; rfl, HB.out⟩

def lastK (l : List Nd) : Int := (l.getD (l.length - 1) default).k
def exprOk (l : List Nd) : Bool := treeOk l && isExpr (lastK l)
def progOk (l : List Nd) : Bool := treeOk l && (lastK l == 45)

end Go.Proofs.YtckeepjfbpphaaaGreatDoor.rt
