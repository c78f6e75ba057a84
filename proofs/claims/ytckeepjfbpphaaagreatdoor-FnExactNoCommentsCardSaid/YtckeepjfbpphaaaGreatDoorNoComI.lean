/-
  impl.NoComments: a contract.
-/
import Derived.Test.YtckeepjfbpphaaaGreatDoorPlaced
import Derived.Test.YtckeepjfbpphaaaGreatDoorTreeOk
namespace Go.Proofs.YtckeepjfbpphaaaGreatDoor.nc
open Go.ChangeShapes Go.WideShapes Go.ChangeAt Go.RowKit
open nd (Nd OwnI IBlk Ints PT PtOut KidV Lies lies_at make_ints wpList_append_node shape_yes grown_one)
open rt (treeOk)
open spell (Held held)
set_option linter.unusedVariables false
set_option maxRecDepth 20000

def plc (l : List Nd) (I : Nat) : List Int := (List.range I).map (fun j => if K l j = true then (cnt l j : Int) else -1)
theorem plc_len (l : List Nd) (I : Nat) : (plc l I).length = I := by simp [plc]
theorem plc_succ (l : List Nd) (I : Nat) : plc l (I + 1) = plc l I ++ [if K l I = true then (cnt l I : Int) else -1] := by simp [plc, List.range_succ]
theorem plc_get {l : List Nd} {I q : Nat} (h : q < I) : (plc l I).getD q 0 = if K l q = true then (cnt l q : Int) else -1 := by
  rw [List.getD_eq_getElem?_getD, List.getElem?_eq_getElem (by rw [plc_len]; exact h)]
  simp [plc]
theorem pk_plc {l : List Nd} {I : Nat} (hI : I < l.length) {ks : List Int} (hk : ∀ k ∈ ks, 0 ≤ k ∧ k < (I : Int)) : pk (plc l (I + 1)) ks = kidsF l 0 ks := by
  have hKc : ∀ k ∈ ks, K l k.toNat = !(com l k.toNat) := fun k h => by
    have := hk k h
    unfold K
    rw [show (k.toNat + 1 == l.length) = false by rw [beq_eq_false_iff_ne]; omega, Bool.or_false]
  have hg : ∀ k ∈ ks, (plc l (I + 1)).getD k.toNat 0 = if K l k.toNat = true then (cnt l k.toNat : Int) else -1 := fun k h => plc_get (by have := hk k h; omega)
  unfold pk kidsF
  have e : ks.filter (fun k => !((plc l (I + 1)).getD k.toNat 0 == -1)) = ks.filter (fun k => !(com l k.toNat)) := by
    refine List.filter_congr fun k h => ?_
    rw [hg k h, ← hKc k h]
    cases K l k.toNat
    · rfl
    · rw [if_pos rfl]
      show (!((cnt l k.toNat : Int) == -1)) = true
      rw [show ((cnt l k.toNat : Int) == -1) = false by rw [beq_eq_false_iff_ne]; omega]
      rfl
  rw [e]
  refine List.map_congr_left fun k h => ?_
  obtain ⟨h1, h2⟩ := List.mem_filter.1 h
  rw [hg k h1, hKc k h1, if_pos h2, show cnt l 0 = 0 by rfl]
  simp
/-- What the loop holds: the places' block at gp, the nodes that stay behind it. -/
structure NS (B gp : Nat) (l : List Nd) (v : Value) (z : List (Nd × Value)) (r : Nat → Nat) (P : List Int) (w0 w : World) : Prop where
  pt : PT (gp + 1) v z r w
  gt : ∀ i, i < z.length → gp < r i
  blk : IBlk w gp l.length P
  bel : Below B w0 w
  lt : B ≤ gp
section
variable {B gp : Nat} {l : List Nd} {v : Value} {z : List (Nd × Value)} {r : Nat → Nat} {P : List Int} {w0 w w' : World}
theorem NS.over (h : NS B gp l v z r P w0 w) (hb : Below w.heap.size w w') : NS B gp l v z r P w0 w' :=
  ⟨h.pt.keep hb (Nat.le_refl _), h.gt, h.blk.keep hb h.blk.lt, h.bel.trans (hb.mono (Nat.le_trans h.lt (Nat.le_of_lt h.blk.lt))), h.lt⟩
theorem NS.any (h : NS B gp l v z r P w0 w) (x : Obj) : NS B gp l v z r P w0 (w.alloc x) := h.over ((Below.refl _ _).alloc (Nat.le_refl _) x)
theorem NS.own (h : NS B gp l v z r P w0 w) : v.ownBlock ≠ some gp := fun e => by
  have := (World.ownsRow.lt h.pt.own gp e).1
  omega
theorem NS.put (h : NS B gp l v z r P w0 w) (hl : P.length < l.length) (x : Int) : NS B gp l v z r (P ++ [x]) w0 (w.setCell ⟨gp, P.length, none⟩ (.int .i64 x)) :=
  ⟨h.pt.kept (grown_one w gp _ _) h.own (fun i hi => Nat.ne_of_gt (h.gt i hi)), h.gt, h.blk.put x hl, h.bel.setCell (p := ⟨gp, P.length, none⟩) h.lt _, h.lt⟩
/-- A cell of a block of another sort set: one behind all that is held. -/
theorem NS.box (h : NS B gp l v z r P w0 w) {b j : Nat} (u : Value) (hb : gp < b) (hv : v.ownBlock ≠ some b) (hr : ∀ i, i < z.length → r i ≠ b) : NS B gp l v z r P w0 (w.setCell ⟨b, j, none⟩ u) :=
  ⟨h.pt.kept (grown_one w b j u) hv hr, h.gt, h.blk.of_block ((grown_one w b j u).block gp h.blk.lt (fun e => by injection e with e; omega)), h.bel.setCell (p := ⟨b, j, none⟩) (Nat.le_trans h.lt (Nat.le_of_lt hb)) u, h.lt⟩
end
def RelNc (gp : Nat) (w : World) (l : List Nd) (v i : Value) (wr : World) : Prop :=
  ∃ (I : Nat) (z : List (Nd × Value)) (r : Nat → Nat), I ≤ l.length ∧ i = .int .i64 (I : Int) ∧ NS w.heap.size gp l v z r (plc l I) w wr ∧ z.map (·.1) = (idx l 0 I).map (fun j => kf l 0 (l.getD j default))

set_option maxHeartbeats 3200000 in
theorem impl_nc (l : List Nd) (a : Option Addr) (cap : Nat) (w : World) (hn : l.length ≤ 1048576) (hk : ∀ t ∈ l, t.kids.length ≤ 1048576) (hs : ∀ t ∈ l, t.s.size ≤ 1048576 ∧ t.t.size ≤ 1048576) (hc : Lies w.heap.size w a l) (hh : Held w) :
    Calls Tryz.prog 7 #[.slice a l.length cap] w (PtOut (ncF l) w) := by
  have HC := Lib.hid hc
  have HK := Lib.hid hk
  have HX := Lib.hid (rt.impl_tree l a cap w hn hk hs hc hh)
  clear hc hk hs hh
  cases ht : treeOk l
  · have HT := Lib.hid ht
    have HF := Lib.hid (show ncF l = [] by unfold ncF; rw [ht]; rfl)
    clear ht
    go_enter Tryz.func7, Tryz.ntmps7
    go_wp2_with fail
    refine HX.out.mono ?_
    rintro e w2 ⟨he, b2⟩
    rw [HT.out] at he
    subst he
    go_wp2
    go_ret
    exact ⟨.slice none 0 0, [], _, rfl, by rw [HF.out]; rfl, PT.nil _ _, b2⟩
  have hsh := (rt.tree_parts ht).1
  obtain ⟨h1, h2, h3, h4, h5, h6⟩ := shape_yes hsh
  have HSH := Lib.hid hsh
  have HT := Lib.hid ht
  have HF := Lib.hid (show ncF l = keepF l by unfold ncF; rw [ht]; rfl)
  obtain ⟨n, hln⟩ : ∃ n, n = l.length := ⟨_, rfl⟩
  have HLN := Lib.hid hln
  rw [← hln] at h1 h2 hn HX ⊢
  obtain ⟨R, hR⟩ : ∃ R : Nat, n = R + 1 := ⟨n - 1, by omega⟩
  have hR1 : (n : Int) - 1 = (R : Int) := by omega
  have HR := Lib.hid hR
  have hmk := fun w => make_ints n hn w
  clear ht hsh h3 h4 h5 h6 hln hR
  go_enter Tryz.func7, Tryz.ntmps7
  go_wp2_with fail
  refine HX.out.mono ?_
  rintro e w2 ⟨he, b2⟩
  rw [HT.out] at he
  subst he
  obtain ⟨gp, hgp⟩ : ∃ gp, gp = w2.heap.size := ⟨_, rfl⟩
  have HS0 := Lib.hid (show NS w.heap.size gp l (.slice none 0 0) [] (fun i => i) (plc l 0) w (w2.alloc (.cells (madeCells #[.int .i64 0] n) 3)) from
    ⟨PT.nil _ _, fun i hi => by simp at hi, by rw [hgp, ← HLN.out]; exact IBlk.made w2 n, b2.alloc b2.size _, by rw [hgp]; exact b2.size⟩)
  clear b2
  go_wp2
  rw [← hgp]
  clear hmk hgp
  go_loopw [5, 19] (fun v i wr => RelNc gp w l v i wr) (fun _ i _ => n - (intOf i).toNat)
  case atStart => exact ⟨0, [], _, by omega, rfl, HS0.out, rfl⟩
  case round =>
    obtain ⟨I, z, r, hI, rfl, hns, hz⟩ := hrel
    have HS := Lib.hid hns
    have HZ := Lib.hid hz
    obtain ⟨av, cv, rfl⟩ := hns.pt.form
    rw [← HLN.out] at hI
    have hzl : z.length = cnt l I := by
      have := congrArg List.length hz
      rw [List.length_map, List.length_map] at this
      exact this
    have hzc := cnt_le (l := l) I
    have HZL := Lib.hid hzl
    have hzb : z.length ≤ 400 := by omega
    clear hns hz hzl hzc
    by_cases hlt : I < n
    · have hltl : I < l.length := by have := HLN.out; omega
      obtain ⟨b, o, rfl, hb, hcell⟩ := lies_at HC.out hltl
      obtain ⟨ak, ck, ⟨c0, c1, c2, c3, c4⟩, hik⟩ := (hcell I hltl).keep HS.out.bel (Nat.le_refl _) hb
      have HKI := Lib.hid (fun k hk => nd.sh_kid HSH.out hltl (k := k) hk)
      have HKB := Lib.hid (HK.out l[I] (List.getElem_mem hltl))
      have HG := Lib.hid (getD_at hltl)
      have hcom : com l I = (l[I].k == 34) := by unfold com; rw [HG.out]
      obtain ⟨t, ht⟩ : ∃ t, t = l[I] := ⟨_, rfl⟩
      rw [← ht] at c0 c1 c2 c3 c4 hik hcom HKI HKB HG
      have HIK := Lib.hid hik
      have HPS := Lib.hid (plc_succ l I)
      have HID := Lib.hid (show idx l 0 (I + 1) = idx l 0 I ++ if K l I = true then [I] else [] by rw [idx_add, Nat.zero_add, idx_one])
      have hpl := plc_len l I
      have HPL := Lib.hid hpl
      have hKI : K l I = (!(t.k == 34) || I + 1 == n) := by unfold K; rw [hcom, ← HLN.out]
      have hgl := HS.out.blk.lt
      obtain ⟨v0, e0⟩ := HS.out.blk.some I (by have := HLN.out; omega)
      have f0 := HS.out.blk.frozen I
      have e0a : ∀ x, (wr.alloc x).cell? ⟨gp, I, none⟩ = some v0 := fun x => (((Below.refl wr.heap.size wr).alloc (Nat.le_refl _) x).cell (p := ⟨gp, I, none⟩) hgl).trans e0
      have f0a : ∀ x, (wr.alloc x).frozen? ⟨gp, I, none⟩ = false := fun x => (HS.out.any x).blk.frozen I
      have hi1 : (I : Int) < (n : Int) := by omega
      have hi0 : (0 : Int) ≤ (I : Int) := by omega
      have HB := Lib.hid hb
      have HL1 := Lib.hid (show (plc l I).length < l.length by rw [hpl]; exact hltl)
      clear hcell ht hik hcom hpl hb
      by_cases hdrop : t.k = 34 ∧ ¬ I = R
      · obtain ⟨hk34, hIR⟩ := hdrop
        have HN := Lib.hid (show K l I = false by
          rw [hKI, hk34]
          have := HR.out
          simp
          omega)
        have d1 : ((I : Int) != (R : Int)) = true := by simp; omega
        rw [hk34] at c0
        have HPUT := Lib.hid (fun x => (HS.out.put HL1.out (-1)).any x)
        clear hKI hk34 hIR
        go_wp2
        go_roundw
        case rel =>
          refine ⟨I + 1, z, r, by have := HLN.out; omega, by go_num, ?_, by rw [HID.out, HN.out, if_neg (by decide), List.append_nil]; exact HZ.out⟩
          rw [HPS.out, HN.out, if_neg (by decide)]
          have := HPUT.out (.cells #[.int .i64 34, .int .i64 t.op, .string t.s, .string t.t, .slice ak t.kids.length ck] 36)
          rw [HPL.out] at this
          exact this
        case measure => simp [intOf]; omega
      · have HN := Lib.hid (show K l I = true by
          rw [hKI]
          have := HR.out
          by_cases hq : t.k = 34
          · have hIR : I = R := Classical.byContradiction fun h => hdrop ⟨hq, h⟩
            have : (I + 1 == n) = true := by rw [beq_iff_eq]; omega
            rw [this, Bool.or_true]
          · rw [show (t.k == 34) = false by simpa using hq]; rfl)
        have hbr : (t.k == 34) = false ∨ ((t.k == 34) = true ∧ ((I : Int) != (R : Int)) = false) := by
          by_cases hq : t.k = 34
          · have hIR : I = R := Classical.byContradiction fun h => hdrop ⟨hq, h⟩
            exact .inr ⟨by simpa using hq, by rw [hIR]; simp⟩
          · exact .inl (by simpa using hq)
        clear hKI hdrop
        obtain ⟨W1, hW1⟩ : ∃ W1, W1 = (wr.setCell ⟨gp, I, none⟩ (.int .i64 (z.length : Int))).alloc (.cells #[.int .i64 t.k, .int .i64 t.op, .string t.s, .string t.t, .slice ak t.kids.length ck] 36) := ⟨_, rfl⟩
        have HS1 := Lib.hid (show NS w.heap.size gp l (.slice av z.length cv) z r (plc l (I + 1)) w W1 by
          have := (HS.out.put HL1.out (cnt l I : Int)).any (.cells #[.int .i64 t.k, .int .i64 t.op, .string t.s, .string t.t, .slice ak t.kids.length ck] 36)
          rw [HPL.out, ← HZL.out] at this
          rw [HPS.out, HN.out, if_pos rfl, hW1, ← HZL.out]
          exact this)
        have hbx1 : W1.heap[wr.heap.size]? = some (.cells #[.int .i64 t.k, .int .i64 t.op, .string t.s, .string t.t, .slice ak t.kids.length ck] 36 (0, 0)) := by
          rw [hW1]
          have := heap_alloc_new (wr.setCell ⟨gp, I, none⟩ (.int .i64 (z.length : Int))) (.cells #[.int .i64 t.k, .int .i64 t.op, .string t.s, .string t.t, .slice ak t.kids.length ck] 36)
          rwa [show (wr.setCell ⟨gp, I, none⟩ (.int .i64 (z.length : Int))).heap.size = wr.heap.size by simp] at this
        have hW1s : W1.heap.size = wr.heap.size + 1 := by rw [hW1]; simp
        have HBX1 := Lib.hid hbx1
        have x4 : W1.cell? ⟨wr.heap.size, 4, none⟩ = some (.slice ak t.kids.length ck) := by rw [cell_of_row _ _ 4 _ _ _ hbx1]; rfl
        have HW1S := Lib.hid hW1s
        have HWR := Lib.hid (show ∀ i, i < z.length → r i < wr.heap.size from fun i hi => HS.out.pt.lt i hi)
        have HOW := Lib.hid (show ∀ q, (Value.slice av z.length cv).ownBlock = some q → q < wr.heap.size from fun q hq => (World.ownsRow.lt HS.out.pt.own q hq).2)
        have HGL := Lib.hid hgl
        have HW1 := Lib.hid hW1
        clear hbx1 hW1s
        rcases hbr with hbr | ⟨hbr, hbr2⟩
        · go_wp2_with fail
          rw [← HW1.out]
          refine (impl_placed t.kids (plc l (I + 1)) ak (some ⟨gp, 0, none⟩) ck n n W1 HKB.out (by rw [plc_len]; omega) hn (fun k hk => by rw [plc_len]; have := HKI.out k hk; omega) ((HIK.out.keep (show Below w.heap.size wr W1 by rw [HW1.out]; exact ((Below.refl _ _).setCell (p := ⟨gp, I, none⟩) HS.out.lt _).alloc (by simp; exact HS.out.bel.size) _) (Nat.le_refl _)).up HS1.out.bel.size) HS1.out.blk.ints).mono ?_
          rintro e w3 ⟨u, rfl, own3, b3⟩
          rw [pk_plc (by have := HLN.out; omega) (fun k hk => by have := HKI.out k hk; omega)] at own3
          have HS3 := Lib.hid (HS1.out.over b3)
          have hbx3 : w3.heap[wr.heap.size]? = some (.cells #[.int .i64 t.k, .int .i64 t.op, .string t.s, .string t.t, .slice ak t.kids.length ck] 36 (0, 0)) := (b3.block _ (by rw [HW1S.out]; omega)).trans HBX1.out
          have y4 : w3.cell? ⟨wr.heap.size, 4, none⟩ = some (.slice ak t.kids.length ck) := by rw [cell_of_row _ _ 4 _ _ _ hbx3]; rfl
          have f4 : w3.frozen? ⟨wr.heap.size, 4, none⟩ = false := frozen_of_row _ _ 4 _ _ hbx3
          have hbx4 := heap_setCell_same w3 wr.heap.size 4 _ _ u hbx3
          have q0 : (w3.setCell ⟨wr.heap.size, 4, none⟩ u).cell? ⟨wr.heap.size, 0, none⟩ = some (.int .i64 t.k) := by rw [cell_of_row _ _ 0 _ _ _ hbx4]; rfl
          have q1 : (w3.setCell ⟨wr.heap.size, 4, none⟩ u).cell? ⟨wr.heap.size, 1, none⟩ = some (.int .i64 t.op) := by rw [cell_of_row _ _ 1 _ _ _ hbx4]; rfl
          have q2 : (w3.setCell ⟨wr.heap.size, 4, none⟩ u).cell? ⟨wr.heap.size, 2, none⟩ = some (.string t.s) := by rw [cell_of_row _ _ 2 _ _ _ hbx4]; rfl
          have q3 : (w3.setCell ⟨wr.heap.size, 4, none⟩ u).cell? ⟨wr.heap.size, 3, none⟩ = some (.string t.t) := by rw [cell_of_row _ _ 3 _ _ _ hbx4]; rfl
          have q4 : (w3.setCell ⟨wr.heap.size, 4, none⟩ u).cell? ⟨wr.heap.size, 4, none⟩ = some u := by rw [cell_of_row _ _ 4 _ _ _ hbx4]; rfl
          have HS4 := Lib.hid (HS3.out.box (b := wr.heap.size) (j := 4) u HGL.out (fun e => by have := HOW.out _ e; omega) (fun i hi => Nat.ne_of_lt (HWR.out i hi)))
          have hs3 : wr.heap.size + 1 ≤ w3.heap.size := by have := b3.size; rw [HW1S.out] at this; exact this
          obtain ⟨ua, uc, hu⟩ := own3.form
          obtain ⟨bk, hbk1, hbk2, hkv⟩ := KidV.of_own (own3.up (show gp + 1 ≤ W1.heap.size by rw [HW1S.out]; have := HGL.out; omega)) (wr.heap.size) (by omega) (by have := HGL.out; omega) (fun g hg => by have := (World.ownsRow.lt own3 g hg).1; rw [HW1S.out] at this; omega)
          have hbk3 : bk ≠ wr.heap.size ∨ u = .slice none 0 0 := by
            rcases hkv with ⟨h, _⟩ | ⟨c, h, _, _, _⟩
            · exact .inr h
            · refine .inl fun e => ?_
              have := (World.ownsRow.lt own3 bk (by rw [h]; rfl)).1
              rw [HW1S.out] at this
              omega
          have HKV := Lib.hid (show KidV (gp + 1) (w3.setCell ⟨wr.heap.size, 4, none⟩ u) bk u (kf l 0 t).kids by
            rcases hkv with h | h
            · exact .inl h
            · refine KidV.keep (.inr h) (heap_setCell_other w3 ⟨wr.heap.size, 4, none⟩ bk u ?_)
              rcases hbk3 with h3 | h3
              · exact h3
              · obtain ⟨c, h4, _⟩ := h
                rw [h3] at h4
                cases h4)
          have HBK := Lib.hid (show bk < (w3.setCell ⟨wr.heap.size, 4, none⟩ u).heap.size by simp; exact hbk2)
          have HRB := Lib.hid (show ∀ i, i < z.length → r i ≠ bk from fun i hi => Nat.ne_of_lt (Nat.lt_of_lt_of_le (HWR.out i hi) hbk1))
          have HOFF := Lib.hid (show (Value.slice av z.length cv).ownBlock ≠ some bk from fun e => by have := HOW.out _ e; omega)
          have HGB := Lib.hid (show gp < bk by have := HGL.out; omega)
          have HW4 := Lib.hid (show gp + 1 ≤ (w3.setCell ⟨wr.heap.size, 4, none⟩ u).heap.size by simp; have := HGL.out; omega)
          have HU := Lib.hid (show u.oneCell' = true by rw [hu]; rfl)
          have hzb2 : z.length ≤ 1048576 := by omega
          clear b3 own3 hbx3 hbx4 hkv hbk1 hbk2 hbk3 hs3
          subst hu
          go_wp2_with (at_builtin; refine wpList_append_node _ (kf l 0 t) _ rfl _ _ rfl (gp + 1) _ z r bk rfl HS4.out.pt (by simp [Act.eval]) HU.out hzb2 HW4.out HKV.out HRB.out HBK.out HOFF.out ?_; intro v' r' w5 pt5 b5 rr1 rr2)
          go_roundw
          case rel =>
            refine ⟨I + 1, z ++ [(kf l 0 t, _)], r', by have := HLN.out; omega, by go_num, ⟨pt5, fun i hi => ?_, HS4.out.blk.keep b5 (Nat.lt_succ_self _), HS4.out.bel.trans (b5.mono (Nat.le_succ_of_le HS4.out.lt)), HS4.out.lt⟩, ?_⟩
            · simp at hi
              by_cases he : i < z.length
              · rw [rr1 i he]; exact HS4.out.gt i he
              · rw [show i = z.length by omega, rr2]; exact HGB.out
            · rw [HID.out, HN.out, if_pos rfl, List.map_append, List.map_append, HZ.out, List.map_singleton, List.map_singleton, HG.out]
          case measure => simp [intOf]; omega
        · go_wp2_with fail
          rw [← HW1.out]
          refine (impl_placed t.kids (plc l (I + 1)) ak (some ⟨gp, 0, none⟩) ck n n W1 HKB.out (by rw [plc_len]; omega) hn (fun k hk => by rw [plc_len]; have := HKI.out k hk; omega) ((HIK.out.keep (show Below w.heap.size wr W1 by rw [HW1.out]; exact ((Below.refl _ _).setCell (p := ⟨gp, I, none⟩) HS.out.lt _).alloc (by simp; exact HS.out.bel.size) _) (Nat.le_refl _)).up HS1.out.bel.size) HS1.out.blk.ints).mono ?_
          rintro e w3 ⟨u, rfl, own3, b3⟩
          rw [pk_plc (by have := HLN.out; omega) (fun k hk => by have := HKI.out k hk; omega)] at own3
          have HS3 := Lib.hid (HS1.out.over b3)
          have hbx3 : w3.heap[wr.heap.size]? = some (.cells #[.int .i64 t.k, .int .i64 t.op, .string t.s, .string t.t, .slice ak t.kids.length ck] 36 (0, 0)) := (b3.block _ (by rw [HW1S.out]; omega)).trans HBX1.out
          have y4 : w3.cell? ⟨wr.heap.size, 4, none⟩ = some (.slice ak t.kids.length ck) := by rw [cell_of_row _ _ 4 _ _ _ hbx3]; rfl
          have f4 : w3.frozen? ⟨wr.heap.size, 4, none⟩ = false := frozen_of_row _ _ 4 _ _ hbx3
          have hbx4 := heap_setCell_same w3 wr.heap.size 4 _ _ u hbx3
          have q0 : (w3.setCell ⟨wr.heap.size, 4, none⟩ u).cell? ⟨wr.heap.size, 0, none⟩ = some (.int .i64 t.k) := by rw [cell_of_row _ _ 0 _ _ _ hbx4]; rfl
          have q1 : (w3.setCell ⟨wr.heap.size, 4, none⟩ u).cell? ⟨wr.heap.size, 1, none⟩ = some (.int .i64 t.op) := by rw [cell_of_row _ _ 1 _ _ _ hbx4]; rfl
          have q2 : (w3.setCell ⟨wr.heap.size, 4, none⟩ u).cell? ⟨wr.heap.size, 2, none⟩ = some (.string t.s) := by rw [cell_of_row _ _ 2 _ _ _ hbx4]; rfl
          have q3 : (w3.setCell ⟨wr.heap.size, 4, none⟩ u).cell? ⟨wr.heap.size, 3, none⟩ = some (.string t.t) := by rw [cell_of_row _ _ 3 _ _ _ hbx4]; rfl
          have q4 : (w3.setCell ⟨wr.heap.size, 4, none⟩ u).cell? ⟨wr.heap.size, 4, none⟩ = some u := by rw [cell_of_row _ _ 4 _ _ _ hbx4]; rfl
          have HS4 := Lib.hid (HS3.out.box (b := wr.heap.size) (j := 4) u HGL.out (fun e => by have := HOW.out _ e; omega) (fun i hi => Nat.ne_of_lt (HWR.out i hi)))
          have hs3 : wr.heap.size + 1 ≤ w3.heap.size := by have := b3.size; rw [HW1S.out] at this; exact this
          obtain ⟨ua, uc, hu⟩ := own3.form
          obtain ⟨bk, hbk1, hbk2, hkv⟩ := KidV.of_own (own3.up (show gp + 1 ≤ W1.heap.size by rw [HW1S.out]; have := HGL.out; omega)) (wr.heap.size) (by omega) (by have := HGL.out; omega) (fun g hg => by have := (World.ownsRow.lt own3 g hg).1; rw [HW1S.out] at this; omega)
          have hbk3 : bk ≠ wr.heap.size ∨ u = .slice none 0 0 := by
            rcases hkv with ⟨h, _⟩ | ⟨c, h, _, _, _⟩
            · exact .inr h
            · refine .inl fun e => ?_
              have := (World.ownsRow.lt own3 bk (by rw [h]; rfl)).1
              rw [HW1S.out] at this
              omega
          have HKV := Lib.hid (show KidV (gp + 1) (w3.setCell ⟨wr.heap.size, 4, none⟩ u) bk u (kf l 0 t).kids by
            rcases hkv with h | h
            · exact .inl h
            · refine KidV.keep (.inr h) (heap_setCell_other w3 ⟨wr.heap.size, 4, none⟩ bk u ?_)
              rcases hbk3 with h3 | h3
              · exact h3
              · obtain ⟨c, h4, _⟩ := h
                rw [h3] at h4
                cases h4)
          have HBK := Lib.hid (show bk < (w3.setCell ⟨wr.heap.size, 4, none⟩ u).heap.size by simp; exact hbk2)
          have HRB := Lib.hid (show ∀ i, i < z.length → r i ≠ bk from fun i hi => Nat.ne_of_lt (Nat.lt_of_lt_of_le (HWR.out i hi) hbk1))
          have HOFF := Lib.hid (show (Value.slice av z.length cv).ownBlock ≠ some bk from fun e => by have := HOW.out _ e; omega)
          have HGB := Lib.hid (show gp < bk by have := HGL.out; omega)
          have HW4 := Lib.hid (show gp + 1 ≤ (w3.setCell ⟨wr.heap.size, 4, none⟩ u).heap.size by simp; have := HGL.out; omega)
          have HU := Lib.hid (show u.oneCell' = true by rw [hu]; rfl)
          have hzb2 : z.length ≤ 1048576 := by omega
          clear b3 own3 hbx3 hbx4 hkv hbk1 hbk2 hbk3 hs3
          subst hu
          go_wp2_with (at_builtin; refine wpList_append_node _ (kf l 0 t) _ rfl _ _ rfl (gp + 1) _ z r bk rfl HS4.out.pt (by simp [Act.eval]) HU.out hzb2 HW4.out HKV.out HRB.out HBK.out HOFF.out ?_; intro v' r' w5 pt5 b5 rr1 rr2)
          go_roundw
          case rel =>
            refine ⟨I + 1, z ++ [(kf l 0 t, _)], r', by have := HLN.out; omega, by go_num, ⟨pt5, fun i hi => ?_, HS4.out.blk.keep b5 (Nat.lt_succ_self _), HS4.out.bel.trans (b5.mono (Nat.le_succ_of_le HS4.out.lt)), HS4.out.lt⟩, ?_⟩
            · simp at hi
              by_cases he : i < z.length
              · rw [rr1 i he]; exact HS4.out.gt i he
              · rw [show i = z.length by omega, rr2]; exact HGB.out
            · rw [HID.out, HN.out, if_pos rfl, List.map_append, List.map_append, HZ.out, List.map_singleton, List.map_singleton, HG.out]
          case measure => simp [intOf]; omega
    · obtain rfl : I = n := by omega
      go_wp2
      go_ret
      refine ⟨_, z, r, rfl, ?_, HS.out.pt.up (Nat.le_succ_of_le HS.out.lt), HS.out.bel⟩
      rw [HF.out, HZ.out]
      unfold keepF
      rw [← HLN.out]
end Go.Proofs.YtckeepjfbpphaaaGreatDoor.nc
