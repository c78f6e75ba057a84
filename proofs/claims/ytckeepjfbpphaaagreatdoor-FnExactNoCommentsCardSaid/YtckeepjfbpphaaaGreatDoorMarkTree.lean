/-
  laws.markNodeS, heldIntS, heldNodeS: contracts.
-/
import Derived.Test.YtckeepjfbpphaaaGreatDoorMarkNd
import Derived.Test.YtckeepjfbpphaaaGreatDoorNdEq
namespace Go.Proofs.YtckeepjfbpphaaaGreatDoor.mark
open Go.ChangeShapes Go.WideShapes Go.ChangeAt Go.RowKit
open nd
set_option linter.unusedVariables false

theorem mark_textN (P : Nat) (w : World) (hk0 : 0 < P) (hk : P ≤ 8000000) :
    Calls Tryz.prog 18 #[.int .i64 (P : Int)] w fun e w' => e = .returned (.string (markF P)) ∧ Below w.heap.size w w' := mark_text P w hk0 (by omega)

/-- Blocks from S on stand. -/
def Above (S : Nat) (w w' : World) : Prop := ∀ k, S ≤ k → k < w.heap.size → w'.heap[k]? = w.heap[k]?
theorem Above.refl (S : Nat) (w : World) : Above S w w := fun k _ _ => rfl
theorem Above.trans {S : Nat} {a b c : World} (h : Above S a b) (k : Above S b c) (hs : a.heap.size ≤ b.heap.size) : Above S a c := fun j h1 h2 => (k j h1 (Nat.lt_of_lt_of_le h2 hs)).trans (h j h1 h2)
theorem Above.set {S g j : Nat} {w : World} (hg : g < S) (u : Value) : Above S w (w.setCell ⟨g, j, none⟩ u) := fun k h1 _ => heap_setCell_other w ⟨g, j, none⟩ k u (by show k ≠ g; omega)
theorem Above.below {S : Nat} {w w' : World} (h : Below w.heap.size w w') : Above S w w' := fun k _ h2 => h.block k h2
theorem Above.grown {S g : Nat} {w w' : World} (h : w.grownBy w' (some g)) (hg : g < S) : Above S w w' := fun k h1 h2 => h.block k h2 (fun e => by injection e with e; omega)
theorem Tr.above {S : Nat} {w w' : World} {g n : Nat} {l : List Nd} {r : Nat → Nat} (h : Tr S w g n l r) (hf : Above S w w') (hs : w.heap.size ≤ w'.heap.size) (hg : S ≤ g) : Tr S w' g n l r := by
  have hlt := Tr.lt h
  obtain ⟨⟨c, hc, hsz, hl, hx⟩, ha, hr⟩ := h
  refine ⟨⟨c, (hf g hg hlt).trans hc, hsz, hl, fun i hi => ?_⟩, ha, fun i hi => Nat.lt_of_lt_of_le (hr i hi) hs⟩
  obtain ⟨v, h5, a, cap, e, hk⟩ := hx i hi
  refine ⟨v, h5, a, cap, e, hk.imp id ?_⟩
  rintro ⟨e1, e2, e3, e4⟩
  exact ⟨e1, e2.of_block (hf _ e3 e2.lt), e3, e4⟩

structure MS (B S : Nat) (g cap : Nat) (l : List Nd) (r : Nat → Nat) (W wr : World) : Prop where
  tr : Tr B wr g cap l r
  bel : Below B W wr
  abo : Above S W wr
  siz : W.heap.size ≤ wr.heap.size
variable {B S g cap : Nat} {l : List Nd} {r : Nat → Nat} {W w w' : World}
theorem MS.over (h : MS B S g cap l r W w) (hb : Below w.heap.size w w') (hB : B ≤ w.heap.size) : MS B S g cap l r W w' :=
  ⟨h.tr.keep hb (Nat.le_refl _), h.bel.trans (hb.mono hB), h.abo.trans (Above.below hb) h.siz, Nat.le_trans h.siz hb.size⟩
theorem MS.set {l' : List Nd} (h : MS B S g cap l r W w) (hB : B ≤ g) (hS : g < S) (j : Nat) (u : Value) (ht : Tr B (w.setCell ⟨g, j, none⟩ u) g cap l' r) : MS B S g cap l' r W (w.setCell ⟨g, j, none⟩ u) :=
  ⟨ht, h.bel.setCell (p := ⟨g, j, none⟩) hB u, h.abo.trans (Above.set hS u) h.siz, by have := h.siz; simpa using this⟩

section
variable {l1 : List Nd} {I : Nat} {x : Nd} (hB : B ≤ g) (hS : g < S) (hI : I < l1.length)
include hB hS hI
theorem MS.sK (h : MS B S g cap (l1.set I x) r W w) (P : Int) : MS B S g cap (l1.set I { x with k := P }) r W (w.setCell ⟨g, I * 5, none⟩ (.int .i64 P)) := by
  have := h.set hB hS (I * 5) (.int .i64 P) (tr_setK h.tr (I := I) (by simpa using hI) P)
  simpa only [List.getElem_set_self, List.set_set] using this
theorem MS.sO (h : MS B S g cap (l1.set I x) r W w) (P : Int) : MS B S g cap (l1.set I { x with op := P }) r W (w.setCell ⟨g, I * 5 + 1, none⟩ (.int .i64 P)) := by
  have := h.set hB hS (I * 5 + 1) (.int .i64 P) (tr_setO h.tr (I := I) (by simpa using hI) P)
  simpa only [List.getElem_set_self, List.set_set] using this
theorem MS.sS (h : MS B S g cap (l1.set I x) r W w) (s : ByteArray) : MS B S g cap (l1.set I { x with s := s }) r W (w.setCell ⟨g, I * 5 + 2, none⟩ (.string s)) := by
  have := h.set hB hS (I * 5 + 2) (.string s) (tr_setS h.tr (I := I) (by simpa using hI) s)
  simpa only [List.getElem_set_self, List.set_set] using this
theorem MS.sT (h : MS B S g cap (l1.set I x) r W w) (s : ByteArray) : MS B S g cap (l1.set I { x with t := s }) r W (w.setCell ⟨g, I * 5 + 3, none⟩ (.string s)) := by
  have := h.set hB hS (I * 5 + 3) (.string s) (tr_setT h.tr (I := I) (by simpa using hI) s)
  simpa only [List.getElem_set_self, List.set_set] using this
omit hB hS in
theorem MS.row (h : MS B S g cap (l1.set I x) r W w) : ∃ a c, w.cell? ⟨g, I * 5 + 4, none⟩ = some (.slice a x.kids.length c) ∧ (x.kids = [] ∨ a = some ⟨r I, 0, none⟩ ∧ IBlk w (r I) c x.kids ∧ B ≤ r I ∧ r I ≠ g) := by
  have := tr_row h.tr (I := I) (by simpa using hI)
  simpa only [List.getElem_set_self] using this
omit hB hS in
theorem MS.sKids (h : MS B S g cap (l1.set I x) r W w) (m : List Int) (hm : m.length = x.kids.length) {c : Nat} (hcell : w.cell? ⟨g, I * 5 + 4, none⟩ = some (.slice (some ⟨r I, 0, none⟩) x.kids.length c)) (hne : r I ≠ g) (hBr : B ≤ r I) (hSr : r I < S) (hBw : B ≤ w.heap.size) (hg : w.grownBy w' (some (r I))) (hb : IBlk w' (r I) c m) : MS B S g cap (l1.set I { x with kids := m }) r W w' := by
  have := tr_setKids h.tr (I := I) (by simpa using hI) m (by simpa using hm) (a := some ⟨r I, 0, none⟩) (cap := c) (by simpa using hcell) hne hBr rfl hg hb
  simp only [List.getElem_set_self, List.set_set] at this
  exact ⟨this, h.bel.grown hg hBw (fun k e => by cases e; exact hBr), h.abo.trans (Above.grown hg hSr) h.siz, Nat.le_trans h.siz hg.size⟩
end
def RelMn (B S g cap : Nat) (W : World) (l : List Nd) (r : Nat → Nat) (k i : Value) (wr : World) : Prop :=
  ∃ I : Nat, I ≤ l.length ∧ i = .int .i64 (I : Int) ∧ k = .int .i64 (endM (lens (l.take I)) 1 : Int) ∧ MS B S g cap (mkL (lens (l.take I)) 1 ++ l.drop I) r W wr

set_option maxRecDepth 20000 in
set_option maxHeartbeats 3200000 in
theorem mark_nodes (l : List Nd) (w : World) (htot : l.length + tot l ≤ 1048576) (ht : Tr B w g cap l r) (hB : B ≤ g) (hS : g < S) (hSr : ∀ i, i < l.length → r i < S) :
    Calls Tryz.prog 9 #[.slice (some ⟨g, 0, none⟩) l.length cap, .int .i64 1] w fun e w' => e = .returned (.int .i64 (endM (lens l) 1 : Int)) ∧ MS B S g cap (mkL (lens l) 1) r w w' := by
  have HT := Lib.hid (show MS B S g cap l r w w from ⟨ht, Below.refl _ _, Above.refl _ _, Nat.le_refl _⟩)
  have HTOT := Lib.hid htot
  have hcap : l.length ≤ cap := by obtain ⟨⟨_, _, _, h, _⟩, _⟩ := ht; exact h
  have hlb : l.length ≤ 1048576 := by omega
  have HSR := Lib.hid hSr
  clear ht htot hSr
  go_enter Tryz.func9, Tryz.ntmps9
  go_wp2
  go_loopw [1, 5] (fun k i wr => RelMn B S g cap w l r k i wr) (fun _ i _ => l.length - (intOf i).toNat)
  case atStart => exact ⟨0, by omega, rfl, rfl, HT.out⟩
  case round =>
    obtain ⟨I, hI, rfl, rfl, hms⟩ := hrel
    have HE := Lib.hid (end_le l I 1 HTOT.out (Nat.le_refl _))
    obtain ⟨P, hP⟩ : ∃ P, P = endM (lens (l.take I)) 1 := ⟨_, rfl⟩
    have HP := Lib.hid hP
    have hP1 : 1 ≤ P := by rw [hP, endM_eq]; omega
    rw [← hP] at HE ⊢
    have hPb := HE.out
    by_cases hlt : I < l.length
    · obtain ⟨l1, hl1⟩ : ∃ l1, l1 = mkL (lens (l.take I)) 1 ++ l.drop I := ⟨_, rfl⟩
      rw [← hl1] at hms
      have HL1 := Lib.hid hl1
      have hmk : (mkL (lens (l.take I)) 1).length = I := by rw [mkL_len]; simp [lens]; omega
      have hlen1 : l1.length = l.length := by rw [hl1]; simp [hmk]; omega
      have hI1 : I < l1.length := by omega
      have hget : l1[I] = l[I] := by
        simp only [hl1]
        rw [List.getElem_append_right (by omega)]
        simp [hmk]
      obtain ⟨m, hm⟩ : ∃ m, m = l[I].kids.length := ⟨_, rfl⟩
      have hmb : m ≤ 1048576 := by
        have := sz_le hlt
        have := HTOT.out
        unfold Nd.sz at *
        omega
      have HM := Lib.hid hm
      have HFIN := Lib.hid (show l1.set I (mkN P m) = mkL (lens (l.take (I + 1))) 1 ++ l.drop (I + 1) by
        rw [lens_step hlt, mkL_snoc, ← hP, ← hm, hl1, List.set_append_right _ _ (by omega), hmk, Nat.sub_self, List.drop_eq_getElem_cons hlt, List.set_cons_zero, List.append_assoc]
        rfl)
      have HEND := Lib.hid (show endM (lens (l.take (I + 1))) 1 = P + 4 + m by rw [lens_step hlt, endM_snoc, ← hP, ← hm])
      have hi1 : (I : Int) < (l.length : Int) := by omega
      have HI1 := Lib.hid hI1
      obtain ⟨x, hx⟩ : ∃ x, x = l[I] := ⟨_, rfl⟩
      have hms0 : MS B S g cap (l1.set I x) r w wr := by rw [hx, ← hget, List.set_getElem_self]; exact hms
      have hxm : x.kids.length = m := by rw [hx, hm]
      have HXM := Lib.hid hxm
      obtain ⟨v0, e0⟩ := hms.tr.some (I * 5) (by omega)
      obtain ⟨v1, e1⟩ := hms.tr.some (I * 5 + 1) (by omega)
      have f0 := hms.tr.frozen (I * 5)
      have f1 := hms.tr.frozen (I * 5 + 1)
      have M2 := Lib.hid ((hms0.sK hB hS hI1 (P : Int)).sO hB hS hI1 ((P : Int) + 1))
      have HRI := Lib.hid (HSR.out I hlt)
      clear hms hms0 hl1 hlen1 hget hP hm hmk hx hI1 hxm
      go_wp2_with fail
      rw [show (P : Int) + 1 + 1 = ((P + 2 : Nat) : Int) by omega]
      refine (mark_textN (P + 2) _ (by omega) (by omega)).mono ?_
      rintro e w2 ⟨rfl, b2⟩
      have m3 := M2.out.over b2 (Nat.le_trans hB (Nat.le_of_lt (Tr.lt M2.out.tr)))
      obtain ⟨v2, e2⟩ := m3.tr.some (I * 5 + 2) (by omega)
      have f2 := m3.tr.frozen (I * 5 + 2)
      have M4 := Lib.hid (m3.sS hB hS HI1.out (markF (P + 2)))
      clear m3 b2
      go_wp2_with fail
      rw [show (P : Int) + 2 + 1 = ((P + 3 : Nat) : Int) by omega]
      refine (mark_textN (P + 3) _ (by omega) (by omega)).mono ?_
      rintro e w4 ⟨rfl, b4⟩
      have m5 := M4.out.over b4 (Nat.le_trans hB (Nat.le_of_lt (Tr.lt M4.out.tr)))
      obtain ⟨v3, e3⟩ := m5.tr.some (I * 5 + 3) (by omega)
      have f3 := m5.tr.frozen (I * 5 + 3)
      have m6 := m5.sT hB hS HI1.out (markF (P + 3))
      obtain ⟨ar, cr, hcell, hrow⟩ := m6.row HI1.out
      have HC6 := Lib.hid hcell
      simp only [HXM.out] at hcell
      have M6 := Lib.hid m6
      have hBw6 := Nat.le_trans hB (Nat.le_of_lt (Tr.lt m6.tr))
      have HROW := Lib.hid hrow
      clear m5 m6 b4 hrow
      go_wp2_with fail
      rcases HROW.out with h0 | ⟨har, hib, hBr, hne⟩
      · have hm0 : m = 0 := by rw [← HXM.out]; show x.kids.length = 0; rw [show x.kids = [] from h0]; rfl
        have HFX := Lib.hid (show MS B S g cap (l1.set I (mkN P m)) r w (w4.setCell ⟨g, I * 5 + 3, none⟩ (.string (markF (P + 3)))) by
          have := M6.out
          have e : ({ k := (P : Int), op := (P : Int) + 1, s := markF (P + 2), t := markF (P + 3), kids := x.kids } : Nd) = mkN P m := by
            rw [hm0, show x.kids = [] from h0]
            rfl
          rwa [← e])
        rw [hm0]
        refine (mark_ints0 _ _ _ _).mono ?_
        rintro e w6 ⟨rfl, rfl⟩
        clear e2 e3 f2 f3 hcell hBw6
        go_wp2
        go_roundw
        case rel => exact ⟨I + 1, by omega, by go_num, congrArg (Value.int .i64) (by rw [HEND.out, hm0]; omega), by rw [← HFIN.out]; exact HFX.out⟩
        case measure => simp [intOf]; omega
      · have hmc : m ≤ cr := by obtain ⟨_, _, _, h, _⟩ := hib; have h2 : x.kids.length ≤ cr := h; have := HXM.out; omega
        subst har
        rw [show (P : Int) + 3 + 1 = ((P + 4 : Nat) : Int) by omega]
        refine (mark_ints (r I) cr m (P + 4) _ _ hib hmc hmb (by omega)).mono ?_
        rintro e w6 ⟨rfl, k6, g6⟩
        have HFX := Lib.hid (show MS B S g cap (l1.set I (mkN P m)) r w w6 from
          M6.out.sKids HI1.out (mkI (P + 4) m) (by rw [mkI_len]; exact HXM.out.symm) HC6.out hne hBr HRI.out hBw6 g6 k6)
        clear e2 e3 f2 f3 hcell hBw6 hib k6 g6
        go_wp2
        go_roundw
        case rel => exact ⟨I + 1, by omega, by go_num, congrArg (Value.int .i64) (by rw [HEND.out]; omega), by rw [← HFIN.out]; exact HFX.out⟩
        case measure => simp [intOf]; omega
    · obtain rfl : I = l.length := by omega
      have HFX := Lib.hid (show MS B S g cap (mkL (lens l) 1) r w wr by have := hms; rwa [List.take_length, List.drop_length, List.append_nil] at this)
      have HPE := Lib.hid (show (P : Int) = (endM (lens l) 1 : Int) by rw [hP, List.take_length])
      clear hms hP
      go_wp2
      go_ret
      exact ⟨by rw [← HPE.out]; rfl, HFX.out⟩
end Go.Proofs.YtckeepjfbpphaaaGreatDoor.mark
