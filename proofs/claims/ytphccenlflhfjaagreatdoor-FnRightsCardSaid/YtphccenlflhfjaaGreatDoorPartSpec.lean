/-
  spec.l6Part, spec.Part: contracts.
-/
import Derived.Test.YtphccenlflhfjaaGreatDoorShiftSpec
namespace Go.Proofs.YtphccenlflhfjaaGreatDoor.nd
open Go.ChangeShapes Go.WideShapes Go.ChangeAt Go.RowKit
set_option linter.unusedVariables false

theorem KidV.down {B B' : Nat} {w : World} {r : Nat} {v : Value} {l : List Int} (h : KidV B w r v l) (hB : B' ≤ B) : KidV B' w r v l := by
  rcases h with h | ⟨cap, e1, e2, e3⟩
  · exact .inl h
  · exact .inr ⟨cap, e1, e2, Nat.le_trans hB e3.1, e3.2⟩
theorem PT.up {B B' : Nat} {v : Value} {z : List (Nd × Value)} {r : Nat → Nat} {w : World} (h : PT B v z r w) (hB : B' ≤ B) : PT B' v z r w :=
  ⟨⟨h.own.1, h.own.2.elim .inl (fun ⟨g, cap, cur, hv, hg, r⟩ => .inr ⟨g, cap, cur, hv, Nat.le_trans hB hg, r⟩)⟩, fun i hi => (h.kid i hi).down hB, h.off, h.asc, h.lt⟩
/-- A part of a list of nodes, where it lies. -/
theorem Lies.sub {B : Nat} {w : World} {b o : Nat} {l : List Nd} (h : Lies B w (some ⟨b, o, none⟩) l) (S m : Nat) (hm : S + m ≤ l.length) : Lies B w (some ⟨b, o + S * 5, none⟩) ((l.drop S).take m) := by
  by_cases h0 : m = 0
  · exact .inl (by rw [h0]; simp)
  obtain ⟨b', o', e, hb, hc⟩ := lies_at h (I := S) (by omega)
  injection e with e
  injection e with e1 e2 _
  subst e1 e2
  refine .inr ⟨b, o + S * 5, rfl, hb, fun i hi => ?_⟩
  simp at hi
  have := hc (S + i) (by omega)
  rw [show o + S * 5 + i * 5 = o + (S + i) * 5 by omega]
  simpa using this
/-- What the region holds. -/
structure LP (W3 : World) (w : World) : Prop where
  bel : Below W3.heap.size W3 w
  le : W3.heap.size ≤ w.heap.size
theorem lp_start {W3 w : World} {b o : Nat} {S : Nat} (h : w.cell? ⟨b, o, none⟩ = some (.int .i64 (S : Int))) (hl : LP W3 w) : w.cell? ⟨b, o, none⟩ = some (.int .i64 (S : Int)) ∧ LP W3 w := ⟨h, hl⟩
theorem lp_drew {W3 w : World} {b o : Nat} {S : Nat} (h : w.cell? ⟨b, o, none⟩ = some (.int .i64 (S : Int)) ∧ LP W3 w) : w.drew.cell? ⟨b, o, none⟩ = some (.int .i64 (S : Int)) ∧ LP W3 w.drew := ⟨h.1, h.2.bel.drew, h.2.le⟩
theorem lp_keep {W3 w w1 : World} {b o : Nat} {S : Nat} (hb : b < W3.heap.size) (h : w.cell? ⟨b, o, none⟩ = some (.int .i64 (S : Int)) ∧ LP W3 w) (hk : Below w.heap.size w w1) : w1.cell? ⟨b, o, none⟩ = some (.int .i64 (S : Int)) ∧ LP W3 w1 :=
  ⟨(hk.cell (p := ⟨b, o, none⟩) (Nat.lt_of_lt_of_le hb h.2.le)).trans h.1, h.2.bel.trans (hk.mono h.2.le), Nat.le_trans h.2.le hk.size⟩

set_option maxRecDepth 20000 in
set_option maxHeartbeats 3200000 in
theorem spec_l6part (l : List Nd) (I : Nat) (a : Option Addr) (cap : Nat) (w : World) (hs : shape l = true) (hI : I < l.length) (hcap : l.length ≤ cap) (hn : l.length ≤ 1048576) (hk : ∀ t ∈ l, t.kids.length ≤ 1048576) (hc : Lies w.heap.size w a l) :
    Calls Tryz.prog 30 #[.slice a l.length cap, .int .i64 (I : Int)] w (PtOut (partF l (I : Int)) w) := by
  have HC := Lib.hid hc
  have HK := Lib.hid hk
  obtain ⟨b, o, rfl, hb, hcell⟩ := lies_at hc hI
  clear hk hcell
  obtain ⟨_, h400, _, hsl, hlow, _⟩ := shape_yes hs
  obtain ⟨hR, hBB⟩ := stR_of hs
  have hIs : I < (stO l).length := by omega
  obtain ⟨S, hS⟩ : ∃ S, S = (stO l)[I]'hIs := ⟨_, rfl⟩
  have hSI : S ≤ I := by rw [hS]; exact hlow I hIs
  have hSg : (stO l).getD I 0 = S := by rw [hS]; simp [hIs]
  obtain ⟨m, hm⟩ : ∃ m, m = I + 1 - S := ⟨_, rfl⟩
  have HP := Lib.hid (show partF l (I : Int) = ((l.drop S).take m).map (shN (-(S : Int))) by rw [part_yes hs hI, hSg, partS, hm])
  have hsub := (Lies.sub hc S m (by omega))
  have HSUB := Lib.hid hsub
  have HLEN := Lib.hid (show ((l.drop S).take m).length = m by simp; omega)
  have HKS := Lib.hid (show ∀ t ∈ (l.drop S).take m, t.kids.length ≤ 1048576 from fun t ht => HK.out t (List.mem_of_mem_drop (List.mem_of_mem_take ht)))
  have HX := Lib.hid (spec_starts l (some ⟨b, o, none⟩) cap w hn HK.out hc)
  have hmb : m ≤ 1048576 := by omega
  have hic : I + 1 ≤ cap := by omega
  have hIb : I < 1048576 := by omega
  have hSb : S ≤ 1048576 := by omega
  have HMB := Lib.hid hmb
  have HSV := Lib.hid hS
  have HIS := Lib.hid hIs
  have HRB := Lib.hid (And.intro hR hBB)
  have HSL := Lib.hid hsl
  have hi1 : (I : Int) < (l.length : Int) := by omega
  have hi0 : (0 : Int) ≤ (I : Int) := by omega
  obtain ⟨hmI, hs0, hSm, j0, j1, j2, jc, jc2⟩ := part_facts hSI hIb hm hic
  obtain ⟨j4, j5, j6, j7, j8, j9⟩ := part_wraps hSb hIb hmb
  have hme : I + 1 - S = m := hm.symm
  clear hs h400 hsl hlow hR hBB hS hSI hSg hsub hc hcap hmb hic hIb hSb hm hSm
  go_enter Tryz.func30, Tryz.ntmps30
  go_wp2_with fail
  refine HX.out.mono ?_
  rintro e w3 ⟨a2, c2, he, b2, i2⟩
  rw [HRB.out.1, HRB.out.2, HSL.out] at he
  rw [HRB.out.1] at i2
  subst he
  obtain ⟨bs, os, rfl, hbs, hc3⟩ := nd.ints_at i2 (I := I) (by rw [ints_len]; exact HIS.out)
  have c3 := hc3 I (by rw [ints_len]; exact HIS.out)
  rw [ints_get HIS.out, ← HSV.out] at c3
  have HB2 := Lib.hid b2
  have HS0 := Lib.hid (lp_start c3 (LP.mk (Below.refl w3.heap.size w3) (Nat.le_refl _)))
  have HSUB3 := Lib.hid (HSUB.out.on b2 (Nat.le_refl _))
  have HCC := Lib.hid (fun (w' : World) (hl : LP w3 w') => (by
    have := spec_shift ((l.drop S).take m) (-(S : Int)) (some ⟨b, o + S * 5, none⟩) (cap - S) w' (by rw [HLEN.out]; exact HMB.out) HKS.out (HSUB3.out.on hl.bel (Nat.le_refl _))
    rw [HLEN.out] at this
    exact this : Calls Tryz.prog 53 #[.slice (some ⟨b, o + S * 5, none⟩) m (cap - S), .int .i64 (-(S : Int))] w' (PtOut (((l.drop S).take m).map (shN (-(S : Int)))) w')))
  clear hc3 i2 b2
  go_wp2
  go_region_held3 (fun w' => w'.cell? ⟨bs, os + I, none⟩ = some (.int .i64 (S : Int)) ∧ LP w3 w')
    (first | exact lp_drew HS0.out | exact HS0.out | exact lp_keep hbs (by assumption) (by assumption) | exact lp_drew (by assumption))
    (first | (go_at_call 53; refine (HCC.out _ (by first | exact (by assumption : _ ∧ LP _ _).2 | exact (lp_drew HS0.out).2 | exact HS0.out.2)).mono ?_; rintro e w4 ⟨v, z, r, rfl, hz, pt, b4⟩))
  have HLF := Lib.hid (by assumption : _ ∧ LP w3 _).2
  go_wp2
  go_ret
  exact ⟨v, z, r, rfl, by rw [hz, HP.out], pt.up (Nat.le_trans HB2.out.size (by first | assumption | exact HS0.out.2.le | (simp; done))), HB2.out.trans (HLF.out.bel.mono HB2.out.size)⟩

set_option maxHeartbeats 1600000 in
theorem spec_part (l : List Nd) (i : Int) (a : Option Addr) (cap : Nat) (w : World) (hn : l.length ≤ 1048576) (hcap : l.length ≤ cap) (hk : ∀ t ∈ l, t.kids.length ≤ 1048576) (hc : Lies w.heap.size w a l) :
    Calls Tryz.prog 9 #[.slice a l.length cap, .int .i64 i] w (PtOut (partF l i) w) := by
  have HC := Lib.hid hc
  have HK := Lib.hid hk
  clear hc hk
  cases hs : shape l
  · have HP := Lib.hid (part_no (start_no (i := i) (.inl hs)))
    have HS := Lib.hid hs
    clear hs
    go_enter Tryz.func9, Tryz.ntmps9
    go_wp2_with fail
    refine (spec_shape l a cap _ hn HK.out HC.out).mono ?_
    rintro e w2 ⟨he, b2⟩
    rw [HS.out] at he
    subst he
    go_wp2
    go_ret
    exact ⟨_, [], _, rfl, by rw [HP.out]; rfl, PT.lit b2.size, b2.alloc b2.size _⟩
  · have HS := Lib.hid hs
    by_cases hi : 0 ≤ i ∧ i ≤ (l.length : Int) - 1
    · obtain ⟨I, rfl⟩ : ∃ I : Nat, i = I := ⟨i.toNat, by omega⟩
      have hI : I < l.length := by omega
      have HI := Lib.hid (inR_yes hi.1 hi.2)
      have HIL := Lib.hid hI
      have HCAP := Lib.hid hcap
      clear hs hi hI hcap
      go_enter Tryz.func9, Tryz.ntmps9
      go_wp2_with fail
      refine (spec_shape l a cap _ hn HK.out HC.out).mono ?_
      rintro e w2 ⟨he, b2⟩
      rw [HS.out] at he
      subst he
      have B2 := Lib.hid b2
      clear b2
      go_wp2_with fail
      refine (spec_in _ _ _ _).mono ?_
      rintro e w3 ⟨he, rfl⟩
      rw [HI.out] at he
      subst he
      go_wp2_with fail
      refine (spec_l6part l I a cap _ HS.out HIL.out HCAP.out hn HK.out (HC.out.on B2.out (Nat.le_refl _))).mono ?_
      rintro e w3 ⟨v, z, r, rfl, hz, pt, b3⟩
      go_wp2
      go_ret
      exact ⟨v, z, r, rfl, hz, pt.up B2.out.size, B2.out.trans (b3.mono B2.out.size)⟩
    · have HI := Lib.hid (inR_no hi)
      have HP := Lib.hid (part_no (start_no (l := l) (.inr hi)))
      clear hi hs
      go_enter Tryz.func9, Tryz.ntmps9
      go_wp2_with fail
      refine (spec_shape l a cap _ hn HK.out HC.out).mono ?_
      rintro e w2 ⟨he, b2⟩
      rw [HS.out] at he
      subst he
      have B2 := Lib.hid b2
      clear b2
      go_wp2_with fail
      refine (spec_in _ _ _ _).mono ?_
      rintro e w3 ⟨he, rfl⟩
      rw [HI.out] at he
      subst he
      go_wp2
      go_ret
      exact ⟨_, [], _, rfl, by rw [HP.out]; rfl, PT.lit B2.out.size, B2.out.alloc B2.out.size _⟩
end Go.Proofs.YtphccenlflhfjaaGreatDoor.nd
