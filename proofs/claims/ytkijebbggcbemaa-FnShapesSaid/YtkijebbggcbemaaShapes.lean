/-
  'laws.FnShapes' returns true at every slice of bytes, and leaves it as it was: of the nodes and the place that the model draws from it: where the nodes have a valid shape and the place is one of theirs, impl.Part gives the model's part, with a valid shape, as many nodes as its start says, of no greater depth; the last node has no parent and its part is the whole; every other has a parent behind it, among whose kids it is, and whose part is deeper; elsewhere impl.Part is empty and impl.StartOf -1. No condition.
-/
import Derived.Test.YtkijebbggcbemaaRows
import Derived.Test.YtkijebbggcbemaaIsRow
import Derived.Test.YtkijebbggcbemaaBentC
import Derived.Test.YtkijebbggcbemaaPartMath
import Derived.Test.YtkijebbggcbemaaSameFunc
import Derived.Deep.DeepHandedRow
import Derived.Lib.SmallJoins
namespace Go.Proofs.Ytkijebbggcbemaa.lawShapes
open Go.ChangeShapes Go.WideShapes Go.ChangeAt Go.RowKit
open nd
open draw (Wild)
set_option linter.unusedVariables false

def RelHas (x : Int) (l : List Int) (i : Value) : Prop :=
  ∃ K : Nat, K ≤ l.length ∧ i = .int .i64 (K : Int) ∧ findZ x (l.drop K) K = findZ x l 0
set_option maxHeartbeats 800000 in
theorem has_any (l : List Int) (x : Int) (a : Option Addr) (cap : Nat) (w : World) (hn : l.length ≤ 1048576) (hc : Ints w.heap.size w a l) :
    Calls Try.prog 18 #[.slice a l.length cap, .int .i64 x] w fun e w' => e = .returned (.bool (decide (x ∈ l))) ∧ Below w.heap.size w w' := by
  have HC := Lib.hid hc
  have HM := Lib.hid (findZ_mem x l 0)
  clear hc
  go_enter Try.func18, Try.ntmps18
  go_wp2
  go_loop [5] (fun i => RelHas x l i) (fun i => l.length - (intOf i).toNat)
  case atStart => exact ⟨0, by omega, rfl, rfl⟩
  case round =>
    obtain ⟨K, hK, rfl, hf⟩ := hrel
    have HF := Lib.hid hf
    clear hf
    by_cases hlt : K < l.length
    · obtain ⟨b, o, rfl, hb, hcell⟩ := nd.ints_at HC.out hlt
      have c0 := hcell K hlt
      have HS := Lib.hid (findZ_step (x := x) hlt)
      obtain ⟨y, hy⟩ : ∃ y, y = l[K] := ⟨_, rfl⟩
      rw [← hy] at c0 HS
      have hi1 : (K : Int) < (l.length : Int) := by omega
      have hi0 : (0 : Int) ≤ (K : Int) := by omega
      clear hy hcell
      by_cases he : y = x
      · have HE := Lib.hid (show decide (x ∈ l) = true from decide_eq_true (HM.out.1 (by rw [← HF.out, HS.out, if_pos he]; omega)))
        obtain ⟨q1, q2⟩ := eq_facts he
        clear he
        go_wp2
        go_ret
        exact ⟨by rw [HE.out]; rfl, Below.refl _ _⟩
      · have HE := Lib.hid (show findZ x (l.drop (K + 1)) (K + 1) = findZ x l 0 by rw [← HF.out, HS.out, if_neg he])
        obtain ⟨q1, q2⟩ := ne_facts he
        clear he
        go_wp2
        go_round
        case rel => exact ⟨K + 1, by omega, by go_num, HE.out⟩
        case measure => simp [intOf]; omega
    · obtain rfl : K = l.length := by omega
      have HE := Lib.hid (show decide (x ∈ l) = false from decide_eq_false (fun h => by
        have h1 := HM.out.2 h
        rw [← HF.out, findZ_end] at h1
        omega))
      go_wp2
      go_ret
      exact ⟨by rw [HE.out]; rfl, Below.refl _ _⟩

theorem part_kids (l : List Nd) (i : Int) (k : Nat) (hk : ∀ t ∈ l, t.kids.length ≤ k) : ∀ t ∈ partF l i, t.kids.length ≤ k := by
  intro t ht
  unfold partF at ht
  split at ht
  · unfold partS at ht
    obtain ⟨u, hu, rfl⟩ := List.mem_map.1 ht
    show (shK _ u.kids).length ≤ k
    rw [shK_len]
    exact hk u (List.mem_of_mem_drop (List.mem_of_mem_take hu))
  · cases ht
theorem part_len (l : List Nd) (i : Int) : (partF l i).length ≤ l.length := by
  unfold partF
  split
  · unfold partS
    simp
    omega
  · simp

set_option maxRecDepth 100000 in
set_option maxHeartbeats 4000000 in
theorem core {a : Option Addr} {len cap : Nat} {zs : List Int} {w : World} (hc : draw.Code w.heap.size w a len zs) (hl : len ≤ 1048576) :
    Calls Try.prog 3 #[.slice a len cap] w fun e w' => e = .returned (.bool true) ∧ Below w.heap.size w w' := by
  have HC := Lib.hid hc
  clear hc
  have hbig : decide (1048576 < len) = false := by simp; omega
  go_enter Try.func3, Try.ntmps3
  go_wp2_with fail
  refine (draw.big_any a len cap _ (by omega)).mono ?_
  rintro e w' ⟨he, rfl⟩
  rw [hbig] at he
  subst he
  clear hbig
  go_wp2_with fail
  refine (draw.part_any HC.out hl).mono ?_
  rintro e w1 ⟨q, a2, c2, i, rfl, hi1, hi2, hL, hcq, hW, b1⟩
  have hn2 : q.length ≤ 4600 := hW.1
  have HK := Lib.hid (show ∀ t ∈ q, t.kids.length ≤ 1048576 from fun t ht => Nat.le_trans (hW.2 t ht) (by decide))
  have HL1 := Lib.hid hL
  have B1 := Lib.hid b1
  have HCQ := Lib.hid hcq
  have hqn : q.length ≤ 1048576 := by omega
  have HQN := Lib.hid hqn
  clear hL b1 hW hcq
  go_wp2_with fail
  refine (impl_part q i a2 c2 w1 HQN.out HCQ.out HK.out HL1.out).mono ?_
  rintro e w2 ⟨v, z, r, rfl, hz, pt, b2⟩
  obtain ⟨ax, cx, rfl⟩ := pt.form
  have HX2 := Lib.hid (show Lies w2.heap.size w2 ax (partF q i) by rw [← hz]; exact pt.lies)
  have hzl : z.length = (partF q i).length := by rw [← hz, List.length_map]
  rw [hzl]
  have HL2 := Lib.hid (HL1.out.on b2 (Nat.le_refl _))
  have B2 := Lib.hid (B1.out.trans (b2.mono B1.out.size))
  have HXK := Lib.hid (part_kids q i 1048576 HK.out)
  have HXN := Lib.hid (show (partF q i).length ≤ 1048576 from Nat.le_trans (part_len q i) HQN.out)
  clear hz pt hzl b2
  go_wp2_with fail
  refine (spec_shape q a2 c2 w2 HQN.out HK.out HL2.out).mono ?_
  rintro e w3 ⟨rfl, b3⟩
  have HL3 := Lib.hid (HL2.out.on b3 (Nat.le_refl _))
  have HX3 := Lib.hid (HX2.out.on b3 (Nat.le_refl _))
  have B3 := Lib.hid (B2.out.trans (b3.mono B2.out.size))
  clear b3
  by_cases hg : nd.shape q = true ∧ 0 ≤ i ∧ i < (q.length : Int)
  · obtain ⟨hs, hi0, hin⟩ := hg
    obtain ⟨I, rfl⟩ : ∃ I : Nat, i = (I : Int) := ⟨i.toNat, by omega⟩
    have hI : I < q.length := by omega
    obtain ⟨S, hS⟩ : ∃ S, S = (stO q).getD I 0 := ⟨_, rfl⟩
    have hSI : S ≤ I := by
      obtain ⟨_, _, _, h4, h5, _⟩ := shape_yes hs
      rw [hS]; exact h5.get (by omega)
    have hP := part_yes hs hI
    rw [← hS] at hP
    have HST := Lib.hid (show startOf q (I : Int) = (S : Int) by rw [hS]; exact start_yes hs hI)
    have HSX := Lib.hid (show nd.shape (partF q (I : Int)) = true by rw [hP, hS]; exact part_shape hs hI)
    have HDX := Lib.hid (show depthF (partF q (I : Int)) = dep q I by rw [hP, hS]; exact part_depth hs hI)
    have HDQ := Lib.hid (all_depth hs)
    have hxl : (partF q (I : Int)).length = I + 1 - S := by rw [hP]; exact partS_len hI hSI
    have HALL := Lib.hid (show I + 1 = q.length → partF q (I : Int) = q by
      intro h
      rw [hP, hS, show I = q.length - 1 by omega]
      exact part_all hs)
    have HTOP := Lib.hid (dep_top hs hI)
    have HS := Lib.hid hs
    have hnx := HXN.out
    have HPT := Lib.hid (show Lies w3.heap.size w3 ax (partF q (I : Int)) from HX3.out)
    obtain ⟨x, hx⟩ : ∃ x, x = partF q (I : Int) := ⟨_, rfl⟩
    rw [← hx] at HSX HDX hxl HALL HX3 HXK HXN hnx ⊢
    have HX := Lib.hid hx
    have HXL := Lib.hid hxl
    rw [hs]
    clear hP hS hs hi0 hin hx hxl HPT HX2 HL2 HL1
    have hI0 : ¬ (I : Int) < 0 := by omega
    have hI1 : ¬ (q.length : Int) ≤ (I : Int) := by omega
    go_wp2_with fail
    refine (impl_shape x ax cx w3 HXN.out HXK.out HX3.out).mono ?_
    rintro e w4 ⟨he, b4⟩
    rw [HSX.out] at he
    subst he
    have HL4 := Lib.hid (HL3.out.on b4 (Nat.le_refl _))
    have HX4 := Lib.hid (HX3.out.on b4 (Nat.le_refl _))
    have B4 := Lib.hid (B3.out.trans (b4.mono B3.out.size))
    clear b4
    go_wp2_with fail
    refine (impl_start q I a2 c2 w4 HQN.out HK.out HL4.out).mono ?_
    rintro e w5 ⟨he, b5⟩
    rw [HST.out] at he
    subst he
    have HL5 := Lib.hid (HL4.out.on b5 (Nat.le_refl _))
    have HX5 := Lib.hid (HX4.out.on b5 (Nat.le_refl _))
    have B5 := Lib.hid (B4.out.trans (b5.mono B4.out.size))
    have hxe : (x.length : Int) = (I : Int) - (S : Int) + 1 := by have := HXL.out; omega
    have hxb : ((x.length : Int) != (I : Int) - (S : Int) + 1) = false := by simp [hxe]
    clear b5
    obtain ⟨D, hD⟩ : ∃ D, D = dep q I := ⟨_, rfl⟩
    obtain ⟨T, hT⟩ : ∃ T, T = dep q (q.length - 1) := ⟨_, rfl⟩
    have HD := Lib.hid hD
    rw [← hD] at HDX HTOP
    rw [← hT] at HDQ HTOP
    have hdt : ¬ (T : Int) < (D : Int) := by have := HTOP.out; omega
    clear hD hT
    go_wp2_with fail
    refine (impl_depth x ax cx w5 HXN.out HXK.out HX5.out).mono ?_
    rintro e w6 ⟨he, b6⟩
    rw [HDX.out] at he
    subst he
    have HL6 := Lib.hid (HL5.out.on b6 (Nat.le_refl _))
    have HX6 := Lib.hid (HX5.out.on b6 (Nat.le_refl _))
    have B6 := Lib.hid (B5.out.trans (b6.mono B5.out.size))
    clear b6
    go_wp2_with fail
    refine (impl_depth q a2 c2 w6 HQN.out HK.out HL6.out).mono ?_
    rintro e w7 ⟨he, b7⟩
    rw [HDQ.out] at he
    subst he
    have HL7 := Lib.hid (HL6.out.on b7 (Nat.le_refl _))
    have HX7 := Lib.hid (HX6.out.on b7 (Nat.le_refl _))
    have B7 := Lib.hid (B6.out.trans (b7.mono B6.out.size))
    clear b7
    go_wp2_with fail
    refine (spec_part q I a2 c2 w7 HQN.out HCQ.out HK.out HL7.out).mono ?_
    rintro e w8 ⟨v8, z8, r8, rfl, hz8, pt8, b8⟩
    rw [← HX.out] at hz8
    obtain ⟨a8, c8, rfl⟩ := pt8.form
    have HY8 := Lib.hid (show Lies w8.heap.size w8 a8 x by rw [← hz8]; exact pt8.lies)
    have hzl8 : z8.length = x.length := by rw [← hz8, List.length_map]
    rw [hzl8]
    have HL8 := Lib.hid (HL7.out.on b8 (Nat.le_refl _))
    have HX8 := Lib.hid (HX7.out.on b8 (Nat.le_refl _))
    have B8 := Lib.hid (B7.out.trans (b8.mono B7.out.size))
    clear hz8 pt8 hzl8 b8
    go_wp2_with fail
    refine (spec_same x x ax a8 cx c8 w8 HXN.out HXN.out HXK.out HXK.out HX8.out HY8.out).mono ?_
    rintro e w9 ⟨he, b9⟩
    rw [decide_eq_true rfl] at he
    subst he
    have HL9 := Lib.hid (HL8.out.on b9 (Nat.le_refl _))
    have HX9 := Lib.hid (HX8.out.on b9 (Nat.le_refl _))
    have B9 := Lib.hid (B8.out.trans (b9.mono B8.out.size))
    clear b9
    go_wp2_with fail
    refine (impl_parent q I a2 c2 w9 HQN.out HK.out HL9.out).mono ?_
    rintro e wa ⟨he, ba⟩
    have HLa := Lib.hid (HL9.out.on ba (Nat.le_refl _))
    have HXa := Lib.hid (HX9.out.on ba (Nat.le_refl _))
    have Ba := Lib.hid (B9.out.trans (ba.mono B9.out.size))
    clear ba
    by_cases hlast : I + 1 = q.length
    · rw [show parentF (I : Int) q = -1 by rw [show I = q.length - 1 by omega]; exact par_none HS.out] at he
      subst he
      have HXQ := Lib.hid (HALL.out hlast)
      obtain ⟨e1, e2⟩ := eq_facts (x := (I : Int)) (c := (q.length : Int) - 1) (by omega)
      clear hlast
      go_wp2_with fail
      refine (impl_same x q ax a2 cx c2 wa HXN.out HQN.out HXK.out HK.out HXa.out HLa.out).mono ?_
      rintro e wb ⟨he, bb⟩
      rw [decide_eq_true HXQ.out] at he
      subst he
      have Bb := Lib.hid (Ba.out.trans (bb.mono Ba.out.size))
      clear bb
      go_wp2
      go_ret
      exact ⟨rfl, Bb.out⟩
    · obtain ⟨P, hPq, hIP, hmem, hpar⟩ := par_some HS.out (i := I) (by omega)
      rw [hpar] at he
      subst he
      obtain ⟨e1, e2⟩ := ne_facts (x := (I : Int)) (c := (q.length : Int) - 1) (by omega)
      have hdk := dep_kid HS.out hPq hmem
      rw [← HD.out] at hdk
      have HDY := Lib.hid (show depthF (partF q (P : Int)) = dep q P by rw [part_yes HS.out hPq]; exact part_depth HS.out hPq)
      obtain ⟨E, hE⟩ : ∃ E, E = dep q P := ⟨_, rfl⟩
      rw [← hE] at hdk HDY
      have hgt : (D : Int) < (E : Int) := by omega
      obtain ⟨b, o, rfl, hb, hcell⟩ := lies_at HLa.out hPq
      obtain ⟨ak, ck, ⟨_, _, _, _, q4⟩, hik⟩ := hcell P hPq
      have hkn := HK.out q[P] (List.getElem_mem hPq)
      obtain ⟨t, ht⟩ : ∃ t, t = q[P] := ⟨_, rfl⟩
      rw [← ht] at q4 hik hkn hmem
      have HIK := Lib.hid hik
      have HMEM := Lib.hid hmem
      have hp1 : (I : Int) < (P : Int) := by omega
      have hp2 : (P : Int) < (q.length : Int) := by omega
      have hp0 : (0 : Int) ≤ (P : Int) := by omega
      clear hik hmem hcell ht hE hdk hpar hlast
      go_wp2_with fail
      refine (has_any t.kids I ak ck wa hkn HIK.out).mono ?_
      rintro e wb ⟨he, bb⟩
      rw [decide_eq_true HMEM.out] at he
      subst he
      have HLb := Lib.hid (HLa.out.on bb (Nat.le_refl _))
      have HXb := Lib.hid (HXa.out.on bb (Nat.le_refl _))
      have Bb := Lib.hid (Ba.out.trans (bb.mono Ba.out.size))
      clear bb q4
      go_wp2_with fail
      refine (impl_part q P (some ⟨b, o, none⟩) c2 wb HQN.out HCQ.out HK.out HLb.out).mono ?_
      rintro e wc ⟨vc, zc, rc, rfl, hzc, ptc, bc⟩
      obtain ⟨ac, cc, rfl⟩ := ptc.form
      have HYc := Lib.hid (show Lies wc.heap.size wc ac (partF q P) by rw [← hzc]; exact ptc.lies)
      have hzlc : zc.length = (partF q P).length := by rw [← hzc, List.length_map]
      rw [hzlc]
      have HXc := Lib.hid (HXb.out.on bc (Nat.le_refl _))
      have Bc := Lib.hid (Bb.out.trans (bc.mono Bb.out.size))
      have HYK := Lib.hid (part_kids q P 1048576 HK.out)
      have HYN := Lib.hid (show (partF q P).length ≤ 1048576 from Nat.le_trans (part_len q P) HQN.out)
      clear hzc ptc hzlc bc
      go_wp2_with fail
      refine (impl_depth (partF q P) ac cc wc HYN.out HYK.out HYc.out).mono ?_
      rintro e wd ⟨he, bd⟩
      rw [HDY.out] at he
      subst he
      have HXd := Lib.hid (HXc.out.on bd (Nat.le_refl _))
      have Bd := Lib.hid (Bc.out.trans (bd.mono Bc.out.size))
      clear bd
      go_wp2_with fail
      refine (impl_depth x ax cx wd HXN.out HXK.out HXd.out).mono ?_
      rintro e we ⟨he, be⟩
      rw [HDX.out] at he
      subst he
      have Be := Lib.hid (Bd.out.trans (be.mono Bd.out.size))
      clear be
      go_wp2
      go_ret
      exact ⟨rfl, Be.out⟩
  · have HS := Lib.hid (start_no (l := q) (i := i) (by
      by_cases h : nd.shape q = true
      · exact .inr (fun h2 => hg ⟨h, h2.1, by omega⟩)
      · exact .inl (by simpa using h)))
    have HE := Lib.hid (part_no HS.out)
    have HB := Lib.hid hg
    rw [HE.out]
    have hrun : nd.shape q = true → ¬ (i < 0) → ¬ ((q.length : Int) ≤ i) → False := fun h1 h2 h3 => hg ⟨h1, by omega, by omega⟩
    cases hs : nd.shape q
    · clear hg hrun
      go_wp2_with fail
      refine (impl_start q i a2 c2 w3 HQN.out HK.out HL3.out).mono ?_
      rintro e w4 ⟨he, b4⟩
      rw [HS.out] at he
      subst he
      have B4 := Lib.hid (B3.out.trans (b4.mono B3.out.size))
      clear b4
      go_wp2
      go_ret
      exact ⟨by rfl, B4.out⟩
    · by_cases h0 : i < 0
      · clear hg hrun
        go_wp2_with fail
        refine (impl_start q i a2 c2 w3 HQN.out HK.out HL3.out).mono ?_
        rintro e w4 ⟨he, b4⟩
        rw [HS.out] at he
        subst he
        have B4 := Lib.hid (B3.out.trans (b4.mono B3.out.size))
        clear b4
        go_wp2
        go_ret
        exact ⟨by rfl, B4.out⟩
      · have h1 : (q.length : Int) ≤ i := by
          rcases Int.lt_or_le i (q.length : Int) with h | h
          · exact absurd (hrun hs h0 (by omega)) id
          · exact h
        clear hg hrun
        go_wp2_with fail
        refine (impl_start q i a2 c2 w3 HQN.out HK.out HL3.out).mono ?_
        rintro e w4 ⟨he, b4⟩
        rw [HS.out] at he
        subst he
        have B4 := Lib.hid (B3.out.trans (b4.mono B3.out.size))
        clear b4
        go_wp2
        go_ret
        exact ⟨by rfl, B4.out⟩

set_option maxRecDepth 100000 in
/-- THE WALK: the law's own text. -/
theorem walk (a : Option Addr) (len cap : Nat) (zs : List Int) (w : World) (hz : draw.IsRow .u8 w a len cap zs) :
    Calls Try.prog 3 #[.slice a len cap] w fun e w' => e = .returned (.bool true) ∧ Below w.heap.size w w' := by
  have hlm : len ≤ maxLen := by
    rcases hz with ⟨_, rfl, _, _⟩ | ⟨x, _, hl, hm, _⟩
    · exact Nat.zero_le _
    · exact Nat.le_trans hl hm
  unfold maxLen at hlm
  by_cases hl : len ≤ 1048576
  · exact core (draw.code_of hz) hl
  · have hbig : decide (1048576 < len) = true := by simp; omega
    clear hz
    go_enter Try.func3, Try.ntmps3
    go_wp2_with fail
    refine (draw.big_any a len cap _ (by omega)).mono ?_
    rintro e w' ⟨he, rfl⟩
    rw [hbig] at he
    subst he
    go_wp2
    go_ret
    exact ⟨rfl, Below.refl _ _⟩
end Go.Proofs.Ytkijebbggcbemaa.lawShapes
namespace Go.Proofs.Ytkijebbggcbemaa.lawShapes
open Go.ChangeShapes Go.WideShapes Go.ChangeAt Go.RowKit
open Go.ChangeMaps (open_string shut_string)
abbrev IsRow := draw.IsRow
theorem laidOut : laidOutB Try.prog = true := by kernel_rfl
theorem own : ownKnob Try.prog.godebug = none := by kernel_rfl

set_option maxRecDepth 100000 in
theorem lifted (os : Os) (started : os.Started) (H : Type) (enc : TypeId × Value → H) :
    ReturnsInHanded {} Try.checked os 3 .any (Rows.fnShapesSpec.pre6 enc Try.prog Try.f3 Rows.fnShapesRow.domain false) (Rows.fnShapesSpec.post enc Try.prog Try.f3 false true false false) := by
  refine returnsInHanded_of_change (C := Try.checked) own started (by kernel_rfl) Try.func3
    (ChangeSpec.witness6 (enc := enc) (C := Try.checked) false ⟨#[], #[.slice none 0 0], []⟩ 8 (by kernel_rfl) (by kernel_rfl) (by kernel_rfl) (by kernel_rfl)) ?_
  intro W base args ds gs before hval0 hW hcnd _
  have hval : ∀ (j : Nat) t v, Try.f3.params[j]? = some t → args[j]? = some v → Value.okWide Try.prog W .any base t v := hval0
  have hW' := hW
  obtain ⟨p, q, hA0, hV, rfl, hfz, hnd⟩ := hW
  have hA : DataW.TrodAll enc Try.prog W 0 (fun _ => true) true Try.f3.params.toList args.toList ds p := hA0
  rw [Try.params3] at hA hval
  obtain ⟨v0, vs0, d0, ds0, p0, q0, hargs, rfl, rfl, h0, r0⟩ := trodAll_cons hA
  obtain ⟨rfl, rfl, rfl⟩ := trodAll_nil r0
  obtain rfl : args = #[v0] := by cases args; simp_all
  obtain ⟨rfl, rfl⟩ := trodVars_none hV
  obtain ⟨a0, len0, cap0, rfl⟩ := okWide_slice Try.underlying22 (hval 0 22 v0 rfl rfl)
  have k0 := h0
  have lt0 : ∀ x ∈ p0, x.block < W.heap.size := by obtain ⟨m, hm⟩ := k0; exact DataW.trod_lt m _ _ _ hm
  obtain ⟨z0, w0⟩ : ∃ zs, IsRow .u8 W a0 len0 cap0 zs := by
    obtain ⟨fuel, hf⟩ := h0
    rcases open_ints Try.underlying22 Try.underlying5 (by kernel_rfl) hf with ⟨hcs, _⟩ | ⟨x, l, c, zs, hcs, _, hl, hm, hz, _, hcell, hwz⟩
    · simp [Value.cells] at hcs
      obtain ⟨rfl, rfl, rfl⟩ := hcs
      exact ⟨[], .inl ⟨rfl, rfl, rfl, rfl⟩⟩
    · simp [Value.cells] at hcs
      obtain ⟨rfl, rfl, rfl⟩ := hcs
      exact ⟨zs, .inr ⟨_, rfl, hl, hm, by simpa using hz, hcell, hwz⟩⟩
  clear hA0 hval0
  refine (walk a0 len0 cap0 z0 W w0).mono fun e W' ⟨he, bel⟩ => ?_
  subst he
  exact ⟨_, rfl, _, _, _, [], _, [], hW', trodAll_mk1 (shut_bool Try.underlying4 _), (trodAll_cons_mk (Below.trod laidOut (by kernel_rfl) (of_decide_eq_true (by kernel_rfl)) k0 bel lt0) trodAll_mk0), rfl, bel.frame _, fun h => by cases h⟩

theorem over : Rows.fnShapesRow.holds Try.pinned (OpenSpec.ofChange Rows.fnShapesSpec) :=
  OpenClaim.holds_of_wide 3 Try.f3 rfl rfl rfl rfl rfl rfl rfl ⟨rfl, rfl, rfl, rfl, rfl⟩ rfl rfl rfl rfl rfl (by kernel_rfl) Try.func3 (by kernel_rfl)
    (of_decide_eq_true (by kernel_rfl)) (by unfold Func.isWrapper; first | (rw [if_pos (by decide +kernel)]; kernel_rfl) | (rw [if_neg (by decide +kernel)]; exact ⟨rfl, rfl⟩))
    (fun os started H enc _ => lifted os started H enc)
end Go.Proofs.Ytkijebbggcbemaa.lawShapes
namespace Go.Proofs.Ytkijebbggcbemaa
/-- The statement. -/
theorem fnShapes_holds : Rows.FnShapesSaid := lawShapes.over
end Go.Proofs.Ytkijebbggcbemaa
