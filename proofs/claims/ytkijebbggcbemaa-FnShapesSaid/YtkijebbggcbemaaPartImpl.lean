/-
  impl.Part: the part of a node as a tree of its own, in memory of its own: a contract.
-/
import Derived.Test.YtkijebbggcbemaaShift
import Derived.Test.YtkijebbggcbemaaShapeImpl
namespace Go.Proofs.Ytkijebbggcbemaa.nd
open Go.ChangeShapes Go.WideShapes Go.ChangeAt Go.RowKit
set_option linter.unusedVariables false

/-- The nodes from S to I, their kids counted from S on. -/
def partS (l : List Nd) (S I : Nat) : List Nd := ((l.drop S).take (I + 1 - S)).map (shN (-(S : Int)))
def partF (l : List Nd) (i : Int) : List Nd := if shape l = true ∧ 0 ≤ i ∧ i < l.length then partS l ((stO l).getD i.toNat 0) i.toNat else []
theorem partS_len {l : List Nd} {S I : Nat} (h : I < l.length) (hS : S ≤ I) : (partS l S I).length = I + 1 - S := by simp [partS]; omega
theorem partS_get {l : List Nd} {S I J : Nat} (h : I < l.length) (hS : S ≤ I) (hJ : J < I + 1 - S) : (partS l S I)[J]'(by rw [partS_len h hS]; exact hJ) = shN (-(S : Int)) (l[S + J]'(by omega)) := by
  simp [partS]
theorem partS_step {l : List Nd} {S I J : Nat} (h : I < l.length) (hS : S ≤ I) (hJ : J < I + 1 - S) : (partS l S I).take (J + 1) = (partS l S I).take J ++ [shN (-(S : Int)) (l[S + J]'(by omega))] := by
  rw [List.take_succ_eq_append_getElem (by rw [partS_len h hS]; exact hJ), partS_get h hS hJ]
theorem part_yes {l : List Nd} {I : Nat} (h : shape l = true) (hI : I < l.length) : partF l (I : Int) = partS l ((stO l).getD I 0) I := by
  unfold partF
  rw [if_pos ⟨h, by omega, by omega⟩]
  simp
theorem part_no {l : List Nd} {i : Int} (h : startOf l i = -1) : partF l i = [] := by
  unfold partF
  rw [if_neg]
  rintro ⟨h1, h2, h3⟩
  obtain ⟨I, rfl⟩ : ∃ I : Nat, i = I := ⟨i.toNat, by omega⟩
  rw [start_yes h1 (by omega)] at h
  omega

/-- What a function that makes a list of nodes answers. -/
def PtOut (l : List Nd) (w : World) (e : Ending) (w' : World) : Prop :=
  ∃ v z r, e = .returned v ∧ z.map (·.1) = l ∧ PT w.heap.size v z r w' ∧ Below w.heap.size w w'
theorem make_nodes0 (n : Nat) (hn : n ≤ 1048576) (w : World) :
    (Instr.makeSlice 24 (.int .i64 0) (.int .i64 (n : Int))).run Try.prog w = .ok (.slice (some ⟨w.heap.size, 0, none⟩) 0 n) (w.alloc (.cells (madeCells #[.int .i64 0, .int .i64 0, .string ⟨#[]⟩, .string ⟨#[]⟩, .slice none 0 0] (n * 5)) 35)) := by
  obtain ⟨i, hi, hz⟩ := Option.map_eq_some_iff.1 Try.infoNode
  simp only [Prod.mk.injEq] at hz
  obtain ⟨hz0, hs, hb⟩ := hz
  have := run_make (P := Try.prog) w 24 35 i _ Try.underlying24 hi hz0 .i64 .i64 0 n (by omega) (by omega) (by rw [hb]; omega) (by omega)
  rw [hs] at this
  exact this
theorem PT.made {B : Nat} {w : World} (n : Nat) (hn : n ≤ 1048576) (hB : B ≤ w.heap.size) : PT B (.slice (some ⟨w.heap.size, 0, none⟩) 0 n) [] (fun i => i) (w.alloc (.cells (madeCells #[.int .i64 0, .int .i64 0, .string ⟨#[]⟩, .string ⟨#[]⟩, .slice none 0 0] (n * 5)) 35)) :=
  ⟨⟨rfl, .inr ⟨w.heap.size, n, _, rfl, hB, heap_alloc_new w _, Nat.zero_le _, by unfold maxLen; omega, by simp [madeCells], by simp [fl]⟩⟩, fun i h => by simp at h, fun i h => by simp at h, fun i j _ h => by simp at h, fun i h => by simp at h⟩
theorem one_slice (a : Option Addr) (n c : Nat) : (Value.slice a n c).oneCell' = true := rfl

theorem wrap_k (x : Int) (h1 : -2000000 ≤ x) (h2 : x ≤ 2000000) : IntKind.i64.wrap x = x := by rw [IntKind.wrap_i64]; omega
theorem wrap_w (x : Int) (h1 : -2000000 ≤ x) (h2 : x ≤ 2000000) : wrap64 x = x := by unfold wrap64; omega
theorem part_facts {S I m cap : Nat} (hSI : S ≤ I) (hI : I < 1048576) (hm : m = I + 1 - S) (hic : I + 1 ≤ cap) :
    (I : Int) + 1 - (S : Int) = (m : Int) ∧ ¬ (S : Int) < 0 ∧ S + m = I + 1 ∧ (0 : Int) ≤ (S : Int) ∧ (S : Int) ≤ (I : Int) + 1 ∧ (I : Int) + 1 ≤ (cap : Int) ∧ ¬ cap = S ∧ S < cap :=
  ⟨by omega, by omega, by omega, by omega, by omega, by omega, by omega, by omega⟩
theorem part_wraps {S I m : Nat} (hS : S ≤ 1048576) (hI : I < 1048576) (hm : m ≤ 1048576) :
    IntKind.i64.wrap (-(S : Int)) = -(S : Int) ∧ wrap64 (-(S : Int)) = -(S : Int) ∧ IntKind.i64.wrap ((I : Int) + 1) = (I : Int) + 1 ∧ wrap64 ((I : Int) + 1) = (I : Int) + 1 ∧ IntKind.i64.wrap (m : Int) = (m : Int) ∧ wrap64 (m : Int) = (m : Int) :=
  ⟨wrap_k _ (by omega) (by omega), wrap_w _ (by omega) (by omega), wrap_k _ (by omega) (by omega), wrap_w _ (by omega) (by omega), wrap_k _ (by omega) (by omega), wrap_w _ (by omega) (by omega)⟩
def RelPa (B : Nat) (W : World) (q : List Nd) (v j : Value) (wr : World) : Prop :=
  ∃ (J : Nat) (z : List (Nd × Value)) (r : Nat → Nat), J ≤ q.length ∧ PT B v z r wr ∧ z.map (·.1) = q.take J ∧ j = .int .i64 (J : Int) ∧ Below B W wr

set_option maxRecDepth 20000 in
set_option maxHeartbeats 3200000 in
theorem impl_part (l : List Nd) (i : Int) (a : Option Addr) (cap : Nat) (w : World) (hn : l.length ≤ 1048576) (hcap : l.length ≤ cap) (hk : ∀ t ∈ l, t.kids.length ≤ 1048576) (hc : Lies w.heap.size w a l) :
    Calls Try.prog 9 #[.slice a l.length cap, .int .i64 i] w (PtOut (partF l i) w) := by
  have HC := Lib.hid hc
  have HK := Lib.hid hk
  clear hc hk
  by_cases hst : startOf l i = -1
  · have HS := Lib.hid hst
    have HP := Lib.hid (part_no hst)
    clear hst
    go_enter Try.func9, Try.ntmps9
    go_wp2_with fail
    refine (impl_start l i a cap _ hn HK.out HC.out).mono ?_
    rintro e w2 ⟨he, b2⟩
    rw [HS.out] at he
    subst he
    go_wp2
    go_ret
    exact ⟨.slice none 0 0, [], _, rfl, by rw [HP.out]; rfl, PT.nil _ _, b2⟩
  have hsh : shape l = true ∧ 0 ≤ i ∧ i ≤ (l.length : Int) - 1 := by
    cases hs : shape l
    · exact absurd (start_no (.inl hs)) hst
    · refine ⟨rfl, ?_⟩
      rcases Classical.em (0 ≤ i ∧ i ≤ (l.length : Int) - 1) with h | h
      · exact h
      · exact absurd (start_no (l := l) (.inr h)) hst
  obtain ⟨hs, hi0, hi1⟩ := hsh
  obtain ⟨I, rfl⟩ : ∃ I : Nat, i = I := ⟨i.toNat, by omega⟩
  have hIl : I < l.length := by omega
  obtain ⟨_, h400, _, hsl, hlow, _⟩ := shape_yes hs
  obtain ⟨S, hS⟩ : ∃ S, S = (stO l).getD I 0 := ⟨_, rfl⟩
  have hSI : S ≤ I := by rw [hS]; exact hlow.get (by omega)
  have HST := Lib.hid (show startOf l (I : Int) = (S : Int) by rw [start_yes hs hIl, hS])
  have HP := Lib.hid (show partF l (I : Int) = partS l S I by rw [part_yes hs hIl, hS])
  obtain ⟨m, hm⟩ : ∃ m, m = I + 1 - S := ⟨_, rfl⟩
  have hlenq := partS_len hIl hSI
  rw [← hm] at hlenq
  have HLQ := Lib.hid hlenq
  obtain ⟨b, o, rfl, hb, hcell⟩ := lies_at HC.out hIl
  have HCELL := Lib.hid hcell
  have h400' : m ≤ 400 := by omega
  have hmb : m ≤ 1048576 := by omega
  have hic : I + 1 ≤ cap := by omega
  have hIb : I < 1048576 := by omega
  have hSb : S ≤ 1048576 := by omega
  have HPT0 := Lib.hid (fun (W : World) (h : w.heap.size ≤ W.heap.size) => PT.made (B := w.heap.size) (w := W) m hmb h)
  have HM := Lib.hid hm
  have HX := Lib.hid (impl_start l (I : Int) (some ⟨b, o, none⟩) cap w hn HK.out HC.out)
  have HII := Lib.hid hIl
  have H400 := Lib.hid h400'
  have HSI := Lib.hid hSI
  have HCAP := Lib.hid hcap
  have HIC := Lib.hid hic
  obtain ⟨hmI, hs0, hSm, j0, j1, j2, jc, jc2⟩ := part_facts hSI hIb hm hic
  obtain ⟨j4, j5, j6, j7, j8, j9⟩ := part_wraps hSb hIb hmb
  have hmk : ∀ w : World, (Instr.makeSlice 24 (.int .i64 0) (.int .i64 (m : Int))).run Try.prog w = .ok (.slice (some ⟨w.heap.size, 0, none⟩) 0 m) (w.alloc (.cells (madeCells #[.int .i64 0, .int .i64 0, .string ⟨#[]⟩, .string ⟨#[]⟩, .slice none 0 0] (m * 5)) 35)) := fun w => make_nodes0 m hmb w
  have HSM := Lib.hid hSm
  have HMB := Lib.hid hmb
  clear hst hs hsl hlow hS hlenq hm hcell hi0 hi1 hSm h400' hSI hcap hn h400 hb hIl hic hmb hIb hSb
  go_enter Try.func9, Try.ntmps9
  go_wp2_with fail
  refine HX.out.mono ?_
  rintro e w2 ⟨he, b2⟩
  rw [HST.out] at he
  subst he
  have HB2 := Lib.hid b2
  clear b2
  go_wp2_with fail
  rw [← HM.out]
  have HJ4 := Lib.hid j4
  have HJ5 := Lib.hid j5
  clear j4 j5 j6 j7 j8 j9 j1 j2 jc jc2 hmI hmk
  go_loopw [6, 25] (fun v j wr => RelPa w.heap.size w (partS l S I) v j wr) (fun _ j _ => m - (intOf j).toNat)
  case atStart => exact ⟨0, [], _, by omega, HPT0.out w2 HB2.out.size, by simp, rfl, HB2.out.alloc HB2.out.size _⟩
  case round =>
    obtain ⟨J, z, r, hJ, hpt, hz, rfl, hbel⟩ := hrel
    have HPT := Lib.hid hpt
    have HZ := Lib.hid hz
    have HB := Lib.hid hbel
    have hzl : z.length = J := by
      have := congrArg List.length hz
      rw [List.length_map, List.length_take, HLQ.out] at this
      rw [HLQ.out] at hJ
      omega
    have HZL := Lib.hid hzl
    obtain ⟨av, cv, rfl⟩ := hpt.form
    rw [HLQ.out] at hJ
    clear hpt hz hbel hzl
    by_cases hlt : J < m
    · have hIJ : S + J < l.length := by have := HSM.out; have := HII.out; omega
      obtain ⟨ak, ck, h5, hik⟩ := HCELL.out (S + J) hIJ
      have hbw : b < w.heap.size := by
        rcases HC.out with h | ⟨b', o', e, hb, _⟩
        · rw [h] at hIJ; simp at hIJ
        · injection e with e; injection e with e; omega
      obtain ⟨c0, c1, c2, c3, c4⟩ := h5.keep HB.out hbw
      have HSTEP := Lib.hid (partS_step HII.out HSI.out (J := J) (by rw [← HM.out]; exact hlt))
      have HKK := Lib.hid (HK.out l[S + J] (List.getElem_mem hIJ))
      obtain ⟨t, ht⟩ : ∃ t, t = l[S + J] := ⟨_, rfl⟩
      rw [← ht] at c0 c1 c2 c3 c4 hik HSTEP HKK
      have HIK := Lib.hid (hik.keep HB.out (Nat.le_refl _))
      rw [Nat.add_mul, ← Nat.add_assoc] at c0 c1 c2 c3 c4
      have hj1 : (J : Int) < (m : Int) := by omega
      have hj0 : (0 : Int) ≤ (J : Int) := by omega
      have HJM := Lib.hid hlt
      clear ht h5 hik hIJ hbw
      have j4 := HJ4.out
      have j5 := HJ5.out
      go_wp2_with fail
      clear j4 j5
      have hb0 := (Below.refl wr.heap.size wr).alloc (Nat.le_refl _) (.cells #[.int .i64 t.k, .int .i64 t.op, .string t.s, .string t.t, .slice ak t.kids.length ck] 35)
      have hbs := HB.out.size
      refine (impl_shifted t (-(S : Int)) ak ck _ HKK.out ((HIK.out.keep hb0 hbs).up (Nat.le_trans hbs hb0.size))).mono ?_
      rintro e w3 ⟨u, rfl, own3, b3⟩
      have HB3 := Lib.hid (hb0.trans (b3.mono hb0.size))
      have HBW := Lib.hid (HB.out.trans (HB3.out.mono hbs))
      have HPT3 := Lib.hid (HPT.out.keep HB3.out (Nat.le_refl _))
      have hsz1 : wr.heap.size + 1 ≤ w3.heap.size := by have := b3.size; simp at this; exact this
      have hup : ∀ g, u.ownBlock = some g → wr.heap.size ≤ g := fun g hg => by
        have := (World.ownsRow.lt own3 g hg).1
        simp at this
        omega
      obtain ⟨ua, uc, hu⟩ := own3.form
      rw [shK_len] at hu
      obtain ⟨bk, hbk1, hbk2, hkv⟩ := KidV.of_own (own3.up (show w.heap.size ≤ _ by simp; omega)) wr.heap.size (by omega) hbs hup
      have hoff : (Value.slice av z.length cv).ownBlock ≠ some bk := fun e => by
        have := (World.ownsRow.lt HPT.out.own bk e).2
        omega
      have hrb : ∀ i, i < z.length → r i ≠ bk := fun i hi => Nat.ne_of_lt (Nat.lt_of_lt_of_le (HPT.out.lt i hi) hbk1)
      have hzle : z.length ≤ 1048576 := by rw [HZL.out]; have := HMB.out; have := HJM.out; omega
      have HKV := Lib.hid (show KidV w.heap.size w3 bk u (shN (-(S : Int)) t).kids from hkv)
      have HW3 := Lib.hid (show w.heap.size ≤ w3.heap.size from HBW.out.size)
      have HOFF := Lib.hid hoff
      have HRB := Lib.hid hrb
      have HBK := Lib.hid hbk2
      have HU := Lib.hid hu
      have HZLE := Lib.hid hzle
      clear hb0 hbs own3 b3 hsz1 hup hkv hoff hrb hbk1 hbk2 hzle c0 c1 c2 c3 c4
      subst hu
      have hmb := HMB.out
      have hJM := HJM.out
      go_wp2_with (refine wpList_append_node _ (shN (-(S : Int)) t) _ rfl _ _ rfl w.heap.size _ z r bk rfl HPT3.out rfl rfl HZLE.out HW3.out HKV.out HRB.out HBK.out HOFF.out ?_; intro v' r' w4 pt4 b4 _ _)
      go_roundw
      case rel =>
        refine ⟨J + 1, _, r', by rw [HLQ.out]; have := HJM.out; omega, pt4, ?_, by go_num, HBW.out.trans b4⟩
        rw [List.map_append, HZ.out, HSTEP.out]
        rfl
      case measure => simp [intOf]; have := HJM.out; omega
    · obtain rfl : J = m := by omega
      go_wp2
      go_ret
      exact ⟨_, z, r, rfl, by rw [HP.out, HZ.out, List.take_of_length_le (by rw [HLQ.out]; exact Nat.le_refl _)], HPT.out, HB.out⟩
end Go.Proofs.Ytkijebbggcbemaa.nd
