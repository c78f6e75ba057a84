/-
  'laws.FnExactPart' returns true at every list of nodes and every index, and leaves them as they were: impl.Part and the model spec.Part give the same nodes, and what impl.Part hands back lies in memory of its own: what is written into the argument does not turn it, and what is written into it stands through a second call. No condition.
-/
import Derived.Test.YtajmijbidgfcbaaRows
import Derived.Test.YtajmijbidgfcbaaBase
import Derived.Test.YtajmijbidgfcbaaNdEq
import Derived.Test.YtajmijbidgfcbaaOpenNd
import Derived.Test.YtajmijbidgfcbaaPartSpec
import Derived.Test.YtajmijbidgfcbaaHeldTree
namespace Go.Proofs.Ytajmijbidgfcbaa.lawPart
open Go.ChangeShapes Go.WideShapes Go.ChangeAt Go.RowKit
open nd mark
set_option linter.unusedVariables false

theorem sz_shN (x : Int) (n : Nd) : (shN x n).sz = n.sz := by simp [shN, Nd.sz, shK_len]
theorem tot_map (x : Int) (l : List Nd) : tot (l.map (shN x)) = tot l := by
  induction l with
  | nil => rfl
  | cons n l ih => simp only [List.map_cons, tot, ih, sz_shN]
theorem tot_drop (l : List Nd) (S : Nat) : tot (l.drop S) ≤ tot l := by
  have := tot_append (l.take S) (l.drop S)
  rw [List.take_append_drop] at this
  omega
theorem part_tot (l : List Nd) (i : Int) : (partF l i).length + tot (partF l i) ≤ l.length + tot l := by
  unfold partF
  split
  · unfold partS
    rw [tot_map, List.length_map]
    have h1 := tot_le (l.drop ((stO l).getD i.toNat 0)) (i.toNat + 1 - (stO l).getD i.toNat 0)
    have h2 := tot_drop l ((stO l).getD i.toNat 0)
    have h3 : ((l.drop ((stO l).getD i.toNat 0)).take (i.toNat + 1 - (stO l).getD i.toNat 0)).length ≤ l.length := by simp; omega
    omega
  · simp [tot]

/-- A list of nodes in memory of one's own from S on. -/
structure GO (S : Nat) (a : Option Addr) (cap : Nat) (q : List Nd) (w : World) : Prop where
  own : q = [] ∨ ∃ g r, a = some ⟨g, 0, none⟩ ∧ S ≤ g ∧ Tr S w g cap q r
theorem GO.of {S : Nat} {v : Value} {z : List (Nd × Value)} {r : Nat → Nat} {w : World} {q : List Nd} (h : PT S v z r w) (hz : z.map (·.1) = q) : ∃ a cap, v = .slice a q.length cap ∧ GO S a cap q w := by
  have hl : z.length = q.length := by rw [← hz]; simp
  rcases h.tr with ⟨hv, h0⟩ | ⟨g, cap, hv, hS, ht⟩
  · exact ⟨none, 0, by rw [hv, ← hl, h0]; rfl, ⟨.inl (by rw [← hz, h0]; rfl)⟩⟩
  · exact ⟨_, cap, by rw [hv, hl], ⟨.inr ⟨g, r, rfl, hS, by rw [← hz]; exact ht⟩⟩⟩
theorem GO.keep {S : Nat} {a : Option Addr} {cap : Nat} {q : List Nd} {w w' : World} (h : GO S a cap q w) (hb : Below w.heap.size w w') : GO S a cap q w' := by
  refine ⟨h.own.imp id ?_⟩
  rintro ⟨g, r, e, hS, ht⟩
  exact ⟨g, r, e, hS, ht.keep hb (Nat.le_refl _)⟩
theorem GO.above {S : Nat} {a : Option Addr} {cap : Nat} {q : List Nd} {w w' : World} (h : GO S a cap q w) (hb : Above S w w') (hs : w.heap.size ≤ w'.heap.size) : GO S a cap q w' := by
  refine ⟨h.own.imp id ?_⟩
  rintro ⟨g, r, e, hS, ht⟩
  exact ⟨g, r, e, hS, Tr.above ht hb hs hS⟩
theorem GO.lies {S : Nat} {a : Option Addr} {cap : Nat} {q : List Nd} {w : World} (h : GO S a cap q w) : Lies w.heap.size w a q := by
  rcases h.own with h | ⟨g, r, e, hS, ht⟩
  · exact .inl h
  · rw [e]; exact ht.lies
theorem mark_none (a : Option Addr) (cap : Nat) (k : Int) (w : World) :
    Calls Try.prog 20 #[.slice a 0 cap, .int .i64 k] w fun e w' => e = .returned (.int .i64 k) ∧ w = w' := by
  go_enter Try.func20, Try.ntmps20
  go_wp2
  go_loop [1, 5] (fun k' i => k' = .int .i64 k ∧ i = .int .i64 0) (fun _ _ => 0)
  case atStart => exact ⟨rfl, rfl⟩
  case round =>
    obtain ⟨rfl, rfl⟩ := hrel
    go_wp2
    go_ret
    exact ⟨rfl, rfl⟩
theorem mark_go {S : Nat} {a : Option Addr} {cap : Nat} {q : List Nd} {w : World} (h : GO S a cap q w) (hq : q.length + tot q ≤ 1048576) :
    Calls Try.prog 20 #[.slice a q.length cap, .int .i64 1] w fun e w' => e = .returned (.int .i64 (endM (lens q) 1 : Int)) ∧ Below S w w' ∧ Lies w'.heap.size w' a (mkL (lens q) 1) ∧ w.heap.size ≤ w'.heap.size := by
  rcases h.own with h0 | ⟨g, r, rfl, hS, ht⟩
  · subst h0
    exact (mark_none a cap 1 w).mono fun e w' ⟨he, hw⟩ => ⟨he, by rw [← hw]; exact Below.refl _ _, .inl rfl, by rw [← hw]; exact Nat.le_refl _⟩
  · exact (mark_nodes (S := w.heap.size) q w hq ht hS ht.lt ht.2.2).mono fun e w' ⟨he, hm⟩ => ⟨he, hm.bel, hm.tr.lies, hm.siz⟩

set_option maxHeartbeats 3200000 in
/-- THE WALK: the law's own text. -/
theorem walk (l : List Nd) (a : Option Addr) (cap : Nat) (i : Int) (w : World) (hc : Lies w.heap.size w a l) (hn : l.length ≤ maxLen) (hm : ∀ t ∈ l, t.fit) (hi : (Lit.int .i64 i).wf = true) :
    Calls Try.prog 5 #[.slice a l.length cap, .int .i64 i] w fun e w' => e = .returned (.bool true) ∧ Below w.heap.size w w' := by
  have HC := Lib.hid hc
  have HN := Lib.hid hn
  have HM := Lib.hid hm
  clear hc hm hn hi
  by_cases h1 : ((l.length + tot l : Nat) : Int) ≤ 1048576
  · obtain ⟨L, hL⟩ : ∃ L : Int, L = 1048576 - ((l.length + tot l : Nat) : Int) := ⟨_, rfl⟩
    have H1 := Lib.hid (show sz l 1048576 = L by rw [hL]; exact left_yes h1)
    have hlb : l.length ≤ 1048576 := by omega
    have HTOT := Lib.hid (show l.length + tot l ≤ 1048576 by omega)
    have HKK := Lib.hid (kids_le (l := l) (by omega))
    have hpt := part_tot l i
    obtain ⟨q, hq⟩ : ∃ q, q = partF l i := ⟨_, rfl⟩
    rw [← hq] at hpt
    have HQ := Lib.hid hq
    have HQT := Lib.hid (show q.length + tot q ≤ 1048576 by omega)
    have hqb : q.length ≤ 1048576 := by omega
    have HQK := Lib.hid (kids_le (l := q) (by omega))
    obtain ⟨k, hk⟩ : ∃ k, k = endM (lens l) 1 := ⟨_, rfl⟩
    obtain ⟨m, hme⟩ : ∃ m, m = endM (lens q) 1 := ⟨_, rfl⟩
    have HK := Lib.hid hk
    have HME := Lib.hid hme
    have zk : ¬ (k : Int) < 0 := by omega
    have zm : ¬ (m : Int) < 0 := by omega
    have zz : ((m : Int) != (m : Int)) = false := by simp
    have z1 : ¬ L < 0 := by omega
    have HLN := Lib.hid (show (lens q).length = q.length by simp [lens])
    have HB6 := Lib.hid (show ∀ I, endM ((lens q).take I) 1 ≤ 6000000 from fun I => by
      have := end_le q I 1 HQT.out (Nat.le_refl _)
      rwa [show lens (q.take I) = (lens q).take I by simp [lens, List.map_take]] at this)
    have HM6 := Lib.hid (show ∀ x ∈ lens q, x ≤ 1048576 from fun x hx => by
      obtain ⟨t, ht, rfl⟩ := List.mem_map.1 hx
      exact HQK.out t ht)
    clear h1 hL hpt hq hk hme
    go_enter Try.func5, Try.ntmps5
    go_wp2_with fail
    refine (size_nodes l a cap 1048576 _ (by omega) (by omega) HN.out HC.out HM.out).mono ?_
    rintro e w1 ⟨he, b1⟩
    rw [H1.out] at he
    subst he
    have B1 := Lib.hid b1
    clear b1
    go_wp2_with fail
    refine (to_nodes l a cap _ hlb HKK.out (HC.out.on B1.out (Nat.le_refl _))).mono ?_
    rintro e w3 ⟨rfl, b3, r3, k3⟩
    have B3 := Lib.hid (B1.out.trans (b3.mono B1.out.size))
    have K3 := Lib.hid k3
    clear b3 k3
    go_wp2_with fail
    refine (spec_part l i _ _ _ hlb (Nat.le_refl _) HKK.out K3.out.lies).mono ?_
    rintro e w5 ⟨v0, z0, r0, rfl, hz0, pt0, b5⟩
    rw [← HQ.out] at hz0
    obtain ⟨a0, c0, rfl, go0⟩ := GO.of pt0 hz0
    have B5 := Lib.hid (B3.out.trans (b5.mono B3.out.size))
    have L0 := Lib.hid go0.lies
    clear b5 pt0 go0 hz0
    go_wp2_with fail
    refine (to_nodes l a cap _ hlb HKK.out (HC.out.on B5.out (Nat.le_refl _))).mono ?_
    rintro e w6 ⟨rfl, b6, r6, k6⟩
    have B6 := Lib.hid (B5.out.trans (b6.mono B5.out.size))
    have C6 := Lib.hid b6
    have K6 := Lib.hid k6
    clear b6 k6
    go_wp2_with fail
    refine (impl_part l i _ _ _ hlb (Nat.le_refl _) HKK.out K6.out.lies).mono ?_
    rintro e w7 ⟨v1, z1', r1, rfl, hz1, pt1, b7⟩
    rw [← HQ.out] at hz1
    obtain ⟨a1, c1, rfl, go1⟩ := GO.of pt1 hz1
    have B7 := Lib.hid (B6.out.trans (b7.mono B6.out.size))
    have C7 := Lib.hid (C6.out.trans (b7.mono C6.out.size))
    have K7 := Lib.hid (K6.out.keep b7 (Nat.le_refl _))
    have G7 := Lib.hid go1
    have S7 := Lib.hid b7.size
    clear b7 pt1 go1 hz1
    go_wp2_with fail
    refine (eq_nodes q q _ _ _ _ _ hqb hqb HQK.out HQK.out G7.out.lies (L0.out.on C7.out (Nat.le_refl _))).mono ?_
    rintro e w8 ⟨he, b8⟩
    rw [decide_eq_true rfl] at he
    subst he
    have B8 := Lib.hid (B7.out.trans (b8.mono B7.out.size))
    have C8 := Lib.hid (C7.out.trans (b8.mono C7.out.size))
    have K8 := Lib.hid (K7.out.keep b8 (Nat.le_refl _))
    have G8 := Lib.hid (G7.out.keep b8)
    have S8 := Lib.hid (Nat.le_trans S7.out b8.size)
    clear b8
    go_wp2_with fail
    refine (to_nodes l a cap _ hlb HKK.out (HC.out.on B8.out (Nat.le_refl _))).mono ?_
    rintro e w9 ⟨rfl, b9, r9, k9⟩
    have B9 := Lib.hid (B8.out.trans (b9.mono B8.out.size))
    have C9 := Lib.hid (C8.out.trans (b9.mono C8.out.size))
    have K9 := Lib.hid (K8.out.keep b9 (Nat.le_refl _))
    have G9 := Lib.hid (G8.out.keep b9)
    have S9 := Lib.hid (Nat.le_trans S8.out b9.size)
    have X9 := Lib.hid k9.lies
    clear b9 k9
    go_wp2_with fail
    refine (eq_nodes l l _ _ _ _ _ hlb hlb HKK.out HKK.out K9.out.lies X9.out).mono ?_
    rintro e wa ⟨he, ba⟩
    rw [decide_eq_true rfl] at he
    subst he
    have Ba := Lib.hid (B9.out.trans (ba.mono B9.out.size))
    have Ca := Lib.hid (C9.out.trans (ba.mono C9.out.size))
    have Ka := Lib.hid (K9.out.keep ba (Nat.le_refl _))
    have Ga := Lib.hid (G9.out.keep ba)
    have Sa := Lib.hid (Nat.le_trans S9.out ba.size)
    clear ba
    go_wp2_with fail
    refine (mark_nodes (S := w6.heap.size) l wa HTOT.out Ka.out (Nat.le_refl _) K6.out.lt K6.out.2.2).mono ?_
    rintro e wb ⟨he, mb⟩
    rw [← HK.out] at he
    subst he
    have Bb := Lib.hid (Ba.out.trans (mb.bel.mono B5.out.size))
    have Cb := Lib.hid (Ca.out.trans mb.bel)
    have Gb := Lib.hid (Ga.out.above mb.abo mb.siz)
    have Sb := Lib.hid (Nat.le_trans Sa.out mb.siz)
    clear mb
    go_wp2_with fail
    refine (eq_nodes q q _ _ _ _ _ hqb hqb HQK.out HQK.out Gb.out.lies (L0.out.on Cb.out (Nat.le_refl _))).mono ?_
    rintro e wc ⟨he, bc⟩
    rw [decide_eq_true rfl] at he
    subst he
    have Bc := Lib.hid (Bb.out.trans (bc.mono Bb.out.size))
    have Cc := Lib.hid (Cb.out.trans (bc.mono Cb.out.size))
    have Gc := Lib.hid (Gb.out.keep bc)
    have Sc := Lib.hid (Nat.le_trans Sb.out bc.size)
    clear bc
    go_wp2_with fail
    refine (mark_go Gc.out HQT.out).mono ?_
    rintro e wd ⟨he, bd, ld, sd⟩
    rw [← HME.out] at he
    subst he
    have Bd := Lib.hid (Bc.out.trans (bd.mono B6.out.size))
    have Cd := Lib.hid (Cc.out.trans (bd.mono C6.out.size))
    have Ld := Lib.hid ld
    clear bd ld sd
    go_wp2_with fail
    rw [← HLN.out]
    refine (held_nodes a1 c1 (lens q) wd HB6.out HM6.out (by rw [HLN.out]; exact hqb) Ld.out).mono ?_
    rintro e we ⟨he, be⟩
    rw [← HME.out] at he
    subst he
    rw [HLN.out]
    have Be := Lib.hid (Bd.out.trans (be.mono Bd.out.size))
    have Ce := Lib.hid (Cd.out.trans (be.mono Cd.out.size))
    have Le := Lib.hid (Ld.out.on be (Nat.le_refl _))
    clear be
    go_wp2_with fail
    refine (to_nodes l a cap _ hlb HKK.out (HC.out.on Be.out (Nat.le_refl _))).mono ?_
    rintro e wf ⟨rfl, bf, rf, kf⟩
    have Bf := Lib.hid (Be.out.trans (bf.mono Be.out.size))
    have Cf := Lib.hid (Ce.out.trans (bf.mono Ce.out.size))
    have Lf := Lib.hid (Le.out.on bf (Nat.le_refl _))
    have Kf := Lib.hid kf
    clear bf kf
    go_wp2_with fail
    refine (impl_part l i _ _ _ hlb (Nat.le_refl _) HKK.out Kf.out.lies).mono ?_
    rintro e wg ⟨v2, z2, r2, rfl, hz2, pt2, bg⟩
    rw [← HQ.out] at hz2
    obtain ⟨a2, c2, rfl, go2⟩ := GO.of pt2 hz2
    have Bg := Lib.hid (Bf.out.trans (bg.mono Bf.out.size))
    have Cg := Lib.hid (Cf.out.trans (bg.mono Cf.out.size))
    have Lg := Lib.hid (Lf.out.on bg (Nat.le_refl _))
    have Gg := Lib.hid go2.lies
    clear bg pt2 go2 hz2
    go_wp2_with fail
    refine (eq_nodes q q _ _ _ _ _ hqb hqb HQK.out HQK.out Gg.out (L0.out.on Cg.out (Nat.le_refl _))).mono ?_
    rintro e wh ⟨he, bh⟩
    rw [decide_eq_true rfl] at he
    subst he
    have Bh := Lib.hid (Bg.out.trans (bh.mono Bg.out.size))
    have Lh := Lib.hid (Lg.out.on bh (Nat.le_refl _))
    clear bh
    go_wp2_with fail
    rw [← HLN.out]
    refine (held_nodes a1 c1 (lens q) wh HB6.out HM6.out (by rw [HLN.out]; exact hqb) Lh.out).mono ?_
    rintro e wi ⟨he, bi⟩
    rw [← HME.out] at he
    subst he
    rw [HLN.out]
    have Bi := Lib.hid (Bh.out.trans (bi.mono Bh.out.size))
    clear bi
    go_wp2
    go_ret
    exact ⟨rfl, Bi.out⟩
  · have H1 := Lib.hid (show sz l 1048576 = -1 from left_no h1)
    clear h1
    go_enter Try.func5, Try.ntmps5
    go_wp2_with fail
    refine (size_nodes l a cap 1048576 _ (by omega) (by omega) HN.out HC.out HM.out).mono ?_
    rintro e w1 ⟨he, b1⟩
    rw [H1.out] at he
    subst he
    have B1 := Lib.hid b1
    clear b1
    go_wp2
    go_ret
    exact ⟨rfl, B1.out⟩
end Go.Proofs.Ytajmijbidgfcbaa.lawPart
namespace Go.Proofs.Ytajmijbidgfcbaa.lawPart
open Go.ChangeShapes Go.WideShapes Go.ChangeAt Go.RowKit
open Go.ChangeMaps (open_string shut_string)
theorem laidOut : laidOutB Try.prog = true := by kernel_rfl
theorem own : ownKnob Try.prog.godebug = none := by kernel_rfl

set_option maxRecDepth 100000 in
theorem lifted (os : Os) (started : os.Started) (H : Type) (enc : TypeId × Value → H) :
    ReturnsInHanded {} Try.checked os 5 .any (Rows.fnExactPartSpec.pre6 enc Try.prog Try.f5 Rows.fnExactPartRow.domain false) (Rows.fnExactPartSpec.post enc Try.prog Try.f5 false true false false) := by
  refine returnsInHanded_of_change (C := Try.checked) own started (by kernel_rfl) Try.func5
    (ChangeSpec.witness6 (enc := enc) (C := Try.checked) false ⟨#[], #[.slice none 0 0, .int .i64 0], []⟩ 8 (by kernel_rfl) (by kernel_rfl) (by kernel_rfl) (by kernel_rfl)) ?_
  intro W base args ds gs before hval0 hW hcnd _
  have hval : ∀ (j : Nat) t v, Try.f5.params[j]? = some t → args[j]? = some v → Value.okWide Try.prog W .any base t v := hval0
  have hW' := hW
  obtain ⟨p, q, hA0, hV, rfl, hfz, hnd⟩ := hW
  have hA : DataW.TrodAll enc Try.prog W 0 (fun _ => true) true Try.f5.params.toList args.toList ds p := hA0
  rw [Try.params5] at hA hval
  obtain ⟨v0, vs0, d0, ds0, p0, q0, hargs, rfl, rfl, h0, r0⟩ := trodAll_cons hA
  obtain ⟨v1, vs1, d1, ds1, p1, q1, rfl, rfl, rfl, h1, r1⟩ := trodAll_cons r0
  obtain ⟨rfl, rfl, rfl⟩ := trodAll_nil r1
  obtain rfl : args = #[v0, v1] := by cases args; simp_all
  obtain ⟨rfl, rfl⟩ := trodVars_none hV
  have k0 := h0
  have lt0 := nd.places_lt k0
  obtain ⟨c0, cap0, a0, rfl, n0, w0, m0⟩ := nd.open_nodes (hval 0 22 v0 rfl rfl) h0
  obtain ⟨a1, rfl, rfl, rfl, w1⟩ := open_int Try.underlying3 (hval 1 3 v1 rfl rfl) h1
  clear hA0 hval0
  refine (walk a0 c0 cap0 a1 W w0 n0 m0 w1).mono fun e W' ⟨he, bel⟩ => ?_
  subst he
  exact ⟨_, rfl, _, _, _, [], _, [], hW', trodAll_mk1 (shut_bool Try.underlying4 _), (trodAll_cons_mk (Below.trod laidOut (by kernel_rfl) (of_decide_eq_true (by kernel_rfl)) k0 bel lt0) (trodAll_cons_mk (shut_int Try.underlying3 w1) trodAll_mk0)), rfl, bel.frame _, fun h => by cases h⟩

theorem over : Rows.fnExactPartRow.holds Try.pinned (OpenSpec.ofChange Rows.fnExactPartSpec) :=
  OpenClaim.holds_of_wide 5 Try.f5 rfl rfl rfl rfl rfl rfl rfl ⟨rfl, rfl, rfl, rfl, rfl⟩ rfl rfl rfl rfl rfl (by kernel_rfl) Try.func5 (by kernel_rfl)
    (of_decide_eq_true (by kernel_rfl)) (by unfold Func.isWrapper; first | (rw [if_pos (by decide +kernel)]; kernel_rfl) | (rw [if_neg (by decide +kernel)]; exact ⟨rfl, rfl⟩))
    (fun os started H enc _ => lifted os started H enc)
end Go.Proofs.Ytajmijbidgfcbaa.lawPart
namespace Go.Proofs.Ytajmijbidgfcbaa
/-- The statement. -/
theorem fnExactPart_holds : Rows.FnExactPartSaid := lawPart.over
end Go.Proofs.Ytajmijbidgfcbaa
