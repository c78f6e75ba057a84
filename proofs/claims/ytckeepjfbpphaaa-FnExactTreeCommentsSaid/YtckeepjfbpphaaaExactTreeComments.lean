/-
  'laws.FnExactTreeComments' returns true at every list of nodes, and leaves them as they were: impl.TreeComments and the model spec.TreeComments give the same texts, and what impl.TreeComments hands back lies in memory of its own: what is written into the argument does not turn it, and what is written into it stands through a second call. No condition.
-/
import Derived.Test.YtckeepjfbpphaaaRows
import Derived.Test.YtckeepjfbpphaaaBase
import Derived.Test.YtckeepjfbpphaaaStrMark
import Derived.Test.YtckeepjfbpphaaaTreeComments
import Derived.Test.YtckeepjfbpphaaaNdEq
import Derived.Test.YtckeepjfbpphaaaOpenNd
import Derived.Test.YtckeepjfbpphaaaHeldTree
namespace Go.Proofs.Ytckeepjfbpphaaa.lawTreeComments
open Go.ChangeShapes Go.WideShapes Go.ChangeAt Go.RowKit
open nd strs ncm
set_option linter.unusedVariables false

theorem own_above {B : Nat} {v : Value} {l : List ByteArray} {w w' : World} (h : SOwn B v l w) (ha : ∀ k, B ≤ k → k < w.heap.size → w'.heap[k]? = w.heap[k]?) : SOwn B v l w' := by
  refine ⟨h.1, h.2.elim .inl (fun ⟨g, cap, cur, hv, hg, hblk, r⟩ => .inr ⟨g, cap, cur, hv, hg, ?_, r⟩)⟩
  rw [ha g hg (strs.lt_heap hblk)]
  exact hblk
theorem on_sl {w w' : World} {a : Option Addr} {l : List ByteArray} (h : SL w.heap.size w a l) (b : Below w.heap.size w w') : SL w'.heap.size w' a l := (h.keep b (Nat.le_refl _)).up b.size
theorem on_l {w w' : World} {a : Option Addr} {l : List Nd} (h : Lies w.heap.size w a l) (b : Below w.heap.size w w') : Lies w'.heap.size w' a l := h.on b (Nat.le_refl _)

set_option maxHeartbeats 3200000 in
set_option maxRecDepth 20000 in
/-- THE WALK: the law's own text. -/
theorem walk (l : List Nd) (a : Option Addr) (cap : Nat) (w : World) (hc : Lies w.heap.size w a l) (hn : l.length ≤ maxLen) (hm : ∀ t ∈ l, t.fit) :
    Calls Try.prog 4 #[.slice a l.length cap] w fun e w' => e = .returned (.bool true) ∧ Below w.heap.size w w' := by
  have HC := Lib.hid hc
  have HN := Lib.hid hn
  have HM := Lib.hid hm
  clear hc hm hn
  by_cases h1 : ((l.length + tot l : Nat) : Int) ≤ 1048576
  · obtain ⟨L, hL⟩ : ∃ L : Int, L = 1048576 - ((l.length + tot l : Nat) : Int) := ⟨_, rfl⟩
    have H1 := Lib.hid (show sz l 1048576 = L by rw [hL]; exact left_yes h1)
    have hlb : l.length ≤ 1048576 := by omega
    have HTOT := Lib.hid (show l.length + tot l ≤ 1048576 by omega)
    have HKK := Lib.hid (kids_le (l := l) (by omega))
    have z1 : ¬ L < 0 := by omega
    obtain ⟨k, hk⟩ : ∃ k, k = mark.endM (mark.lens l) 1 := ⟨_, rfl⟩
    obtain ⟨q, hq⟩ : ∃ q, q = cmF l := ⟨_, rfl⟩
    have hqb : q.length ≤ 1048576 := by rw [hq]; exact Nat.le_trans (cm_len l) hlb
    have HQ := Lib.hid hq
    obtain ⟨m, hme⟩ : ∃ m, m = 1 + q.length := ⟨_, rfl⟩
    have HK := Lib.hid hk
    have HME := Lib.hid hme
    have zk : ¬ (k : Int) < 0 := by omega
    have zm : ¬ (m : Int) < 0 := by omega
    have zz : ((m : Int) != (m : Int)) = false := by simp
    clear h1 hL hq hk hme
    go_enter Try.func4, Try.ntmps4
    go_wp2_with fail
    refine (size_nodes l a cap 1048576 _ (by omega) (by omega) HN.out HC.out HM.out).mono ?_
    rintro e w1 ⟨he, b1⟩
    rw [H1.out] at he
    subst he
    have B1 := Lib.hid b1
    clear b1
    go_wp2_with fail
    refine (to_nodes l a cap _ hlb HKK.out (on_l HC.out B1.out)).mono ?_
    rintro e w3 ⟨rfl, b3, r, k3⟩
    have B3 := Lib.hid (B1.out.trans (b3.mono B1.out.size))
    have K3 := Lib.hid k3.lies
    clear b3 k3
    go_wp2_with fail
    refine (spec_cm l _ _ _ hlb K3.out).mono ?_
    rintro e w5 ⟨a0, c0, he, o5, b5⟩
    rw [← HQ.out] at he o5
    subst he
    have B5 := Lib.hid (B3.out.trans (b5.mono B3.out.size))
    have L0 := Lib.hid o5.sl
    clear b5 o5
    go_wp2_with fail
    refine (to_nodes l a cap _ hlb HKK.out (on_l HC.out B5.out)).mono ?_
    rintro e w6 ⟨rfl, b6, r, k6⟩
    have B6 := Lib.hid (B5.out.trans (b6.mono B5.out.size))
    have C6 := Lib.hid b6
    have K6 := Lib.hid k6
    clear b6 k6
    go_wp2_with fail
    refine (impl_cm l _ _ _ hlb K6.out.lies).mono ?_
    rintro e w7 ⟨a1, c1, he, o7, b7⟩
    rw [← HQ.out] at he o7
    subst he
    have B7 := Lib.hid (B6.out.trans (b7.mono B6.out.size))
    have C7 := Lib.hid (C6.out.trans (b7.mono C6.out.size))
    have K7 := Lib.hid (K6.out.keep b7 (Nat.le_refl _))
    have G7 := Lib.hid o7
    have S7 := Lib.hid b7.size
    clear b7 o7
    go_wp2_with fail
    refine (eq_strs q _ _ _ _ _ hqb G7.out.sl (on_sl L0.out C7.out)).mono ?_
    rintro e w8 ⟨rfl, b8⟩
    have B8 := Lib.hid (B7.out.trans (b8.mono B7.out.size))
    have C8 := Lib.hid (C7.out.trans (b8.mono C7.out.size))
    have K8 := Lib.hid (K7.out.keep b8 (Nat.le_refl _))
    have G8 := Lib.hid (G7.out.keep b8 (Nat.le_refl _))
    have S8 := Lib.hid (Nat.le_trans S7.out b8.size)
    clear b8
    go_wp2_with fail
    refine (to_nodes l a cap _ hlb HKK.out (on_l HC.out B8.out)).mono ?_
    rintro e w9 ⟨rfl, b9, r, k9⟩
    have B9 := Lib.hid (B8.out.trans (b9.mono B8.out.size))
    have C9 := Lib.hid (C8.out.trans (b9.mono C8.out.size))
    have K9 := Lib.hid (K8.out.keep b9 (Nat.le_refl _))
    have G9 := Lib.hid (G8.out.keep b9 (Nat.le_refl _))
    have S9 := Lib.hid (Nat.le_trans S8.out b9.size)
    have X9 := Lib.hid k9.lies
    clear b9 k9
    go_wp2_with fail
    refine (eq_nodes l l _ _ _ _ _ hlb hlb HKK.out HKK.out K9.out.lies X9.out).mono ?_
    rintro e wa ⟨he, ba⟩
    rw [decide_eq_true rfl] at he
    subst he
    have Ba := Lib.hid (B9.out.trans (ba.mono B9.out.size))
    have Ca := Lib.hid (C9.out.trans (ba.mono C9.out.size))
    have Ka := Lib.hid (K9.out.keep ba (Nat.le_refl _))
    have Ga := Lib.hid (G9.out.keep ba (Nat.le_refl _))
    have Sa := Lib.hid (Nat.le_trans S9.out ba.size)
    clear ba
    go_wp2_with fail
    refine (mark.mark_nodes (S := w6.heap.size) l wa HTOT.out Ka.out (Nat.le_refl _) K6.out.lt K6.out.2.2).mono ?_
    rintro e wb ⟨he, mb⟩
    rw [← HK.out] at he
    subst he
    have Bb := Lib.hid (Ba.out.trans (mb.bel.mono B5.out.size))
    have Cb := Lib.hid (Ca.out.trans mb.bel)
    have Gb := Lib.hid (own_above Ga.out mb.abo)
    have Sb := Lib.hid (Nat.le_trans Sa.out mb.siz)
    clear mb
    go_wp2_with fail
    refine (eq_strs q _ _ _ _ _ hqb Gb.out.sl (on_sl L0.out Cb.out)).mono ?_
    rintro e wc ⟨rfl, bc⟩
    have Bc := Lib.hid (Bb.out.trans (bc.mono Bb.out.size))
    have Cc := Lib.hid (Cb.out.trans (bc.mono Cb.out.size))
    have Gc := Lib.hid (Gb.out.keep bc (Nat.le_refl _))
    have Sc := Lib.hid (Nat.le_trans Sb.out bc.size)
    clear bc
    go_wp2_with fail
    refine (mark_so Gc.out Sc.out hqb).mono ?_
    rintro e wd ⟨he, bd, ld, sd⟩
    rw [← HME.out] at he
    subst he
    have Bd := Lib.hid (Bc.out.trans (bd.mono B6.out.size))
    have Cd := Lib.hid (Cc.out.trans (bd.mono C6.out.size))
    have Ld := Lib.hid ld
    clear bd ld sd
    go_wp2_with fail
    refine (held_strs a1 c1 q.length 1 wd hqb (by decide) (by decide) Ld.out).mono ?_
    rintro e we ⟨he, be⟩
    rw [← HME.out] at he
    subst he
    have Be := Lib.hid (Bd.out.trans (be.mono Bd.out.size))
    have Ce := Lib.hid (Cd.out.trans (be.mono Cd.out.size))
    have Le := Lib.hid (on_sl Ld.out be)
    clear be
    go_wp2_with fail
    refine (to_nodes l a cap _ hlb HKK.out (on_l HC.out Be.out)).mono ?_
    rintro e wf ⟨rfl, bf, r, kf⟩
    have Bf := Lib.hid (Be.out.trans (bf.mono Be.out.size))
    have Cf := Lib.hid (Ce.out.trans (bf.mono Ce.out.size))
    have Lf := Lib.hid (on_sl Le.out bf)
    have Kf := Lib.hid kf
    clear bf kf
    go_wp2_with fail
    refine (impl_cm l _ _ _ hlb Kf.out.lies).mono ?_
    rintro e wg ⟨a2, c2, he, og, bg⟩
    rw [← HQ.out] at he og
    subst he
    have Bg := Lib.hid (Bf.out.trans (bg.mono Bf.out.size))
    have Cg := Lib.hid (Cf.out.trans (bg.mono Cf.out.size))
    have Lg := Lib.hid (on_sl Lf.out bg)
    have Gg := Lib.hid og.sl
    clear bg og
    go_wp2_with fail
    refine (eq_strs q _ _ _ _ _ hqb Gg.out (on_sl L0.out Cg.out)).mono ?_
    rintro e wh ⟨rfl, bh⟩
    have Bh := Lib.hid (Bg.out.trans (bh.mono Bg.out.size))
    have Lh := Lib.hid (on_sl Lg.out bh)
    clear bh
    go_wp2_with fail
    refine (held_strs a1 c1 q.length 1 wh hqb (by decide) (by decide) Lh.out).mono ?_
    rintro e wi ⟨he, bi⟩
    rw [← HME.out] at he
    subst he
    have Bi := Lib.hid (Bh.out.trans (bi.mono Bh.out.size))
    clear bi
    go_wp2
    go_ret
    exact ⟨rfl, Bi.out⟩
  · have H1 := Lib.hid (show sz l 1048576 = -1 from left_no h1)
    clear h1
    go_enter Try.func4, Try.ntmps4
    go_wp2_with fail
    refine (size_nodes l a cap 1048576 _ (by omega) (by omega) HN.out HC.out HM.out).mono ?_
    rintro e w1 ⟨he, b1⟩
    rw [H1.out] at he
    subst he
    have B1 := Lib.hid b1
    clear b1
    go_wp2
    go_ret
    exact ⟨rfl, B1.out⟩
end Go.Proofs.Ytckeepjfbpphaaa.lawTreeComments
namespace Go.Proofs.Ytckeepjfbpphaaa.lawTreeComments
open Go.ChangeShapes Go.WideShapes Go.ChangeAt Go.RowKit
open Go.ChangeMaps (open_string shut_string)
theorem laidOut : laidOutB Try.prog = true := by kernel_rfl
theorem own : ownKnob Try.prog.godebug = none := by kernel_rfl

set_option maxRecDepth 100000 in
theorem lifted (os : Os) (started : os.Started) (H : Type) (enc : TypeId × Value → H) :
    ReturnsInHanded {} Try.checked os 4 .any (Rows.fnExactTreeCommentsSpec.pre6 enc Try.prog Try.f4 Rows.fnExactTreeCommentsRow.domain false) (Rows.fnExactTreeCommentsSpec.post enc Try.prog Try.f4 false true false false) := by
  refine returnsInHanded_of_change (C := Try.checked) own started (by kernel_rfl) Try.func4
    (ChangeSpec.witness6 (enc := enc) (C := Try.checked) false ⟨#[], #[.slice none 0 0], []⟩ 8 (by kernel_rfl) (by kernel_rfl) (by kernel_rfl) (by kernel_rfl)) ?_
  intro W base args ds gs before hval0 hW hcnd _
  have hval : ∀ (j : Nat) t v, Try.f4.params[j]? = some t → args[j]? = some v → Value.okWide Try.prog W .any base t v := hval0
  have hW' := hW
  obtain ⟨p, q, hA0, hV, rfl, hfz, hnd⟩ := hW
  have hA : DataW.TrodAll enc Try.prog W 0 (fun _ => true) true Try.f4.params.toList args.toList ds p := hA0
  rw [Try.params4] at hA hval
  obtain ⟨v0, vs0, d0, ds0, p0, q0, hargs, rfl, rfl, h0, r0⟩ := trodAll_cons hA
  obtain ⟨rfl, rfl, rfl⟩ := trodAll_nil r0
  obtain rfl : args = #[v0] := by cases args; simp_all
  obtain ⟨rfl, rfl⟩ := trodVars_none hV
  have k0 := h0
  have lt0 := nd.places_lt k0
  obtain ⟨c0, cap0, a0, rfl, n0, w0, m0⟩ := nd.open_nodes (hval 0 33 v0 rfl rfl) h0
  clear hA0 hval0
  refine (walk a0 c0 cap0 W w0 n0 m0).mono fun e W' ⟨he, bel⟩ => ?_
  subst he
  exact ⟨_, rfl, _, _, _, [], _, [], hW', trodAll_mk1 (shut_bool Try.underlying4 _), (trodAll_cons_mk (Below.trod laidOut (by kernel_rfl) (of_decide_eq_true (by kernel_rfl)) k0 bel lt0) trodAll_mk0), rfl, bel.frame _, fun h => by cases h⟩

theorem over : Rows.fnExactTreeCommentsRow.holds Try.pinned (OpenSpec.ofChange Rows.fnExactTreeCommentsSpec) :=
  OpenClaim.holds_of_wide 4 Try.f4 rfl rfl rfl rfl rfl rfl rfl ⟨rfl, rfl, rfl, rfl, rfl⟩ rfl rfl rfl rfl rfl (by kernel_rfl) Try.func4 (by kernel_rfl)
    (of_decide_eq_true (by kernel_rfl)) (by unfold Func.isWrapper; first | (rw [if_pos (by decide +kernel)]; kernel_rfl) | (rw [if_neg (by decide +kernel)]; exact ⟨rfl, rfl⟩))
    (fun os started H enc _ => lifted os started H enc)
end Go.Proofs.Ytckeepjfbpphaaa.lawTreeComments
namespace Go.Proofs.Ytckeepjfbpphaaa
/-- The statement. -/
theorem fnExactTreeComments_holds : Rows.FnExactTreeCommentsSaid := lawTreeComments.over
end Go.Proofs.Ytckeepjfbpphaaa
