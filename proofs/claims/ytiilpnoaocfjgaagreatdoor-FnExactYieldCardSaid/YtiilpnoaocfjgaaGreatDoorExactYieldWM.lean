/-
  'laws.FnExactYield' returns true at every list of nodes, and leaves it as it was: impl.Yield and the model spec.Yield give the same tokens, those with texts of their own, and the tokens that impl.Yield hands back lie in memory of their own: what is written into them stands through a second call and turns nothing else. The row lists impl's two tables of spellings (keywords, operators), tied to the program's text (the card), and says that they read behind the call as before; it speaks of every value of internal/bytealg.MaxLen, which it names and does not list. No other condition. What is listed is tied to the copy of the project that the seat holds (its packages impl, spec and laws, no test): of code elsewhere that could write these variables the card says nothing.
-/
import Derived.Test.YtiilpnoaocfjgaaGreatDoorCards
import Derived.Test.YtiilpnoaocfjgaaGreatDoorTie
import Derived.Test.YtiilpnoaocfjgaaGreatDoorLaidKw
import Derived.Test.YtiilpnoaocfjgaaGreatDoorGYieA
import Derived.Test.YtiilpnoaocfjgaaGreatDoorGYieB
import Derived.Test.YtiilpnoaocfjgaaGreatDoorOpenNd
import Derived.OpenVars
import Derived.Deep.DeepHandedRow
import Derived.Lib.SmallJoins
import Derived.Stop.LaidErr
namespace Go.Proofs.YtiilpnoaocfjgaaGreatDoor.lawYield
open Go.ChangeShapes Go.WideShapes Go.ChangeAt Go.RowKit
open Go.ChangeMaps (open_string shut_string)
open spell (Held held)
open nd mark
open tk (Tk)
open ps (Ps)
set_option linter.unusedVariables false
set_option linter.unusedSimpArgs false
set_option maxRecDepth 20000

/-- A slice of tokens of one's own under a call that writes below S alone. -/
theorem own_above {B S : Nat} {v : Value} {d : List Tk} {w w' : World} (h : own.Own B v d w) (ha : Above S w w') (hS : S ≤ B) : own.Own B v d w' := by
  refine ⟨h.1, h.2.imp id ?_⟩
  rintro ⟨g, cap, cur, hv, hg, hblk, r⟩
  have hlt : g < w.heap.size := by
    rcases Nat.lt_or_ge g w.heap.size with h' | h'
    · exact h'
    · rw [Array.getElem?_eq_none h'] at hblk; cases hblk
  exact ⟨g, cap, cur, hv, hg, (ha g (Nat.le_trans hS hg) hlt).trans hblk, r⟩
/-- A slice of the call's own, marked. -/
theorem mark_any {B : Nat} {a : Option Addr} {c : Nat} {d : List Tk} {w : World} (o : own.Own B (.slice a d.length c) d w) (hl : d.length ≤ 10000) (hB : B ≤ w.heap.size) :
    Calls Tryz.prog 46 #[.slice a d.length c, .int .i64 1] w fun e w' => e = .returned (.int .i64 ((1 + 3 * d.length : Nat) : Int)) ∧ Below B w w' ∧ tk.Lies w'.heap.size w' a (markt.marks 1 d.length) := by
  by_cases h0 : d.length = 0
  · rw [h0]
    exact (markt.mark_none a c 1 w).mono fun e w' ⟨he, hw⟩ => ⟨he, by rw [← hw]; exact Below.refl _ _, .inl rfl⟩
  · obtain ⟨g, cap, hv, hg, hb⟩ := o.blk (by omega)
    injection hv with ha _ hcap
    subst ha hcap
    have hle : d.length ≤ c := by obtain ⟨_, _, _, h, _⟩ := hb; exact h
    refine (markt.mark_toks g c d.length 1 d w hb hle hl (by omega) (by omega)).mono fun e w' ⟨he, hk, hgr⟩ => ⟨he, ?_, ?_⟩
    · exact (Below.refl B w).grown hgr hB (fun k hk => by cases hk; exact hg)
    · exact hk.lies

set_option maxHeartbeats 6400000 in
/-- THE WALK: the law's own text. -/
theorem walkP (l : List Nd) (a : Option Addr) (cap : Nat) (w : World) (hc : Lies w.heap.size w a l) (hn : l.length ≤ maxLen) (hm : ∀ t ∈ l, t.fit) (hh : Held w) :
    Calls Tryz.prog 13 #[.slice a l.length cap] w fun e w' => e = .returned (.bool true) ∧ Below w.heap.size w w' := by
  have HN := Lib.hid hn
  have HM := Lib.hid hm
  have HB0 := Lib.hid (show Below w.heap.size w w from Below.refl _ _)
  have HC := Lib.hid (hc.on HB0.out (Nat.le_refl _))
  have HH := Lib.hid (hh.below HB0.out)
  clear hc hm hn hh
  by_cases h1 : ((l.length + tot l : Nat) : Int) ≤ 1048576
  · obtain ⟨L, hL⟩ : ∃ L : Int, L = 1048576 - ((l.length + tot l : Nat) : Int) := ⟨_, rfl⟩
    have H1 := Lib.hid (show sz l 1048576 = L by rw [hL]; exact left_yes h1)
    have hlb : l.length ≤ 1048576 := by omega
    have HTOT := Lib.hid (show l.length + tot l ≤ 1048576 by omega)
    have HKK := Lib.hid (kids_le (l := l) (by omega))
    have HSS := Lib.hid (show ∀ t ∈ l, t.s.size ≤ 1048576 ∧ t.t.size ≤ 1048576 from fun t ht => by have := rt.mem_tot ht; omega)
    have htl : (yd.keepL (tw.etoks l ps.top)).length ≤ 3200 := Nat.le_trans (yd.keep_len _) (tw.etoks_len l ps.top)
    obtain ⟨T, hT⟩ : ∃ T, T = yd.keepL (tw.etoks l ps.top) := ⟨_, rfl⟩
    rw [← hT] at htl
    have HT := Lib.hid hT
    obtain ⟨k, hk⟩ : ∃ k, k = endM (lens l) 1 := ⟨_, rfl⟩
    obtain ⟨m, hme⟩ : ∃ m : Nat, m = 1 + 3 * T.length := ⟨_, rfl⟩
    have HK := Lib.hid hk
    have HME := Lib.hid hme
    have zk : ¬ (k : Int) < 0 := by omega
    have zm : ¬ (m : Int) < 0 := by omega
    have zz : ((m : Int) != (m : Int)) = false := by simp
    have z1 : ¬ L < 0 := by omega
    have hTb : T.length ≤ 10000 := by omega
    have HTB := Lib.hid hTb
    have HLB := Lib.hid hlb
    clear h1 hL hT hk hme htl
    go_enter Tryz.func13, Tryz.ntmps13
    go_wp2_with fail
    refine (size_nodes l a cap 1048576 _ (by omega) (by omega) HN.out HC.out HM.out).mono ?_
    rintro e w1 ⟨he, b1⟩
    rw [H1.out] at he
    subst he
    have B1 := Lib.hid b1
    clear b1
    go_wp2_with fail
    refine (to_nodes l a cap _ HLB.out HKK.out (HC.out.on B1.out (Nat.le_refl _))).mono ?_
    rintro e w3 ⟨rfl, b3, r3, k3⟩
    have B3X := Lib.hid (B1.out.trans (b3.mono B1.out.size))
    have L3X := Lib.hid k3.lies
    clear b3 k3
    go_wp2_with fail
    refine (yd.spec_yield l _ _ _ HLB.out HKK.out HSS.out L3X.out).mono ?_
    rintro e w5 ⟨v0, rfl, b5, o5⟩
    rw [← HT.out] at o5
    obtain ⟨a0, c0, rfl⟩ := o5.form
    have B5 := Lib.hid (B3X.out.trans (b5.mono B3X.out.size))
    have L0 := Lib.hid (o5.lies rfl)
    clear b5 o5
    go_wp2_with fail
    refine (to_nodes l a cap _ HLB.out HKK.out (HC.out.on B5.out (Nat.le_refl _))).mono ?_
    rintro e w6 ⟨rfl, b6, r6, k6⟩
    have B6 := Lib.hid (B5.out.trans (b6.mono B5.out.size))
    have C6 := Lib.hid b6
    have K6 := Lib.hid k6
    clear b6 k6
    have B6X := Lib.hid B6.out
    have C6X := Lib.hid C6.out
    have K6X := Lib.hid K6.out
    have S6X := Lib.hid (Nat.le_refl w6.heap.size)
    go_wp2_with fail
    refine (yd.impl_yield l _ _ _ HLB.out HKK.out HSS.out K6X.out.lies (HH.out.below B6X.out)).mono ?_
    rintro e w7 ⟨v1, rfl, b7, o7⟩
    rw [← HT.out] at o7
    obtain ⟨a1, c1, rfl⟩ := o7.form
    have B7 := Lib.hid (B6X.out.trans (b7.mono B6X.out.size))
    have C7 := Lib.hid (C6X.out.trans (b7.mono C6X.out.size))
    have K7 := Lib.hid (K6X.out.keep b7 (Nat.le_refl _))
    have G7 := Lib.hid o7
    have S7 := Lib.hid b7.size
    clear b7 o7
    go_wp2_with fail
    refine (tk.eq_toks T T _ _ _ _ _ (by omega) (by omega) (G7.out.lies rfl) ((L0.out.keep C7.out (Nat.le_refl _)).up C7.out.size)).mono ?_
    rintro e w8 ⟨he, b8⟩
    rw [decide_eq_true rfl] at he
    subst he
    have B8 := Lib.hid (B7.out.trans (b8.mono B7.out.size))
    have C8 := Lib.hid (C7.out.trans (b8.mono C7.out.size))
    have K8 := Lib.hid (K7.out.keep b8 (Nat.le_refl _))
    have G8 := Lib.hid (G7.out.keep b8 (Nat.le_refl _))
    have S8 := Lib.hid (Nat.le_trans S7.out b8.size)
    clear b8
    go_wp2_with fail
    refine (to_nodes l a cap _ HLB.out HKK.out (HC.out.on B8.out (Nat.le_refl _))).mono ?_
    rintro e w9 ⟨rfl, b9, r9, k9⟩
    have B9 := Lib.hid (B8.out.trans (b9.mono B8.out.size))
    have C9 := Lib.hid (C8.out.trans (b9.mono C8.out.size))
    have K9 := Lib.hid (K8.out.keep b9 (Nat.le_refl _))
    have G9 := Lib.hid (G8.out.keep b9 (Nat.le_refl _))
    have S9 := Lib.hid (Nat.le_trans S8.out b9.size)
    have X9 := Lib.hid k9.lies
    clear b9 k9
    go_wp2_with fail
    refine (eq_nodes l l _ _ _ _ _ HLB.out HLB.out HKK.out HKK.out K9.out.lies X9.out).mono ?_
    rintro e wa ⟨he, ba⟩
    rw [decide_eq_true rfl] at he
    subst he
    have Ba := Lib.hid (B9.out.trans (ba.mono B9.out.size))
    have Ca := Lib.hid (C9.out.trans (ba.mono C9.out.size))
    have Ka := Lib.hid (K9.out.keep ba (Nat.le_refl _))
    have Ga := Lib.hid (G9.out.keep ba (Nat.le_refl _))
    have Sa := Lib.hid (Nat.le_trans S9.out ba.size)
    clear ba
    go_wp2_with fail
    refine (mark_nodes (S := w6.heap.size) l wa HTOT.out Ka.out (Nat.le_refl _) K6.out.lt K6.out.2.2).mono ?_
    rintro e wb ⟨he, mb⟩
    rw [← HK.out] at he
    subst he
    have Bb := Lib.hid (Ba.out.trans (mb.bel.mono B5.out.size))
    have Cb := Lib.hid (Ca.out.trans mb.bel)
    have Gb := Lib.hid (own_above Ga.out mb.abo S6X.out)
    have Sb := Lib.hid (Nat.le_trans Sa.out mb.siz)
    clear mb
    go_wp2_with fail
    refine (tk.eq_toks T T _ _ _ _ _ (by omega) (by omega) (Gb.out.lies rfl) ((L0.out.keep Cb.out (Nat.le_refl _)).up Cb.out.size)).mono ?_
    rintro e wc ⟨he, bc⟩
    rw [decide_eq_true rfl] at he
    subst he
    have Bc := Lib.hid (Bb.out.trans (bc.mono Bb.out.size))
    have Cc := Lib.hid (Cb.out.trans (bc.mono Cb.out.size))
    have Gc := Lib.hid (Gb.out.keep bc (Nat.le_refl _))
    have Sc := Lib.hid (Nat.le_trans Sb.out bc.size)
    clear bc
    go_wp2_with fail
    refine (mark_any Gc.out HTB.out Sc.out).mono ?_
    rintro e wd ⟨he, bd, ld⟩
    rw [← HME.out] at he
    subst he
    have Bd := Lib.hid (Bc.out.trans (bd.mono B6X.out.size))
    have Cd := Lib.hid (Cc.out.trans (bd.mono C6X.out.size))
    have Ld := Lib.hid ld
    clear bd ld
    go_wp2_with fail
    refine (markt.held_toks a1 c1 T.length 1 wd HTB.out (by omega) (by omega) Ld.out).mono ?_
    rintro e we ⟨he, be⟩
    rw [← HME.out] at he
    subst he
    have Be := Lib.hid (Bd.out.trans (be.mono Bd.out.size))
    have Ce := Lib.hid (Cd.out.trans (be.mono Cd.out.size))
    have Le := Lib.hid ((Ld.out.keep be (Nat.le_refl _)).up be.size)
    clear be
    go_wp2_with fail
    refine (to_nodes l a cap _ HLB.out HKK.out (HC.out.on Be.out (Nat.le_refl _))).mono ?_
    rintro e wf ⟨rfl, bf, rf, kf⟩
    have BFX := Lib.hid (Be.out.trans (bf.mono Be.out.size))
    have CFX := Lib.hid (Ce.out.trans (bf.mono Ce.out.size))
    have KFX := Lib.hid ((Le.out.keep bf (Nat.le_refl _)).up bf.size)
    have LFX := Lib.hid kf.lies
    clear bf kf
    go_wp2_with fail
    refine (yd.impl_yield l _ _ _ HLB.out HKK.out HSS.out LFX.out (HH.out.below BFX.out)).mono ?_
    rintro e wg ⟨v2, rfl, bg, o2⟩
    rw [← HT.out] at o2
    obtain ⟨a2, c2, rfl⟩ := o2.form
    have Bg := Lib.hid (BFX.out.trans (bg.mono BFX.out.size))
    have Cg := Lib.hid (CFX.out.trans (bg.mono CFX.out.size))
    have Lg := Lib.hid ((KFX.out.keep bg (Nat.le_refl _)).up bg.size)
    have Gg := Lib.hid (o2.lies rfl)
    clear bg o2
    go_wp2_with fail
    refine (tk.eq_toks T T _ _ _ _ _ (by omega) (by omega) Gg.out ((L0.out.keep Cg.out (Nat.le_refl _)).up Cg.out.size)).mono ?_
    rintro e wh ⟨he, bh⟩
    rw [decide_eq_true rfl] at he
    subst he
    have Bh := Lib.hid (Bg.out.trans (bh.mono Bg.out.size))
    have Lh := Lib.hid ((Lg.out.keep bh (Nat.le_refl _)).up bh.size)
    clear bh
    go_wp2_with fail
    refine (markt.held_toks a1 c1 T.length 1 wh HTB.out (by omega) (by omega) Lh.out).mono ?_
    rintro e wi ⟨he, bi⟩
    rw [← HME.out] at he
    subst he
    have Bi := Lib.hid (HB0.out.trans ((Bh.out.trans (bi.mono Bh.out.size)).mono HB0.out.size))
    clear bi
    go_wp2
    go_ret
    exact ⟨rfl, Bi.out⟩
  · have H1 := Lib.hid (show sz l 1048576 = -1 from left_no h1)
    clear h1
    go_enter Tryz.func13, Tryz.ntmps13
    go_wp2_with fail
    refine (size_nodes l a cap 1048576 _ (by omega) (by omega) HN.out HC.out HM.out).mono ?_
    rintro e w1 ⟨he, b1⟩
    rw [H1.out] at he
    subst he
    have B1 := Lib.hid (HB0.out.trans (b1.mono HB0.out.size))
    clear b1
    go_wp2
    go_ret
    exact ⟨rfl, B1.out⟩
theorem walk (l : List Nd) (a : Option Addr) (cap : Nat) (w : World) (hc : Lies w.heap.size w a l) (hn : l.length ≤ maxLen) (hm : ∀ t ∈ l, t.fit) (hh : Held w) :
    Calls Tryz.prog 13 #[.slice a l.length cap] w fun e w' => e = .returned (.bool true) ∧ Below w.heap.size w w' := walkP l a cap w hc hn hm hh
end Go.Proofs.YtiilpnoaocfjgaaGreatDoor.lawYield
