/-
  'laws.FnExactNoComments' returns true at every list of nodes, and leaves it as it was: impl.NoComments and the model spec.NoComments give the same nodes, and what impl.NoComments hands back lies in memory of its own: what is written into the argument does not turn it, and what is written into it stands through a second call. The row lists impl's two tables of spellings (keywords, operators), tied to the program's text (the card), and says that they read behind the call as before. No other condition. What is listed is tied to the copy of the project that the seat holds (its packages impl, spec and laws, no test): of code elsewhere that could write these variables the card says nothing.
-/
import Derived.Test.YtckeepjfbpphaaaGreatDoorCards
import Derived.Test.YtckeepjfbpphaaaGreatDoorTie
import Derived.Test.YtckeepjfbpphaaaGreatDoorLaidKw
import Derived.Test.YtckeepjfbpphaaaGreatDoorOpenNd
import Derived.Test.YtckeepjfbpphaaaGreatDoorNdEq
import Derived.Test.YtckeepjfbpphaaaGreatDoorNoComI
import Derived.Test.YtckeepjfbpphaaaGreatDoorDropSpec
import Derived.Test.YtckeepjfbpphaaaGreatDoorHeldTree
import Derived.OpenVars
import Derived.Deep.DeepHandedRow
import Derived.Lib.SmallJoins
import Derived.Stop.LaidErr
namespace Go.Proofs.YtckeepjfbpphaaaGreatDoor.lawNoComments
open Go.ChangeShapes Go.WideShapes Go.ChangeAt Go.RowKit
open Go.ChangeMaps (open_string shut_string)
open spell (Held held)
open nd mark nc
set_option linter.unusedVariables false

/-- A list of nodes in memory of one's own from S on. -/
structure GO (S : Nat) (a : Option Addr) (cap : Nat) (q : List Nd) (w : World) : Prop where
  own : q = [] ∨ ∃ g r, a = some ⟨g, 0, none⟩ ∧ S ≤ g ∧ Tr S w g cap q r
theorem GO.of {S : Nat} {v : Value} {z : List (Nd × Value)} {r : Nat → Nat} {w : World} {q : List Nd} (h : PT S v z r w) (hz : z.map (·.1) = q) : ∃ a cap, v = .slice a q.length cap ∧ GO S a cap q w := by
  have hl : z.length = q.length := by rw [← hz]; simp
  rcases h.tr with ⟨hv, h0⟩ | ⟨g, cap, hv, hS, ht⟩
  · exact ⟨none, 0, by rw [hv, ← hl, h0]; rfl, ⟨.inl (by rw [← hz, h0]; rfl)⟩⟩
  · exact ⟨_, cap, by rw [hv, hl], ⟨.inr ⟨g, r, rfl, hS, by rw [← hz]; exact ht⟩⟩⟩
theorem GO.keep {S : Nat} {a : Option Addr} {cap : Nat} {q : List Nd} {w w' : World} (h : GO S a cap q w) (hb : Below w.heap.size w w') : GO S a cap q w' := by
  refine ⟨h.own.imp id ?_⟩
  rintro ⟨g, r, e, hS, ht⟩
  exact ⟨g, r, e, hS, ht.keep hb (Nat.le_refl _)⟩
theorem GO.above {S : Nat} {a : Option Addr} {cap : Nat} {q : List Nd} {w w' : World} (h : GO S a cap q w) (hb : Above S w w') (hs : w.heap.size ≤ w'.heap.size) : GO S a cap q w' := by
  refine ⟨h.own.imp id ?_⟩
  rintro ⟨g, r, e, hS, ht⟩
  exact ⟨g, r, e, hS, Tr.above ht hb hs hS⟩
theorem GO.lies {S : Nat} {a : Option Addr} {cap : Nat} {q : List Nd} {w : World} (h : GO S a cap q w) : Lies w.heap.size w a q := by
  rcases h.own with h | ⟨g, r, e, hS, ht⟩
  · exact .inl h
  · rw [e]; exact ht.lies
theorem mark_none (a : Option Addr) (cap : Nat) (k : Int) (w : World) :
    Calls Tryz.prog 9 #[.slice a 0 cap, .int .i64 k] w fun e w' => e = .returned (.int .i64 k) ∧ w = w' := by
  go_enter Tryz.func9, Tryz.ntmps9
  go_wp2
  go_loop [1, 5] (fun k' i => k' = .int .i64 k ∧ i = .int .i64 0) (fun _ _ => 0)
  case atStart => exact ⟨rfl, rfl⟩
  case round =>
    obtain ⟨rfl, rfl⟩ := hrel
    go_wp2
    go_ret
    exact ⟨rfl, rfl⟩
theorem mark_go {S : Nat} {a : Option Addr} {cap : Nat} {q : List Nd} {w : World} (h : GO S a cap q w) (hq : q.length + tot q ≤ 1048576) :
    Calls Tryz.prog 9 #[.slice a q.length cap, .int .i64 1] w fun e w' => e = .returned (.int .i64 (endM (lens q) 1 : Int)) ∧ Below S w w' ∧ Lies w'.heap.size w' a (mkL (lens q) 1) ∧ w.heap.size ≤ w'.heap.size := by
  rcases h.own with h0 | ⟨g, r, rfl, hS, ht⟩
  · subst h0
    exact (mark_none a cap 1 w).mono fun e w' ⟨he, hw⟩ => ⟨he, by rw [← hw]; exact Below.refl _ _, .inl rfl, by rw [← hw]; exact Nat.le_refl _⟩
  · exact (mark_nodes (S := w.heap.size) q w hq ht hS ht.lt ht.2.2).mono fun e w' ⟨he, hm⟩ => ⟨he, hm.bel, hm.tr.lies, hm.siz⟩

set_option maxHeartbeats 3200000 in
/-- THE WALK: the law's own text. -/
theorem walk (l : List Nd) (a : Option Addr) (cap : Nat) (w : World) (hc : Lies w.heap.size w a l) (hn : l.length ≤ maxLen) (hm : ∀ t ∈ l, t.fit) (hh : Held w) :
    Calls Tryz.prog 3 #[.slice a l.length cap] w fun e w' => e = .returned (.bool true) ∧ Below w.heap.size w w' := by
  have HC := Lib.hid hc
  have HN := Lib.hid hn
  have HM := Lib.hid hm
  have HH := Lib.hid hh
  clear hc hm hn hh
  by_cases h1 : ((l.length + tot l : Nat) : Int) ≤ 1048576
  · obtain ⟨L, hL⟩ : ∃ L : Int, L = 1048576 - ((l.length + tot l : Nat) : Int) := ⟨_, rfl⟩
    have H1 := Lib.hid (show sz l 1048576 = L by rw [hL]; exact left_yes h1)
    have hlb : l.length ≤ 1048576 := by omega
    have HTOT := Lib.hid (show l.length + tot l ≤ 1048576 by omega)
    have HKK := Lib.hid (kids_le (l := l) (by omega))
    have HSS := Lib.hid (show ∀ t ∈ l, t.s.size ≤ 1048576 ∧ t.t.size ≤ 1048576 from fun t ht => by have := rt.mem_tot ht; omega)
    have hpt := nc_tot (l := l)
    obtain ⟨q, hq⟩ : ∃ q, q = ncF l := ⟨_, rfl⟩
    rw [← hq] at hpt
    have HQ := Lib.hid hq
    have HQT := Lib.hid (show q.length + tot q ≤ 1048576 by omega)
    have hqb : q.length ≤ 1048576 := by omega
    have HQK := Lib.hid (kids_le (l := q) (by omega))
    obtain ⟨k, hk⟩ : ∃ k, k = endM (lens l) 1 := ⟨_, rfl⟩
    obtain ⟨m, hme⟩ : ∃ m, m = endM (lens q) 1 := ⟨_, rfl⟩
    have HK := Lib.hid hk
    have HME := Lib.hid hme
    have zk : ¬ (k : Int) < 0 := by omega
    have zm : ¬ (m : Int) < 0 := by omega
    have zz : ((m : Int) != (m : Int)) = false := by simp
    have z1 : ¬ L < 0 := by omega
    have HLN := Lib.hid (show (lens q).length = q.length by simp [lens])
    have HB6 := Lib.hid (show ∀ I, endM ((lens q).take I) 1 ≤ 6000000 from fun I => by
      have := end_le q I 1 HQT.out (Nat.le_refl _)
      rwa [show lens (q.take I) = (lens q).take I by simp [lens, List.map_take]] at this)
    have HM6 := Lib.hid (show ∀ x ∈ lens q, x ≤ 1048576 from fun x hx => by
      obtain ⟨t, ht, rfl⟩ := List.mem_map.1 hx
      exact HQK.out t ht)
    clear h1 hL hpt hq hk hme
    go_enter Tryz.func3, Tryz.ntmps3
    go_wp2_with fail
    refine (size_nodes l a cap 1048576 _ (by omega) (by omega) HN.out HC.out HM.out).mono ?_
    rintro e w1 ⟨he, b1⟩
    rw [H1.out] at he
    subst he
    have B1 := Lib.hid b1
    clear b1
    go_wp2_with fail
    refine (to_nodes l a cap _ hlb HKK.out (HC.out.on B1.out (Nat.le_refl _))).mono ?_
    rintro e w3 ⟨rfl, b3, r3, k3⟩
    have B3 := Lib.hid (B1.out.trans (b3.mono B1.out.size))
    have K3 := Lib.hid k3
    clear b3 k3
    go_wp2_with fail
    refine (spec_nc l _ _ _ hlb HKK.out HSS.out K3.out.lies).mono ?_
    rintro e w5 ⟨v0, z0, r0, rfl, hz0, pt0, b5, -⟩
    rw [← HQ.out] at hz0
    obtain ⟨a0, c0, rfl, go0⟩ := GO.of pt0 hz0
    have B5 := Lib.hid (B3.out.trans (b5.mono B3.out.size))
    have L0 := Lib.hid go0.lies
    clear b5 pt0 go0 hz0
    go_wp2_with fail
    refine (to_nodes l a cap _ hlb HKK.out (HC.out.on B5.out (Nat.le_refl _))).mono ?_
    rintro e w6 ⟨rfl, b6, r6, k6⟩
    have B6 := Lib.hid (B5.out.trans (b6.mono B5.out.size))
    have C6 := Lib.hid b6
    have K6 := Lib.hid k6
    clear b6 k6
    go_wp2_with fail
    refine (impl_nc l _ _ _ hlb HKK.out HSS.out K6.out.lies (HH.out.below B6.out)).mono ?_
    rintro e w7 ⟨v1, z1', r1, rfl, hz1, pt1, b7⟩
    rw [← HQ.out] at hz1
    obtain ⟨a1, c1, rfl, go1⟩ := GO.of pt1 hz1
    have B7 := Lib.hid (B6.out.trans (b7.mono B6.out.size))
    have C7 := Lib.hid (C6.out.trans (b7.mono C6.out.size))
    have K7 := Lib.hid (K6.out.keep b7 (Nat.le_refl _))
    have G7 := Lib.hid go1
    have S7 := Lib.hid b7.size
    clear b7 pt1 go1 hz1
    go_wp2_with fail
    refine (eq_nodes q q _ _ _ _ _ hqb hqb HQK.out HQK.out G7.out.lies (L0.out.on C7.out (Nat.le_refl _))).mono ?_
    rintro e w8 ⟨he, b8⟩
    rw [decide_eq_true rfl] at he
    subst he
    have B8 := Lib.hid (B7.out.trans (b8.mono B7.out.size))
    have C8 := Lib.hid (C7.out.trans (b8.mono C7.out.size))
    have K8 := Lib.hid (K7.out.keep b8 (Nat.le_refl _))
    have G8 := Lib.hid (G7.out.keep b8)
    have S8 := Lib.hid (Nat.le_trans S7.out b8.size)
    clear b8
    go_wp2_with fail
    refine (to_nodes l a cap _ hlb HKK.out (HC.out.on B8.out (Nat.le_refl _))).mono ?_
    rintro e w9 ⟨rfl, b9, r9, k9⟩
    have B9 := Lib.hid (B8.out.trans (b9.mono B8.out.size))
    have C9 := Lib.hid (C8.out.trans (b9.mono C8.out.size))
    have K9 := Lib.hid (K8.out.keep b9 (Nat.le_refl _))
    have G9 := Lib.hid (G8.out.keep b9)
    have S9 := Lib.hid (Nat.le_trans S8.out b9.size)
    have X9 := Lib.hid k9.lies
    clear b9 k9
    go_wp2_with fail
    refine (eq_nodes l l _ _ _ _ _ hlb hlb HKK.out HKK.out K9.out.lies X9.out).mono ?_
    rintro e wa ⟨he, ba⟩
    rw [decide_eq_true rfl] at he
    subst he
    have Ba := Lib.hid (B9.out.trans (ba.mono B9.out.size))
    have Ca := Lib.hid (C9.out.trans (ba.mono C9.out.size))
    have Ka := Lib.hid (K9.out.keep ba (Nat.le_refl _))
    have Ga := Lib.hid (G9.out.keep ba)
    have Sa := Lib.hid (Nat.le_trans S9.out ba.size)
    clear ba
    go_wp2_with fail
    refine (mark_nodes (S := w6.heap.size) l wa HTOT.out Ka.out (Nat.le_refl _) K6.out.lt K6.out.2.2).mono ?_
    rintro e wb ⟨he, mb⟩
    rw [← HK.out] at he
    subst he
    have Bb := Lib.hid (Ba.out.trans (mb.bel.mono B5.out.size))
    have Cb := Lib.hid (Ca.out.trans mb.bel)
    have Gb := Lib.hid (Ga.out.above mb.abo mb.siz)
    have Sb := Lib.hid (Nat.le_trans Sa.out mb.siz)
    clear mb
    go_wp2_with fail
    refine (eq_nodes q q _ _ _ _ _ hqb hqb HQK.out HQK.out Gb.out.lies (L0.out.on Cb.out (Nat.le_refl _))).mono ?_
    rintro e wc ⟨he, bc⟩
    rw [decide_eq_true rfl] at he
    subst he
    have Bc := Lib.hid (Bb.out.trans (bc.mono Bb.out.size))
    have Cc := Lib.hid (Cb.out.trans (bc.mono Cb.out.size))
    have Gc := Lib.hid (Gb.out.keep bc)
    have Sc := Lib.hid (Nat.le_trans Sb.out bc.size)
    clear bc
    go_wp2_with fail
    refine (mark_go Gc.out HQT.out).mono ?_
    rintro e wd ⟨he, bd, ld, sd⟩
    rw [← HME.out] at he
    subst he
    have Bd := Lib.hid (Bc.out.trans (bd.mono B6.out.size))
    have Cd := Lib.hid (Cc.out.trans (bd.mono C6.out.size))
    have Ld := Lib.hid ld
    clear bd ld sd
    go_wp2_with fail
    rw [← HLN.out]
    refine (held_nodes a1 c1 (lens q) wd HB6.out HM6.out (by rw [HLN.out]; exact hqb) Ld.out).mono ?_
    rintro e we ⟨he, be⟩
    rw [← HME.out] at he
    subst he
    rw [HLN.out]
    have Be := Lib.hid (Bd.out.trans (be.mono Bd.out.size))
    have Ce := Lib.hid (Cd.out.trans (be.mono Cd.out.size))
    have Le := Lib.hid (Ld.out.on be (Nat.le_refl _))
    clear be
    go_wp2_with fail
    refine (to_nodes l a cap _ hlb HKK.out (HC.out.on Be.out (Nat.le_refl _))).mono ?_
    rintro e wf ⟨rfl, bf, rf, kf⟩
    have Bf := Lib.hid (Be.out.trans (bf.mono Be.out.size))
    have Cf := Lib.hid (Ce.out.trans (bf.mono Ce.out.size))
    have Lf := Lib.hid (Le.out.on bf (Nat.le_refl _))
    have Kf := Lib.hid kf
    clear bf kf
    go_wp2_with fail
    refine (impl_nc l _ _ _ hlb HKK.out HSS.out Kf.out.lies (HH.out.below Bf.out)).mono ?_
    rintro e wg ⟨v2, z2, r2, rfl, hz2, pt2, bg⟩
    rw [← HQ.out] at hz2
    obtain ⟨a2, c2, rfl, go2⟩ := GO.of pt2 hz2
    have Bg := Lib.hid (Bf.out.trans (bg.mono Bf.out.size))
    have Cg := Lib.hid (Cf.out.trans (bg.mono Cf.out.size))
    have Lg := Lib.hid (Lf.out.on bg (Nat.le_refl _))
    have Gg := Lib.hid go2.lies
    clear bg pt2 go2 hz2
    go_wp2_with fail
    refine (eq_nodes q q _ _ _ _ _ hqb hqb HQK.out HQK.out Gg.out (L0.out.on Cg.out (Nat.le_refl _))).mono ?_
    rintro e wh ⟨he, bh⟩
    rw [decide_eq_true rfl] at he
    subst he
    have Bh := Lib.hid (Bg.out.trans (bh.mono Bg.out.size))
    have Lh := Lib.hid (Lg.out.on bh (Nat.le_refl _))
    clear bh
    go_wp2_with fail
    rw [← HLN.out]
    refine (held_nodes a1 c1 (lens q) wh HB6.out HM6.out (by rw [HLN.out]; exact hqb) Lh.out).mono ?_
    rintro e wi ⟨he, bi⟩
    rw [← HME.out] at he
    subst he
    rw [HLN.out]
    have Bi := Lib.hid (Bh.out.trans (bi.mono Bh.out.size))
    clear bi
    go_wp2
    go_ret
    exact ⟨rfl, Bi.out⟩
  · have H1 := Lib.hid (show sz l 1048576 = -1 from left_no h1)
    clear h1
    go_enter Tryz.func3, Tryz.ntmps3
    go_wp2_with fail
    refine (size_nodes l a cap 1048576 _ (by omega) (by omega) HN.out HC.out HM.out).mono ?_
    rintro e w1 ⟨he, b1⟩
    rw [H1.out] at he
    subst he
    have B1 := Lib.hid b1
    clear b1
    go_wp2
    go_ret
    exact ⟨rfl, B1.out⟩
end Go.Proofs.YtckeepjfbpphaaaGreatDoor.lawNoComments
namespace Go.Proofs.YtckeepjfbpphaaaGreatDoor.lawNoComments
open Go.ChangeShapes Go.WideShapes Go.ChangeAt Go.RowKit
open Go.ChangeMaps (open_string shut_string)
theorem own : ownKnob Tryz.prog.godebug = none := by kernel_rfl
theorem laidOut : laidOutB Tryz.prog = true := by kernel_rfl

set_option maxRecDepth 100000 in
theorem contract (H : Type) (enc : TypeId × Value → H) (W : World) (base : Nat) (args : Array Value) (ds gs : List (DataW H)) (before : List MemPlace)
    (hval : ∀ (j : Nat) t v, Tryz.f3.params[j]? = some t → args[j]? = some v → Value.okWide Tryz.prog W .any base t v)
    (hW : DataW.Whole enc Tryz.prog Tryz.f3.params.toList Rows.fnExactNoCommentsSpec.vars false W args.toList ds gs before) (hL0 : laidMetH Tryz.prog Rows.fnExactNoCommentsRow.laid W) :
    Calls Tryz.prog 3 args W fun e W' => ∃ v, e = .returned v ∧ Rows.fnExactNoCommentsSpec.post enc Tryz.prog Tryz.f3 false true false false W args v W' := by
  have hL : laidMet Tryz.prog Rows.fnExactNoCommentsRow.laid W := hL0
  have hW' := hW
  obtain ⟨p, q, hA0, hV, rfl, hfz, hnd⟩ := hW
  have hA : DataW.TrodAll enc Tryz.prog W 0 (fun _ => true) true Tryz.f3.params.toList args.toList ds p := hA0
  rw [Tryz.params3] at hA hval
  obtain ⟨v0, vs0, d0, ds0, p0, q0, hargs, rfl, rfl, h0, r0⟩ := trodAll_cons hA
  obtain ⟨rfl, rfl, rfl⟩ := trodAll_nil r0
  obtain rfl : args = #[v0] := by cases args; simp_all
  obtain ⟨e0, e1, rfl⟩ : ∃ e0 e1, gs = [e0, e1] := by
    have hlen := trodVars_len hV
    match gs, hlen with
    | [x0, x1], _ => exact ⟨x0, x1, rfl⟩
  have k0 := h0
  have lt0 := nd.places_lt k0
  obtain ⟨c0, cap0, a0, rfl, n0, w0, m0⟩ := nd.open_nodes (hval 0 22 v0 rfl rfl) h0
  clear hA0
  refine (walk a0 c0 cap0 W w0 n0 m0 (spell.held hL)).mono fun e W' ⟨he, bel⟩ => ?_
  subst he
  exact ⟨_, rfl, _, _, _, [], _, _, hW', trodAll_mk1 (shut_bool Tryz.underlying4 _), (trodAll_cons_mk (Below.trod laidOut (by kernel_rfl) (of_decide_eq_true (by kernel_rfl)) k0 bel lt0) trodAll_mk0), Below.trodVars laidOut bel (by kernel_rfl) hV, bel.frame _, fun h => by cases h⟩

theorem laid_met (os : Os) : laidMet Tryz.prog Rows.fnExactNoCommentsRow.laid ((laidWorld os).forCall (fun _ _ => 0) ⟨#[], #[.slice none 0 0], []⟩).memory :=
  laidMet_of_run' 8 (by kernel_rfl) (by kernel_rfl)
theorem reads (os : Os) {H : Type} (enc : TypeId × Value → H) : ∃ places, DataW.whole enc Tryz.prog ((laidWorld os).forCall (fun _ _ => 0) ⟨#[], #[.slice none 0 0], []⟩).memory Tryz.f3.params.toList Rows.fnExactNoCommentsSpec.vars false #[Value.slice none 0 0].toList 8 = some ([.nil], [Rows.laid_loop_example_g01543_impl_keywords, Rows.laid_loop_example_g01543_impl_operators], places) :=
  ⟨MemPlace.row ⟨0, 0, none⟩ 17 ++ MemPlace.row ⟨1, 0, none⟩ 39, by kernel_rfl⟩

set_option maxRecDepth 100000 in
theorem lifted (os : Os) (started : os.Started) (H : Type) (enc : TypeId × Value → H) (F : Stop.Interp) :
    ReturnsInHanded {} Tryz.checked os 3 .any ((OpenSpec.ofChange Rows.fnExactNoCommentsSpec).preRow enc Tryz.prog Tryz.f3 Rows.fnExactNoCommentsRow.domain false Rows.fnExactNoCommentsRow.laid) (((OpenSpec.ofChange Rows.fnExactNoCommentsSpec).at F).post enc Tryz.prog Tryz.f3 false true false false) := by
  obtain ⟨places, hx⟩ := reads os enc
  refine returnsInHanded_of_row (C := Tryz.checked) (s := OpenSpec.ofChange Rows.fnExactNoCommentsSpec) own started (by kernel_rfl) Tryz.func3
    (witness_row_at (enc := enc) (C := Tryz.checked) false (laidWorld os) #[.slice none 0 0] rfl (by kernel_rfl) (by kernel_rfl) (by kernel_rfl)
      (OpenSpec.preRow_of_cond 8 hx (by kernel_rfl) (fun k hk => by cases hk) (by kernel_rfl) (laid_met os))) ?_
  intro W base args ds gs before hval hW _ _ _ hL _ _
  exact contract H enc W base args ds gs before hval hW hL

theorem said : Rows.FnExactNoCommentsSaid :=
  OpenClaim.holds_of_cond 3 Tryz.f3 rfl rfl rfl rfl rfl rfl rfl ⟨rfl, rfl, rfl, rfl, rfl⟩ rfl rfl rfl rfl rfl (by kernel_rfl) Tryz.func3 (by kernel_rfl)
    (of_decide_eq_true (by kernel_rfl)) (by unfold Func.isWrapper; first | (rw [if_pos (by decide +kernel)]; kernel_rfl) | (rw [if_neg (by decide +kernel)]; exact ⟨rfl, rfl⟩))
    (fun os started H enc _ F => by rw [OpenClaim.pre_eq_preRow]; exact lifted os started H enc F)

/-- No parameter wants a stand-in; the program's own looks are as the card says. -/
theorem plain (f : FuncId) (fn : Func) (hf : Tryz.pinned.checked.prog.funcNamed "loop.example/g01543/laws.FnExactNoComments" = some f) (hfn : Tryz.pinned.checked.prog.funcs[f]? = some fn) :
    Rows.fnExactNoCommentsCard.stood.looks = Tryz.pinned.checked.prog.looks [] ∧ ∀ (j : Nat) t, fn.params[j]? = some t → Tryz.pinned.checked.prog.wantsStandIn t = false := by
  obtain rfl : f = 3 := Option.some.inj ((show Tryz.prog.funcNamed "loop.example/g01543/laws.FnExactNoComments" = some 3 by kernel_rfl).symm.trans hf) |>.symm
  obtain rfl : fn = Tryz.f3 := (Option.some.inj (Tryz.func3.symm.trans hfn)).symm
  refine ⟨by kernel_rfl, fun j t ht => ?_⟩
  rw [Tryz.params3] at ht
  have hm := Array.mem_of_getElem? ht
  simp only [List.mem_toArray, List.mem_cons, List.not_mem_nil, or_false] at hm
  rcases hm with rfl
  · exact (show Tryz.prog.wantsStandIn 22 = false by kernel_rfl)

end Go.Proofs.YtckeepjfbpphaaaGreatDoor.lawNoComments
namespace Go.Proofs.YtckeepjfbpphaaaGreatDoor
/-- The card. -/
theorem fnExactNoComments_card : Rows.FnExactNoCommentsCardSaid :=
  Claim7.holds_tied_plain_at .later [] _ _ _ _ lawNoComments.said (fun _ h => by cases h) (by kernel_rfl) (fun _ h => by cases h) fnExactNoComments_row_tie rfl ⟨rfl, rfl⟩ (by kernel_rfl) rfl lawNoComments.plain (by kernel_rfl)
end Go.Proofs.YtckeepjfbpphaaaGreatDoor
