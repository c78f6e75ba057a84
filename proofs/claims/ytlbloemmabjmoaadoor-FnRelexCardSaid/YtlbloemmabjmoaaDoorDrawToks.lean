/-
  The verifier's drawing function of tokens (spec.l5Tokens): it answers some tokens, not too many, with texts of a bounded size, in memory of the call's own; but for the cursor's own block nothing that lay before is changed.
-/
import Derived.Test.YtlbloemmabjmoaaDoorDrawTok
import Derived.Test.YtlbloemmabjmoaaDoorOwn2
import Derived.Test.YtlbloemmabjmoaaDoorOperand
import Derived.Deep.CutRange
import Derived.Deep.CutBlock
import Derived.Deep.DeepCutAuto
namespace Go.Proofs.YtlbloemmabjmoaaDoor.draw
open Go.ChangeShapes Go.WideShapes Go.ChangeAt Go.RowKit
open tk own
open lex (B3 eqI neI)
set_option linter.unusedVariables false

def Short (d : List Tk) : Prop := ∀ t ∈ d, t.s.size ≤ 16
theorem Short.snoc {d : List Tk} {t : Tk} (h : Short d) (ht : t.s.size ≤ 16) : Short (d ++ [t]) := fun u hu => by
  rcases List.mem_append.1 hu with hu | hu
  · exact h u hu
  · rw [List.mem_singleton.1 hu]; exact ht

/-- What the loop holds. -/
structure ST (B p : Nat) (a : Option Addr) (len cap : Nat) (zs : List Int) (w : World) (s : Nat × Int) (v : Value) (d : List Tk) (W : World) : Prop where
  own : Own w.heap.size v d W
  cur : In B W p a len cap zs s
  grown : w.grownBy W (some p)
/-- Behind the switch. -/
structure Sw (B p : Nat) (a : Option Addr) (len cap : Nat) (zs : List Int) (w : World) (g n : Nat) (v : Value) (W : World) : Prop where
  st : ∃ (d : List Tk) (s : Nat × Int) (k : Int) (x : ByteArray), d.length ≤ n ∧ Short d ∧ x.size ≤ 16 ∧ ST B p a len cap zs w s v d W ∧ B3 g k 0 x W ∧ v.ownBlock ≠ some g
variable {B p len cap : Nat} {w W W' : World} {a : Option Addr} {zs : List Int} {s s' : Nat × Int} {v v' : Value} {d d' : List Tk}
theorem ST.go (h : ST B p a len cap zs w s v d W) (hp : p < w.heap.size) (hg : W.grownBy W' (some p)) (hi : In B W' p a len cap zs s') : ST B p a len cap zs w s' v d W' :=
  ⟨h.own.grown hg hp, hi, grown_trans h.grown hg⟩
theorem ST.over (h : ST B p a len cap zs w s v d W) (o : Obj) : ST B p a len cap zs w s v d (W.alloc o) :=
  ⟨h.own.keep ((Below.refl W.heap.size W).alloc (Nat.le_refl _) o) (Nat.le_refl _), h.cur.over, grown_below h.grown ((Below.refl w.heap.size W).alloc h.grown.size o) rfl⟩
theorem ST.set (h : ST B p a len cap zs w s v d W) (hp : p < w.heap.size) {g : Nat} (hg : w.heap.size ≤ g) (hne : v.ownBlock ≠ some g) (j : Nat) (u : Value) : ST B p a len cap zs w s v d (W.setCell ⟨g, j, none⟩ u) :=
  ⟨h.own.setOther hne u, h.cur.keep ((Below.refl w.heap.size W).setCell (p := ⟨g, j, none⟩) hg u) hp, grown_below h.grown ((Below.refl w.heap.size W).setCell (p := ⟨g, j, none⟩) hg u) rfl⟩
theorem ST.app (h : ST B p a len cap zs w s v d W) (hp : p < w.heap.size) (ho : Own w.heap.size v' d' W') (hb : Below w.heap.size W W') : ST B p a len cap zs w s v' d' W' :=
  ⟨ho, h.cur.keep hb hp, grown_below h.grown hb rfl⟩
theorem b3_app {g k c : _} {x : ByteArray} {v : Value} (h : B3 g k c x W) (hg : W.grownBy W' v.ownBlock) (hne : v.ownBlock ≠ some g) : B3 g k c x W' :=
  (hg.block g h.lt (fun e => hne e.symm)).trans h

def RelT (B p : Nat) (a : Option Addr) (len cap : Nat) (zs : List Int) (w : World) (v n : Value) (wr : World) : Prop :=
  ∃ (d : List Tk) (m : Nat) (s : Nat × Int), n = .int .i64 (m : Int) ∧ d.length + 2 * m ≤ 28 ∧ Short d ∧ ST B p a len cap zs w s v d wr
/-- Some tokens. -/
def TokL (B p : Nat) (a : Option Addr) (len cap : Nat) (zs : List Int) (w : World) (e : Ending) (w' : World) : Prop :=
  ∃ (v : Value) (d : List Tk) (s' : Nat × Int), e = .returned v ∧ d.length ≤ 28 ∧ Short d ∧ ST B p a len cap zs w s' v d w'
def commentL : List ByteArray := [⟨#[35]⟩, ⟨#[35, 32, 97]⟩, ⟨#[35, 34, 120]⟩]
theorem comment_16 : ∀ x ∈ commentL, x.size ≤ 16 := by decide

set_option maxRecDepth 100000 in
set_option maxHeartbeats 32000000 in
theorem toks_any (H : In B w p a len cap zs s) :
    Calls Tryd.prog 31 #[.pointer (some ⟨p, 0, none⟩), .int .i64 14] w (TokL B p a len cap zs w) := by
  have hlt := H.lt
  have HI := Lib.hid (show ST B p a len cap zs w s (.slice (some ⟨w.heap.size, 0, none⟩) 0 0) [] (w.alloc (.cells #[] 35)) from
    ⟨World.ownsRow_lit w #[] 0 (Nat.le_refl _) (by unfold maxLen; omega) rfl, H.over, World.grownBy_alloc w _ _⟩)
  clear H
  have b0 := belowF_bd zs 15 s (by omega)
  obtain ⟨n0, hn0⟩ : ∃ n : Nat, (belowF zs 15 s).1 = n := ⟨(belowF zs 15 s).1.toNat, by omega⟩
  rw [hn0] at b0
  have HN := Lib.hid hn0
  clear hn0
  go_enter Tryd.func31, Tryd.ntmps31
  go_wp2_with fail
  refine (below_any 15 HI.out.cur).mono ?_
  rintro e w1 ⟨he, I1, G1⟩
  rw [HN.out] at he
  subst he
  have HI1 := Lib.hid (HI.out.go hlt G1 I1)
  clear I1 G1
  go_wp2
  go_loopw [5, 6] (fun v m wr => RelT B p a len cap zs w v m wr) (fun _ m _ => (intOf m).toNat)
  case atStart => exact ⟨[], n0, _, rfl, by simp; omega, fun t ht => (by cases ht), HI1.out⟩
  case round =>
    obtain ⟨d, m, st, rfl, hdm, hsh, hst⟩ := hrel
    have HST := Lib.hid hst
    have HSH := Lib.hid hsh
    obtain ⟨ao, co, rfl⟩ := hst.own.form
    have hfb := hst.own
    clear hst hsh
    by_cases hm : m = 0
    · subst hm
      have HD := Lib.hid hdm
      by_cases hd : d.length = 0
      · rw [hd] at HST ⊢
        clear hd hfb
        go_wp2
        go_ret
        exact ⟨_, d, st, rfl, by have := HD.out; omega, HSH.out, HST.out⟩
      · have hdp : 0 < (d.length : Int) := by omega
        have hdl : d.length ≤ 28 := by omega
        clear hd hdm
        go_wp2_with fail
        refine (once_any 10 HST.out.cur).mono ?_
        rintro e w2 ⟨he, I2, G2⟩
        have HS2 := Lib.hid (HST.out.go hlt G2 I2)
        clear I2 G2
        cases ho : ((belowF zs 10 st).1 == 0)
        · rw [ho] at he
          subst he
          go_wp2
          go_ret
          exact ⟨_, d, _, rfl, hdl, HSH.out, HS2.out⟩
        · rw [ho] at he
          subst he
          obtain ⟨gv, cv, hv, hgv, hblk⟩ := HS2.out.own.blk (by omega)
          injection hv with hv1 _ hv3
          subst hv1 hv3
          have bb := belowF_bd zs (d.length : Int) (belowF zs 10 st).2 (by omega)
          obtain ⟨K, hK⟩ : ∃ K : Nat, (belowF zs (d.length : Int) (belowF zs 10 st).2).1 = K := ⟨(belowF zs (d.length : Int) (belowF zs 10 st).2).1.toNat, by omega⟩
          rw [hK] at bb
          have HK := Lib.hid hK
          have HL := Lib.hid hdl
          clear hK hblk
          go_wp2_with fail
          refine (below_any (d.length : Int) HS2.out.cur).mono ?_
          rintro e w3 ⟨he, I3, G3⟩
          rw [HK.out] at he
          subst he
          have HS3 := Lib.hid (HS2.out.go hlt G3 I3)
          clear I3 G3
          go_wp2_with fail
          refine (tok_any HS3.out.cur).mono ?_
          rintro e w4 ⟨k, x, s4, hx, rfl, I4, G4⟩
          have HS4 := Lib.hid (HS3.out.go hlt G4 I4)
          have HXX := Lib.hid hx
          clear I4 G4 hx
          obtain ⟨gw, cw, hw, hgw, hbl⟩ := HS4.out.own.blk (by omega)
          injection hw with hw1 _ hw3
          injection hw1 with hw1
          injection hw1 with hw1 _ _
          subst hw1 hw3
          have HBL := Lib.hid hbl
          have hKd : K < d.length := by omega
          have hcap : d.length ≤ co := by obtain ⟨_, _, _, h, _⟩ := hbl; exact h
          obtain ⟨c0, c1, c2⟩ := hbl.at K hKd
          have f := hbl.frozen
          have hK1 : (K : Int) < (d.length : Int) := by omega
          have hK0 : (0 : Int) ≤ (K : Int) := by omega
          have HGV := Lib.hid hgv
          clear hbl
          go_wp2
          go_ret
          refine ⟨_, d.set K ⟨k, x, 0⟩, s4, rfl, by simpa using HL.out, ?_, ?_⟩
          · intro t ht
            rcases List.mem_or_eq_of_mem_set ht with h | h
            · exact HSH.out t h
            · rw [h]; exact HXX.out
          · have hneq : ∀ (W0 : World) (j : Nat) (u : Value), Below w.heap.size W0 (W0.setCell ⟨gv, j, none⟩ u) := fun W0 j u => (Below.refl w.heap.size W0).setCell (p := ⟨gv, j, none⟩) HGV.out u
            have hB := ((hneq w4 (K * 3) (.int .i64 k)).trans (hneq _ (K * 3 + 1) (.string x))).trans (hneq _ (K * 3 + 2) (.int .i64 0))
            have ho := HS4.out.own.setAt K ⟨k, x, 0⟩
            exact HS4.out.app hlt ho hB
    · obtain ⟨m, rfl⟩ : ∃ m' : Nat, m = m' + 1 := ⟨m - 1, by omega⟩
      have hm0 : (0 : Int) < (m : Int) + 1 := by omega
      clear hm
      have HDM := Lib.hid hdm
      go_upto_if 20 with (fail)
      go_cut [7] from 14 to 82 (fun v wx => (∃ k, v = .int .i64 k) ∧ wx = wr)
      case first =>
        by_cases hd : d.length = 0
        · have hz0 : ¬ (0 : Int) < (d.length : Int) := by omega
          clear hd hfb
          go_wp2_with fail
          go_meet
          first | exact ⟨⟨_, rfl⟩, rfl⟩ | exact ⟨_, rfl, rfl⟩ | rfl | simp
        · obtain ⟨N, hN⟩ : ∃ N : Nat, d.length = N + 1 := ⟨d.length - 1, by omega⟩
          obtain ⟨gv, cv, hv, hgv, hblk⟩ := hfb.blk (by omega)
          injection hv with hv1 _ hv3
          subst hv1 hv3
          have hNd : N < d.length := by omega
          obtain ⟨c0, c1, c2⟩ := hblk.at N hNd
          obtain ⟨last, hlast⟩ : ∃ k, k = d[N].k := ⟨_, rfl⟩
          rw [← hlast] at c0
          have i1 : (0 : Int) < (d.length : Int) := by omega
          have i2 : (N : Int) < (d.length : Int) := by omega
          have i3 : (0 : Int) ≤ (N : Int) := by omega
          have i5 : (d.length : Int) - 1 = (N : Int) := by omega
          have i4 : wrap64 (N : Int) = (N : Int) := by unfold wrap64; omega
          clear hd hblk hfb hlast c1 c2 hNd hN
          go_wp2_with fail
          go_meet
          first | exact ⟨⟨_, rfl⟩, rfl⟩ | exact ⟨_, rfl, rfl⟩ | rfl | simp
      case rest =>
        obtain ⟨⟨last, rfl⟩, rfl⟩ := hcut
        go_wp2_with fail
        refine (tok_any HST.out.cur).mono ?_
        rintro e w2 ⟨k, x, s2, hx, rfl, I2, G2⟩
        have HXS := Lib.hid hx
        have HS2 := Lib.hid (HST.out.go hlt G2 I2)
        have HNE := Lib.hid (HS2.out.own.ne_new (Nat.le_refl _))
        have HG8 := Lib.hid (show w.heap.size ≤ w2.heap.size from HS2.out.grown.size)
        have HS3 := Lib.hid (HS2.out.over (.cells #[.int .i64 k, .string x, .int .i64 0] 35))
        have HX3 := Lib.hid (B3.new w2 k 0 x)
        clear I2 G2 hx hfb
        obtain ⟨W3, hW3⟩ : ∃ W3, W3 = w2.alloc (.cells #[.int .i64 k, .string x, .int .i64 0] 35) := ⟨_, rfl⟩
        have HW3 := Lib.hid hW3
        rw [← hW3] at HS3 HX3
        obtain ⟨t0, t1, t2⟩ := HX3.out.c
        have t3 := HX3.out.f
        obtain ⟨g8, hg8⟩ : ∃ g8, g8 = w2.heap.size := ⟨_, rfl⟩
        go_upto_block 2 with (fail)
        rw [← HW3.out, ← hg8]
        rw [← hg8] at HNE HG8 HX3 t0 t1 t2 t3
        clear hW3 hg8
        go_cut [5] from 14 to 82 (fun v wx => Sw B p a len cap zs w g8 (d.length + 1) v wx)
        case first =>
          go_upto_region 9 with (fail)
          go_cut [30] from 14 to 82 (fun v wx => (∃ b, v = .bool b) ∧ wx = W3)
          case first =>
            cases hen : operand.ends last
            · by_cases k5 : k = 5
              · obtain ⟨z5, -⟩ := eqI k5
                obtain ⟨z58, -⟩ := neI (show ¬ k = 58 by omega)
                obtain ⟨z41, -⟩ := neI (show ¬ k = 41 by omega)
                clear k5
                go_wp2_with (go_at_call 38; refine (operand.spec_ends _ _).mono ?_; rintro e w' ⟨he, rfl⟩; rw [hen] at he; subst he)
                go_meet
                first | exact ⟨⟨_, rfl⟩, rfl⟩ | rfl | simp
              obtain ⟨z5, -⟩ := neI k5
              by_cases k58 : k = 58
              · obtain ⟨z58, -⟩ := eqI k58
                clear k5 k58
                go_wp2_with (go_at_call 38; refine (operand.spec_ends _ _).mono ?_; rintro e w' ⟨he, rfl⟩; rw [hen] at he; subst he)
                go_meet
                first | exact ⟨⟨_, rfl⟩, rfl⟩ | rfl | simp
              obtain ⟨z58, -⟩ := neI k58
              by_cases k41 : k = 41
              · obtain ⟨z41, -⟩ := eqI k41
                clear k5 k58 k41
                go_wp2_with (go_at_call 38; refine (operand.spec_ends _ _).mono ?_; rintro e w' ⟨he, rfl⟩; rw [hen] at he; subst he)
                go_meet
                first | exact ⟨⟨_, rfl⟩, rfl⟩ | rfl | simp
              obtain ⟨z41, -⟩ := neI k41
              clear k5 k58 k41
              go_wp2_with (go_at_call 38; refine (operand.spec_ends _ _).mono ?_; rintro e w' ⟨he, rfl⟩; rw [hen] at he; subst he)
              go_meet
              first | exact ⟨⟨_, rfl⟩, rfl⟩ | rfl | simp
            · by_cases k5 : k = 5
              · obtain ⟨z5, -⟩ := eqI k5
                obtain ⟨z58, -⟩ := neI (show ¬ k = 58 by omega)
                obtain ⟨z41, -⟩ := neI (show ¬ k = 41 by omega)
                clear k5
                go_wp2_with (go_at_call 38; refine (operand.spec_ends _ _).mono ?_; rintro e w' ⟨he, rfl⟩; rw [hen] at he; subst he)
                go_meet
                first | exact ⟨⟨_, rfl⟩, rfl⟩ | rfl | simp
              obtain ⟨z5, -⟩ := neI k5
              by_cases k58 : k = 58
              · obtain ⟨z58, -⟩ := eqI k58
                clear k5 k58
                go_wp2_with (go_at_call 38; refine (operand.spec_ends _ _).mono ?_; rintro e w' ⟨he, rfl⟩; rw [hen] at he; subst he)
                go_meet
                first | exact ⟨⟨_, rfl⟩, rfl⟩ | rfl | simp
              obtain ⟨z58, -⟩ := neI k58
              by_cases k41 : k = 41
              · obtain ⟨z41, -⟩ := eqI k41
                clear k5 k58 k41
                go_wp2_with (go_at_call 38; refine (operand.spec_ends _ _).mono ?_; rintro e w' ⟨he, rfl⟩; rw [hen] at he; subst he)
                go_meet
                first | exact ⟨⟨_, rfl⟩, rfl⟩ | rfl | simp
              obtain ⟨z41, -⟩ := neI k41
              clear k5 k58 k41
              go_wp2_with (go_at_call 38; refine (operand.spec_ends _ _).mono ?_; rintro e w' ⟨he, rfl⟩; rw [hen] at he; subst he)
              go_meet
              first | exact ⟨⟨_, rfl⟩, rfl⟩ | rfl | simp
          case rest =>
            obtain ⟨⟨b9, rfl⟩, rfl⟩ := hcut
            cases b9
            · go_upto_region 11 with (fail)
              go_cut [54] from 14 to 82 (fun v wx => (∃ b, v = .bool b) ∧ ∃ s', ST B p a len cap zs w s' (.slice ao d.length co) d wx ∧ B3 g8 k 0 x wx)
              case first =>
                by_cases k6 : k = 6
                · obtain ⟨z6, -⟩ := eqI k6
                  clear k6
                  go_wp2_with fail
                  refine (once_any 4 HS3.out.cur).mono ?_
                  rintro e w4 ⟨rfl, I4, G4⟩
                  have HS4 := Lib.hid (HS3.out.go hlt G4 I4)
                  have HX4 := Lib.hid (b3_grown HX3.out G4 (by have := HG8.out; omega))
                  clear I4 G4
                  go_wp2_with fail
                  go_meet
                  exact ⟨⟨_, rfl⟩, _, HS4.out, HX4.out⟩
                · obtain ⟨z6, -⟩ := neI k6
                  clear k6
                  go_wp2_with fail
                  go_meet
                  exact ⟨⟨_, rfl⟩, s2, HS3.out, HX3.out⟩
              case rest =>
                obtain ⟨⟨b11, rfl⟩, s4, hs4, hx4⟩ := hcut
                have HS4 := Lib.hid hs4
                have HX4 := Lib.hid hx4
                obtain ⟨t0, t1, t2⟩ := hx4.c
                have t3 := hx4.f
                clear hs4 hx4
                cases b11
                · go_wp2_with fail
                  refine (once_any 20 HS4.out.cur).mono ?_
                  rintro e w5 ⟨he, I5, G5⟩
                  have HS5 := Lib.hid (HS4.out.go hlt G5 I5)
                  have HX5 := Lib.hid (b3_grown HX4.out G5 (by have := HG8.out; omega))
                  clear I5 G5 t0 t1 t2 t3
                  cases ho : ((belowF zs 20 s4).1 == 0)
                  · rw [ho] at he
                    subst he
                    go_wp2_with fail
                    go_meet
                    exact ⟨d, _, k, x, Nat.le_succ _, HSH.out, HXS.out, HS5.out, HX5.out, HNE.out⟩
                  · rw [ho] at he
                    subst he
                    go_wp2_with fail
                    refine (pick_new (fun z => z.size ≤ 16) 3 commentL HS5.out.cur comment_16 rfl (by decide) (by decide)).mono ?_
                    rintro e w6 ⟨z, s6, hz, rfl, I6, G6⟩
                    have HZ := Lib.hid (show z.size ≤ 16 from hz)
                    have HS6 := Lib.hid (HS5.out.go hlt G6 I6)
                    have HX6 := Lib.hid (b3_grown HX5.out G6 (by have := HG8.out; omega))
                    have hdl : d.length ≤ 1048576 := by have := HDM.out; omega
                    clear I6 G6 hz
                    go_wp2_with (first | (at_builtin; refine wpList_append_tok2 w6 ⟨2, z, 0⟩ rfl _ _ rfl w.heap.size _ d rfl HS6.out.own (by first | rfl | simp [Act.eval]) ?n1 ?n2 ?n3))
                    case n1 => exact hdl
                    case n2 => exact HS6.out.grown.size
                    case n3 =>
                      intro gq capq w8 ho8 hb8 hg8 hor
                      have HS8 := Lib.hid (HS6.out.app hlt ho8 hb8)
                      have HX8 := Lib.hid (b3_app HX6.out hg8 HNE.out)
                      have HN8 := Lib.hid (show (Value.slice (some ⟨gq, 0, none⟩) (d.length + 1) capq).ownBlock ≠ some g8 by
                        intro e
                        simp only [Value.ownBlock, Option.some.injEq] at e
                        rcases hor with h | h
                        · exact HNE.out (by rw [h, e])
                        · have := HX6.out.lt; omega)
                      obtain ⟨u0, u1, u2⟩ := HX8.out.c
                      have u3 := HX8.out.f
                      clear ho8 hb8 hg8 hor
                      go_wp2_with fail
                      go_meet
                      exact ⟨d ++ [⟨2, z, 0⟩], s6, 1, ⟨#[10]⟩, by simp, HSH.out.snoc HZ.out, (show 1 ≤ 16 by omega), ((HS8.out.set hlt HG8.out HN8.out 0 _).set hlt HG8.out HN8.out 1 _).set hlt HG8.out HN8.out 2 _, HX8.out.put 1 0 ⟨#[10]⟩, HN8.out⟩
                · have HSA := Lib.hid (HS4.out.set hlt HG8.out HNE.out 0 (.int .i64 7))
                  have HXA := Lib.hid (HX4.out.put0 7)
                  have hdl : d.length ≤ 1048576 := by have := HDM.out; omega
                  go_wp2_with (first | (at_builtin; refine wpList_append_tok2 (wc.setCell ⟨g8, 0, none⟩ (.int .i64 7)) ⟨7, x, 0⟩ rfl _ _ rfl w.heap.size _ d rfl HSA.out.own (by first | rfl | simp [Act.eval]) ?n1 ?n2 ?n3))
                  case n1 => exact hdl
                  case n2 => exact HSA.out.grown.size
                  case n3 =>
                      intro gq capq w8 ho8 hb8 hg8 hor
                      have HS8 := Lib.hid (HSA.out.app hlt ho8 hb8)
                      have HX8 := Lib.hid (b3_app HXA.out hg8 HNE.out)
                      have HN8 := Lib.hid (show (Value.slice (some ⟨gq, 0, none⟩) (d.length + 1) capq).ownBlock ≠ some g8 by
                        intro e
                        simp only [Value.ownBlock, Option.some.injEq] at e
                        rcases hor with h | h
                        · exact HNE.out (by rw [h, e])
                        · have h1 := HX4.out.lt
                          omega)
                      obtain ⟨u0, u1, u2⟩ := HX8.out.c
                      have u3 := HX8.out.f
                      clear ho8 hb8 hg8 hor t0 t1 t2 t3
                      go_wp2_with fail
                      go_meet
                      exact ⟨d ++ [⟨7, x, 0⟩], s4, 32, ⟨#[40]⟩, by simp, HSH.out.snoc HXS.out, (show 1 ≤ 16 by omega), ((HS8.out.set hlt HG8.out HN8.out 0 _).set hlt HG8.out HN8.out 1 _).set hlt HG8.out HN8.out 2 _, HX8.out.put 32 0 ⟨#[40]⟩, HN8.out⟩
            · go_wp2_with fail
              go_meet
              refine ⟨d, s2, 1, ⟨#[10]⟩, Nat.le_succ _, HSH.out, (show 1 ≤ 16 by omega), ((HS3.out.set hlt HG8.out HNE.out 0 _).set hlt HG8.out HNE.out 1 _).set hlt HG8.out HNE.out 2 _, HX3.out.put 1 0 ⟨#[10]⟩, HNE.out⟩
        case rest =>
          obtain ⟨dd, s5, kk, xx, hdl, hshd, hxx, hst5, hb5, hne5⟩ := hcut.st
          obtain ⟨a5, c5, rfl⟩ := hst5.own.form
          obtain ⟨r0, r1, r2⟩ := hb5.c
          have HST5 := Lib.hid hst5
          have HSHD := Lib.hid hshd
          have HXX := Lib.hid hxx
          have HDL := Lib.hid hdl
          have hdd : dd.length ≤ 1048576 := by omega
          clear hcut hst5 hshd hxx hb5 hne5 hdl t0 t1 t2 t3
          go_wp2_with (first | (at_builtin; refine wpList_append_tok2 wc ⟨kk, xx, 0⟩ rfl _ _ rfl w.heap.size _ dd rfl HST5.out.own (by first | rfl | simp [Act.eval]) ?n1 ?n2 ?n3))
          case n1 => exact hdd
          case n2 => exact HST5.out.grown.size
          case n3 =>
            intro g cap9 w9 ho hb _ _
            have HO := Lib.hid ho
            have HB9 := Lib.hid hb
            clear ho hb
            go_wp2
            go_roundw
            case rel => exact ⟨dd ++ [⟨kk, xx, 0⟩], m, _, by go_num, by have := HDM.out; have := HDL.out; simp; omega, HSHD.out.snoc HXX.out, HST5.out.app hlt HO.out HB9.out⟩
            case measure => simp [intOf]
end Go.Proofs.YtlbloemmabjmoaaDoor.draw
