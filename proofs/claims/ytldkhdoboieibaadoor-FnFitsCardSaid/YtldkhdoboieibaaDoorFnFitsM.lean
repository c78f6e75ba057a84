/-
  'laws.FnFits' returns true at every slice of bytes, and leaves it as it was: of the node and the position that the model draws from it: impl.Fits and the model say the same; where the node fits, it fits the position without its restrictions and Top, its level has a word, and the position is valid. The row lists impl's table of level words, tied to the program's text (the card), and says that it reads behind the call as before. No other condition. What is listed is tied to the copy of the project that the seat holds (its packages impl, spec and laws, no test): of code elsewhere that could write these variables the card says nothing.
-/
import Derived.Test.YtldkhdoboieibaaDoorCards
import Derived.Test.YtldkhdoboieibaaDoorTie
import Derived.Test.YtldkhdoboieibaaDoorGC
import Derived.Test.YtldkhdoboieibaaDoorGB
import Derived.Test.YtldkhdoboieibaaDoorGA
import Derived.Test.YtldkhdoboieibaaDoorIsRow
import Derived.OpenVars
import Derived.Deep.DeepHandedRow
import Derived.Deep.RegionHeld3
import Derived.Deep.CutRange
import Derived.Deep.CutBlock
import Derived.Deep.DeepCutAuto
import Derived.Lib.QuietBelow
import Derived.Stop.LaidErr
namespace Go.Proofs.YtldkhdoboieibaaDoor.lawFits
open Go.ChangeShapes Go.WideShapes Go.ChangeAt Go.RowKit
open nd
open ps (B5 Ps posOk fits)
open draw (N5)
open lv (levelOf box_below)
open lvw (Held held levelWord)
set_option linter.unusedVariables false
set_option maxRecDepth 20000
noncomputable def laidWorld (os : Os) : World :=
  let w0 := World.holding Tryd.prog os ⟨#[], #[], []⟩
  { w0 with heap := w0.heap.modify 0 fun
      | .cells _ t frozen => .cells (strCells lvw.words) t frozen
      | o => o }

/-- The boxes: the node, the position, the position without restrictions. -/
structure K3 (b q : Nat) (W : World) (t : Nd) (ak : Option Addr) (ck : Nat) (L : Int) (d i g s : Bool) (ql : Int) (qd qi qg qs : Bool) : Prop where
  n : N5 b t.k t.op t.s t.t (.slice ak t.kids.length ck) W
  p : B5 (b + 1) L d i g s W
  r : B5 q ql qd qi qg qs W
theorem K3.keep {b q : Nat} {W : World} {t : Nd} {ak : Option Addr} {ck : Nat} {L ql : Int} {d i g s qd qi qg qs : Bool} {w1 : World} (h : K3 b q W t ak ck L d i g s ql qd qi qg qs) (hb : Below W.heap.size W w1) : K3 b q w1 t ak ck L d i g s ql qd qi qg qs := ⟨h.n.keep hb h.n.lt, h.p.keep hb h.p.lt, h.r.keep hb h.r.lt⟩
theorem K3.drew {b q : Nat} {W : World} {t : Nd} {ak : Option Addr} {ck : Nat} {L ql : Int} {d i g s qd qi qg qs : Bool} (h : K3 b q W t ak ck L d i g s ql qd qi qg qs) : K3 b q W.drew t ak ck L d i g s ql qd qi qg qs := ⟨h.n, h.p, h.r⟩
theorem K3.cells {b q : Nat} {W : World} {t : Nd} {ak : Option Addr} {ck : Nat} {L ql : Int} {d i g s qd qi qg qs : Bool} (h : K3 b q W t ak ck L d i g s ql qd qi qg qs) : W.cell? ⟨b, 0, none⟩ = some (.int .i64 t.k) ∧ W.cell? ⟨b, 1, none⟩ = some (.int .i64 t.op) ∧ W.cell? ⟨b, 2, none⟩ = some (.string t.s) ∧ W.cell? ⟨b, 3, none⟩ = some (.string t.t) ∧ W.cell? ⟨b, 4, none⟩ = some (.slice ak t.kids.length ck) ∧ W.cell? ⟨b + 1, 0, none⟩ = some (.int .i64 (L)) ∧ W.cell? ⟨b + 1, 1, none⟩ = some (.bool (d)) ∧ W.cell? ⟨b + 1, 2, none⟩ = some (.bool (i)) ∧ W.cell? ⟨b + 1, 3, none⟩ = some (.bool (g)) ∧ W.cell? ⟨b + 1, 4, none⟩ = some (.bool (s)) ∧ W.cell? ⟨q, 0, none⟩ = some (.int .i64 (ql)) ∧ W.cell? ⟨q, 1, none⟩ = some (.bool (qd)) ∧ W.cell? ⟨q, 2, none⟩ = some (.bool (qi)) ∧ W.cell? ⟨q, 3, none⟩ = some (.bool (qg)) ∧ W.cell? ⟨q, 4, none⟩ = some (.bool (qs)) :=
  ⟨h.n.c.1, h.n.c.2.1, h.n.c.2.2.1, h.n.c.2.2.2.1, h.n.c.2.2.2.2, h.p.c.1, h.p.c.2.1, h.p.c.2.2.1, h.p.c.2.2.2.1, h.p.c.2.2.2.2, h.r.c.1, h.r.c.2.1, h.r.c.2.2.1, h.r.c.2.2.2.1, h.r.c.2.2.2.2⟩
/-- What fits a position fits it without its restrictions, and Top; its level has a word. -/
theorem fits_more {k op L : Int} {d i g s : Bool} (h : fits k op L d i g s = true) : fits k op L d false false false = true ∧ fits k op 1 false false false false = true ∧ (1 ≤ levelOf k op ∧ levelOf k op ≤ 15) ∧ posOk L d = true := by
  unfold fits at h
  simp only [Bool.and_eq_true] at h
  obtain ⟨⟨⟨hp, h0⟩, -⟩, hl⟩ := h
  have hv : ¬ levelOf k op = 0 := by simpa using h0
  have hr : 0 ≤ levelOf k op ∧ levelOf k op ≤ 15 := by
    have := lv.lev_range op
    unfold levelOf
    repeat' split
    all_goals omega
  have hf : ∀ k op, ps.forb k op false false false = false := fun k op => by simp [ps.forb]
  refine ⟨?_, ?_, ⟨by omega, hr.2⟩, hp⟩
  · unfold fits
    simp only [Bool.and_eq_true]
    exact ⟨⟨⟨hp, h0⟩, by simp [hf]⟩, hl⟩
  · unfold fits
    simp only [Bool.and_eq_true]
    refine ⟨⟨⟨by decide, h0⟩, by simp [hf]⟩, ?_⟩
    simp only [Bool.false_and, Bool.false_or, decide_eq_true_eq]
    omega
theorem word_some {n : Int} (h : 1 ≤ n ∧ n ≤ 15) : 0 < (levelWord n).size := by
  obtain rfl | rfl | rfl | rfl | rfl | rfl | rfl | rfl | rfl | rfl | rfl | rfl | rfl | rfl | rfl : n = 1 ∨ n = 2 ∨ n = 3 ∨ n = 4 ∨ n = 5 ∨ n = 6 ∨ n = 7 ∨ n = 8 ∨ n = 9 ∨ n = 10 ∨ n = 11 ∨ n = 12 ∨ n = 13 ∨ n = 14 ∨ n = 15 := by omega
  all_goals decide

set_option maxHeartbeats 8000000 in
theorem core {a : Option Addr} {len cap : Nat} {zs : List Int} {w : World} (hc : draw.Code w.heap.size w a len zs) (hl : len ≤ 1048576) (hh : Held w) :
    Calls Tryd.prog 3 #[.slice a len cap] w fun e w' => e = .returned (.bool true) ∧ Below w.heap.size w w' := by
  have HC := Lib.hid hc
  have HH := Lib.hid hh
  clear hc hh
  have hbig : decide (1048576 < len) = false := by simp; omega
  go_enter Tryd.func3, Tryd.ntmps3
  go_wp2_with fail
  refine (draw.big_any a len cap _ (by omega)).mono ?_
  rintro e w' ⟨he, rfl⟩
  rw [hbig] at he
  subst he
  clear hbig
  go_wp2_with fail
  refine (draw.drawFits_any HC.out hl).mono ?_
  rintro e w1 ⟨t, ak, ck, L, d, i, g, s, rfl, hkn, b1⟩
  obtain ⟨Z, hZ⟩ : ∃ Z, fits t.k t.op L d i g s = Z := ⟨_, rfl⟩
  have HZ := Lib.hid hZ
  have hzz : (Z != Z) = false := by simp
  obtain ⟨W, hW⟩ : ∃ W, W = (w1.alloc (.cells #[.int .i64 t.k, .int .i64 t.op, .string t.s, .string t.t, .slice ak t.kids.length ck] 26)).alloc (.cells #[.int .i64 (L), .bool (d), .bool (i), .bool (g), .bool (s)] 28) := ⟨_, rfl⟩
  obtain ⟨b, hb⟩ : ∃ b, b = w1.heap.size := ⟨_, rfl⟩
  have BW := Lib.hid (show Below w.heap.size w W by rw [hW]; exact b1.trans (((box_below _ _).trans ((box_below _ _).mono (by simp))).mono b1.size))
  have NW := Lib.hid (show N5 b t.k t.op t.s t.t (.slice ak t.kids.length ck) W by rw [hW, hb]; exact (N5.new w1 _ _ _ _ _).keep (box_below _ _) (N5.lt (N5.new w1 _ _ _ _ _)))
  have PW := Lib.hid (show B5 (b + 1) L d i g s W by
    have h := B5.new (w1.alloc (.cells #[.int .i64 t.k, .int .i64 t.op, .string t.s, .string t.t, .slice ak t.kids.length ck] 26)) L d i g s
    have e : (w1.alloc (.cells #[.int .i64 t.k, .int .i64 t.op, .string t.s, .string t.t, .slice ak t.kids.length ck] 26)).heap.size = w1.heap.size + 1 := by simp
    rw [e, ← hW, ← hb] at h
    exact h)
  clear hkn b1 hZ
  go_upto_region 4 with (fail)
  rw [← hW, ← hb]
  clear hW hb
  obtain ⟨n0, n1, n2, n3, n4⟩ := NW.out.c
  obtain ⟨p0, p1, p2, p3, p4⟩ := PW.out.c
  go_wp2_with fail
  refine (ps.impl_fits t.k t.op L t.s t.t _ _ _ d i g s _).mono ?_
  rw [HZ.out]
  rintro e w3 ⟨rfl, b3⟩
  have N3 := Lib.hid (NW.out.keep b3 NW.out.lt)
  have P3 := Lib.hid (PW.out.keep b3 PW.out.lt)
  have B3 := Lib.hid (BW.out.trans (b3.mono BW.out.size))
  clear n0 n1 n2 n3 n4 p0 p1 p2 p3 p4 b3 NW PW BW
  obtain ⟨n0, n1, n2, n3, n4⟩ := N3.out.c
  obtain ⟨p0, p1, p2, p3, p4⟩ := P3.out.c
  go_wp2_with fail
  refine (ps.spec_fits t.k t.op L t.s t.t _ _ _ d i g s _).mono ?_
  rw [HZ.out]
  rintro e w5 ⟨rfl, b5⟩
  have N5' := Lib.hid (N3.out.keep b5 N3.out.lt)
  have P5 := Lib.hid (P3.out.keep b5 P3.out.lt)
  have B5' := Lib.hid (B3.out.trans (b5.mono B3.out.size))
  clear n0 n1 n2 n3 n4 p0 p1 p2 p3 p4 b5 N3 P3 B3
  obtain ⟨p0, p1, p2, p3, p4⟩ := P5.out.c
  cases Z
  · go_wp2_with fail
    go_ret
    exact ⟨rfl, B5'.out⟩
  obtain ⟨m1, m2, m3, m4⟩ := fits_more HZ.out
  have HM1 := Lib.hid m1
  have HM2 := Lib.hid m2
  have HM4 := Lib.hid m4
  obtain ⟨V, hV⟩ : ∃ V, levelOf t.k t.op = V := ⟨_, rfl⟩
  have HV := Lib.hid hV
  rw [hV] at m3
  obtain ⟨x, hx⟩ : ∃ x, levelWord V = x := ⟨_, rfl⟩
  have HX := Lib.hid hx
  have hxs : 0 < x.size := by rw [← hx]; exact word_some m3
  have hxe : x.toList.isEmpty = false := by
    rw [ByteArray.toList_eq]
    obtain ⟨⟨l⟩⟩ := x
    cases l with
    | nil => exact absurd hxs (by decide)
    | cons _ _ => rfl
  have hxn : ¬ x.toList = [] := by
    intro h
    rw [h] at hxe
    cases hxe
  clear m1 m2 m3 m4 hV hx hxs
  go_upto_region 13 with (fail)
  obtain ⟨W10, hW10⟩ : ∃ W10, W10 = w5.alloc (.cells #[.int .i64 (L), .bool (d), .bool (false), .bool (false), .bool (false)] 28) := ⟨_, rfl⟩
  obtain ⟨q, hq⟩ : ∃ q, q = w5.heap.size := ⟨_, rfl⟩
  have K10 := Lib.hid (show K3 b q W10 t ak ck L d i g s L d false false false by
    rw [hW10, hq]
    exact ⟨N5'.out.keep (box_below _ _) N5'.out.lt, P5.out.keep (box_below _ _) P5.out.lt, B5.new _ _ _ _ _ _⟩)
  have B10 := Lib.hid (show Below w.heap.size w W10 by rw [hW10]; exact B5'.out.trans ((box_below _ _).mono B5'.out.size))
  rw [← hW10, ← hq]
  clear hW10 hq p0 p1 p2 p3 p4
  go_region_held3 (fun w' => w'.cell? ⟨b, 0, none⟩ = some (.int .i64 t.k) ∧ w'.cell? ⟨b, 1, none⟩ = some (.int .i64 t.op) ∧ w'.cell? ⟨b, 2, none⟩ = some (.string t.s) ∧ w'.cell? ⟨b, 3, none⟩ = some (.string t.t) ∧ w'.cell? ⟨b, 4, none⟩ = some (.slice ak t.kids.length ck) ∧ w'.cell? ⟨b + 1, 0, none⟩ = some (.int .i64 (L)) ∧ w'.cell? ⟨b + 1, 1, none⟩ = some (.bool (d)) ∧ w'.cell? ⟨b + 1, 2, none⟩ = some (.bool (i)) ∧ w'.cell? ⟨b + 1, 3, none⟩ = some (.bool (g)) ∧ w'.cell? ⟨b + 1, 4, none⟩ = some (.bool (s)) ∧ w'.cell? ⟨q, 0, none⟩ = some (.int .i64 (L)) ∧ w'.cell? ⟨q, 1, none⟩ = some (.bool (d)) ∧ w'.cell? ⟨q, 2, none⟩ = some (.bool (false)) ∧ w'.cell? ⟨q, 3, none⟩ = some (.bool (false)) ∧ w'.cell? ⟨q, 4, none⟩ = some (.bool (false)))
    (first | with_reducible assumption | with_reducible exact K10.out.drew.cells | with_reducible exact K10.out.cells | with_reducible exact K11.out.cells | with_reducible exact K12.out.cells | with_reducible exact K13.out.cells | with_reducible exact K14.out.cells | with_reducible exact K16.out.cells)
    (first
      | (have _k := K12; go_at_call 6; refine (ps.impl_fits t.k t.op 1 t.s t.t _ _ _ false false false false _).mono ?_; rw [HM2.out]; rintro e w13 ⟨rfl, b13⟩; have K13 := Lib.hid (K12.out.keep b13); have B13 := Lib.hid (B12.out.trans (b13.mono B12.out.size)); obtain ⟨x_c0, x_c1, x_c2, x_c3, x_c4, y_c0, y_c1, y_c2, y_c3, y_c4, z_c0, z_c1, z_c2, z_c3, z_c4⟩ := K13.out.cells; clear b13)
      | (go_at_call 6; refine (ps.impl_fits t.k t.op L t.s t.t _ _ _ d false false false _).mono ?_; rw [HM1.out]; rintro e w11 ⟨rfl, b11⟩; have K11 := Lib.hid (K10.out.drew.keep b11); have B11 := Lib.hid (B10.out.drew.trans (b11.mono B10.out.drew.size)); obtain ⟨x_a0, x_a1, x_a2, x_a3, x_a4, y_a0, y_a1, y_a2, y_a3, y_a4, z_a0, z_a1, z_a2, z_a3, z_a4⟩ := K11.out.cells; clear b11)
      | (go_at_call 8; refine (ps.impl_top _).mono ?_; rintro e w12 ⟨rfl, b12⟩; have K12 := Lib.hid (K11.out.keep b12); have B12 := Lib.hid (B11.out.trans (b12.mono B11.out.size)); obtain ⟨x_b0, x_b1, x_b2, x_b3, x_b4, y_b0, y_b1, y_b2, y_b3, y_b4, z_b0, z_b1, z_b2, z_b3, z_b4⟩ := K12.out.cells; clear b12)
      | (go_at_call 10; refine (lv.impl_level t.k t.op t.s t.t _ _ _ _).mono ?_; rw [HV.out]; rintro e w14 ⟨rfl, b14⟩; have K14 := Lib.hid (K13.out.keep b14); have B14 := Lib.hid (B13.out.trans (b14.mono B13.out.size)); obtain ⟨x_d0, x_d1, x_d2, x_d3, x_d4, y_d0, y_d1, y_d2, y_d3, y_d4, z_d0, z_d1, z_d2, z_d3, z_d4⟩ := K14.out.cells; clear b14)
      | (go_at_call 9; refine (lvw.impl_word V _ (HH.out.below B14.out)).mono ?_; rw [HX.out]; rintro e w15 ⟨rfl, rfl⟩)
      | (go_at_call 11; refine (ps.impl_ok L d i g s _).mono ?_; rw [HM4.out]; rintro e w16 ⟨rfl, b16⟩; have K16 := Lib.hid (K14.out.keep b16); have B16 := Lib.hid (B14.out.trans (b16.mono B14.out.size)); obtain ⟨x_f0, x_f1, x_f2, x_f3, x_f4, y_f0, y_f1, y_f2, y_f3, y_f4, z_f0, z_f1, z_f2, z_f3, z_f4⟩ := K16.out.cells; clear b16))
  go_wp2
  go_ret
  exact ⟨rfl, B16.out⟩
/-- THE WALK: the law's own text. -/
theorem walk (a : Option Addr) (len cap : Nat) (zs : List Int) (w : World) (hz : draw.IsRow .u8 w a len cap zs) (hh : Held w) :
    Calls Tryd.prog 3 #[.slice a len cap] w fun e w' => e = .returned (.bool true) ∧ Below w.heap.size w w' := by
  have hlm : len ≤ maxLen := by
    rcases hz with ⟨_, rfl, _, _⟩ | ⟨x, _, hl, hm, _⟩
    · exact Nat.zero_le _
    · exact Nat.le_trans hl hm
  unfold maxLen at hlm
  by_cases hl : len ≤ 1048576
  · exact core (draw.code_of hz) hl hh
  · have hbig : decide (1048576 < len) = true := by simp; omega
    clear hz
    go_enter Tryd.func3, Tryd.ntmps3
    go_wp2_with fail
    refine (draw.big_any a len cap _ (by omega)).mono ?_
    rintro e w' ⟨he, rfl⟩
    rw [hbig] at he
    subst he
    go_wp2
    go_ret
    exact ⟨rfl, Below.refl _ _⟩
end Go.Proofs.YtldkhdoboieibaaDoor.lawFits
namespace Go.Proofs.YtldkhdoboieibaaDoor.lawFits
open Go.ChangeShapes Go.WideShapes Go.ChangeAt Go.RowKit
open Go.ChangeMaps (open_string shut_string)
abbrev IsRow := draw.IsRow
theorem own : ownKnob Tryd.prog.godebug = none := by kernel_rfl
theorem laidOut : laidOutB Tryd.prog = true := by kernel_rfl

set_option maxRecDepth 100000 in
theorem contract (H : Type) (enc : TypeId × Value → H) (W : World) (base : Nat) (args : Array Value) (ds gs : List (DataW H)) (before : List MemPlace)
    (hval : ∀ (j : Nat) t v, Tryd.f3.params[j]? = some t → args[j]? = some v → Value.okWide Tryd.prog W .any base t v)
    (hW : DataW.Whole enc Tryd.prog Tryd.f3.params.toList Rows.fnFitsSpec.vars false W args.toList ds gs before) (hL0 : laidMetH Tryd.prog Rows.fnFitsRow.laid W) :
    Calls Tryd.prog 3 args W fun e W' => ∃ v, e = .returned v ∧ Rows.fnFitsSpec.post enc Tryd.prog Tryd.f3 false true false false W args v W' := by
  have hL : laidMet Tryd.prog Rows.fnFitsRow.laid W := hL0
  have hW' := hW
  obtain ⟨p, q, hA0, hV, rfl, hfz, hnd⟩ := hW
  have hA : DataW.TrodAll enc Tryd.prog W 0 (fun _ => true) true Tryd.f3.params.toList args.toList ds p := hA0
  rw [Tryd.params3] at hA hval
  obtain ⟨v0, vs0, d0, ds0, p0, q0, hargs, rfl, rfl, h0, r0⟩ := trodAll_cons hA
  obtain ⟨rfl, rfl, rfl⟩ := trodAll_nil r0
  obtain rfl : args = #[v0] := by cases args; simp_all
  obtain ⟨e0, rfl⟩ : ∃ e0, gs = [e0] := by
    have hlen := trodVars_len hV
    match gs, hlen with
    | [x0], _ => exact ⟨x0, rfl⟩
  obtain ⟨a0, len0, cap0, rfl⟩ := okWide_slice Tryd.underlying22 (hval 0 22 v0 rfl rfl)
  have k0 := h0
  have lt0 : ∀ x ∈ p0, x.block < W.heap.size := by obtain ⟨m, hm⟩ := k0; exact DataW.trod_lt m _ _ _ hm
  obtain ⟨z0, w0⟩ : ∃ zs, IsRow .u8 W a0 len0 cap0 zs := by
    obtain ⟨fuel, hf⟩ := h0
    rcases open_ints Tryd.underlying22 Tryd.underlying5 (by kernel_rfl) hf with ⟨hcs, _⟩ | ⟨x, l, c, zs, hcs, _, hl, hm, hz, _, hcell, hwz⟩
    · simp [Value.cells] at hcs
      obtain ⟨rfl, rfl, rfl⟩ := hcs
      exact ⟨[], .inl ⟨rfl, rfl, rfl, rfl⟩⟩
    · simp [Value.cells] at hcs
      obtain ⟨rfl, rfl, rfl⟩ := hcs
      exact ⟨zs, .inr ⟨_, rfl, hl, hm, by simpa using hz, hcell, hwz⟩⟩
  clear hA0
  refine (walk a0 len0 cap0 z0 W w0 (lvw.held hL)).mono fun e W' ⟨he, bel⟩ => ?_
  subst he
  exact ⟨_, rfl, _, _, _, [], _, _, hW', trodAll_mk1 (shut_bool Tryd.underlying4 _), (trodAll_cons_mk (Below.trod laidOut (by kernel_rfl) (of_decide_eq_true (by kernel_rfl)) k0 bel lt0) trodAll_mk0), Below.trodVars laidOut bel (by kernel_rfl) hV, bel.frame _, fun h => by cases h⟩

theorem laid_met (os : Os) : laidMet Tryd.prog Rows.fnFitsRow.laid ((laidWorld os).forCall (fun _ _ => 0) ⟨#[], #[.slice none 0 0], []⟩).memory :=
  laidMet_of_run' 8 (by kernel_rfl) (by kernel_rfl)
theorem reads (os : Os) {H : Type} (enc : TypeId × Value → H) : ∃ places, DataW.whole enc Tryd.prog ((laidWorld os).forCall (fun _ _ => 0) ⟨#[], #[.slice none 0 0], []⟩).memory Tryd.f3.params.toList Rows.fnFitsSpec.vars false #[Value.slice none 0 0].toList 8 = some ([.nil], [Rows.laid_loop_example_g01543_impl_levelWords], places) :=
  ⟨MemPlace.row ⟨0, 0, none⟩ 16, by kernel_rfl⟩

set_option maxRecDepth 100000 in
theorem lifted (os : Os) (started : os.Started) (H : Type) (enc : TypeId × Value → H) (F : Stop.Interp) :
    ReturnsInHanded {} Tryd.checked os 3 .any ((OpenSpec.ofChange Rows.fnFitsSpec).preRow enc Tryd.prog Tryd.f3 Rows.fnFitsRow.domain false Rows.fnFitsRow.laid) (((OpenSpec.ofChange Rows.fnFitsSpec).at F).post enc Tryd.prog Tryd.f3 false true false false) := by
  obtain ⟨places, hx⟩ := reads os enc
  refine returnsInHanded_of_row (C := Tryd.checked) (s := OpenSpec.ofChange Rows.fnFitsSpec) own started (by kernel_rfl) Tryd.func3
    (witness_row_at (enc := enc) (C := Tryd.checked) false (laidWorld os) #[.slice none 0 0] rfl (by kernel_rfl) (by kernel_rfl) (by kernel_rfl)
      (OpenSpec.preRow_of_cond 8 hx (by kernel_rfl) (fun k hk => by cases hk) (by kernel_rfl) (laid_met os))) ?_
  intro W base args ds gs before hval hW _ _ _ hL _ _
  exact contract H enc W base args ds gs before hval hW hL

theorem said : Rows.FnFitsSaid :=
  OpenClaim.holds_of_cond 3 Tryd.f3 rfl rfl rfl rfl rfl rfl rfl ⟨rfl, rfl, rfl, rfl, rfl⟩ rfl rfl rfl rfl rfl (by kernel_rfl) Tryd.func3 (by kernel_rfl)
    (of_decide_eq_true (by kernel_rfl)) (by unfold Func.isWrapper; first | (rw [if_pos (by decide +kernel)]; kernel_rfl) | (rw [if_neg (by decide +kernel)]; exact ⟨rfl, rfl⟩))
    (fun os started H enc _ F => by rw [OpenClaim.pre_eq_preRow]; exact lifted os started H enc F)

/-- No parameter wants a stand-in; the program's own looks are as the card says. -/
theorem plain (f : FuncId) (fn : Func) (hf : Tryd.pinned.checked.prog.funcNamed "loop.example/g01543/laws.FnFits" = some f) (hfn : Tryd.pinned.checked.prog.funcs[f]? = some fn) :
    Rows.fnFitsCard.stood.looks = Tryd.pinned.checked.prog.looks [] ∧ ∀ (j : Nat) t, fn.params[j]? = some t → Tryd.pinned.checked.prog.wantsStandIn t = false := by
  obtain rfl : f = 3 := Option.some.inj ((show Tryd.prog.funcNamed "loop.example/g01543/laws.FnFits" = some 3 by kernel_rfl).symm.trans hf) |>.symm
  obtain rfl : fn = Tryd.f3 := (Option.some.inj (Tryd.func3.symm.trans hfn)).symm
  refine ⟨by kernel_rfl, fun j t ht => ?_⟩
  rw [Tryd.params3] at ht
  have hm := Array.mem_of_getElem? ht
  simp only [List.mem_toArray, List.mem_cons, List.not_mem_nil, or_false] at hm
  rcases hm with rfl
  · exact (show Tryd.prog.wantsStandIn 22 = false by kernel_rfl)

end Go.Proofs.YtldkhdoboieibaaDoor.lawFits
namespace Go.Proofs.YtldkhdoboieibaaDoor
/-- The card. -/
theorem fnFits_card : Rows.FnFitsCardSaid :=
  Claim7.holds_tied_plain_at .later [] _ _ _ _ lawFits.said (fun _ h => by cases h) (by kernel_rfl) (fun _ h => by cases h) fnFits_row_tie rfl ⟨rfl, rfl⟩ (by kernel_rfl) rfl lawFits.plain (by kernel_rfl)
end Go.Proofs.YtldkhdoboieibaaDoor
